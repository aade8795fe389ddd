/-
  Layer 29: the answer's Run. Own work.
-/
import Derived.Test.YtlcbfahaapodmaaRp29
import Derived.Deep.LoopGhost
namespace Go.Proofs.Ytlcbfahaapodmaa
set_option linter.unusedVariables false
set_option linter.unusedSimpArgs false
open Go.RowKit

theorem rows_of29 {w : World} {a : Option Addr} {n cp : Nat} {cs : List (List Int)} (h : Reads2 w (.slice a n cp) cs) : n = cs.length ∧ ∃ rows : List Value, rows.length = cs.length ∧ (∀ u ∈ rows, u.oneCell' = true) ∧
    (∀ (j : Nat) u, rows[j]? = some u → ∃ b, a = some b ∧ w.cell? (b.add j) = some u) ∧ ∀ (j : Nat) d, cs[j]? = some d → ∃ r, rows[j]? = some r ∧ Reads w iV r d := by
  obtain ⟨a0, c0, e0, _, hcell⟩ := h
  cases e0
  refine ⟨rfl, ?_⟩
  cases a with
  | none =>
    have : cs = [] := by
      cases cs with
      | nil => rfl
      | cons d cs => obtain ⟨b, r, e, _⟩ := hcell 0 d rfl; cases e
    subst this
    exact ⟨[], rfl, by simp, by simp, by simp⟩
  | some b =>
    have hat : ∀ j, j < cs.length → ∃ r d, cs[j]? = some d ∧ w.cell? (b.add j) = some r ∧ Reads w iV r d := fun j hj => by
      obtain ⟨b1, r, e, h1, h2⟩ := hcell j cs[j] (List.getElem?_eq_getElem hj)
      cases e
      exact ⟨r, _, List.getElem?_eq_getElem hj, h1, h2⟩
    refine ⟨(List.range cs.length).map (fun j => (w.cell? (b.add j)).getD undef), by simp, fun u hu => ?_, fun j u hj => ?_, fun j d hj => ?_⟩
    · obtain ⟨j, hj, rfl⟩ := List.mem_map.1 hu
      obtain ⟨r, d, h0, h1, h2⟩ := hat j (List.mem_range.1 hj)
      rw [h1]
      obtain ⟨ra, rc, rfl, _⟩ := reads_shape h2
      rfl
    · have hjl : j < cs.length := by have := (List.getElem?_eq_some_iff.1 hj).1; simpa using this
      obtain ⟨r, d, h0, h1, h2⟩ := hat j hjl
      rw [List.getElem?_map, List.getElem?_range hjl] at hj
      simp only [Option.map_some, Option.some.injEq, h1, Option.getD_some] at hj
      subst hj
      exact ⟨b, rfl, h1⟩
    · have hjl := (List.getElem?_eq_some_iff.1 hj).1
      obtain ⟨r, d', h0, h1, h2⟩ := hat j hjl
      rw [hj] at h0
      cases h0
      exact ⟨r, by rw [List.getElem?_map, List.getElem?_range hjl]; simp [h1], h2⟩
/-- a copy of all clauses -/
theorem appAll29 {ops : Array Oper} {rest : List Oper} {o : Oper} {a : Act} {Q : Exit → Act → World → Prop} {w : World} (hgd : o.guard = none) (s x : Operand)
    (ho : o.op = .call { callee := .builtin .append, args := #[s, x], argTypes := #[22, 22] }) {cs : List (List Int)} {ca : Option Addr} {cp : Nat} (hs : a.eval s = .slice (some ⟨w.heap.size, 0, none⟩) 0 0) (hx : a.eval x = .slice ca cs.length cp)
    (hc : Reads2 w (.slice ca cs.length cp) cs) (hn : cs.length ≤ 1000000)
    (hK : ∀ v' w' rows, w'.ownsRow w.heap.size 27 1 v' cs.length rows → rows.length = cs.length → (∀ (j : Nat) d, cs[j]? = some d → ∃ r, rows[j]? = some r ∧ Reads w iV r d) → w.grownBy w' none → wpList Try.prog ops Q rest (a.put o.dst v') w') :
    wpList Try.prog ops Q (o :: rest) a (w.alloc (.cells #[] 27)) := by
  obtain ⟨_, rows, hrl, h1c, hcells, hel⟩ := rows_of29 hc
  have hown := World.ownsRow_lit (base := w.heap.size) (e := 27) (size := 1) w #[] 0 (Nat.le_refl _) (by decide) (by simp)
  obtain ⟨i, hi, hz, hsize, hby⟩ := info_parts row29_info
  cases ca with
  | none =>
    have hcs : cs = [] := by
      cases cs with
      | nil => rfl
      | cons d cs =>
        have hl : rows.length = cs.length + 1 := by simpa using hrl
        obtain ⟨b, e, _⟩ := hcells 0 rows[0] (List.getElem?_eq_getElem (by omega))
        cases e
    subst hcs
    refine wpList_plain hgd fun K' hK' => ?_
    have hr : (Builtin.append_ #[22, 22] o.type #[.slice (some ⟨w.heap.size, 0, none⟩) 0 0, .slice none 0 cp]).run Try.prog (w.alloc (.cells #[] 27)) = .ok (.slice (some ⟨w.heap.size, 0, none⟩) 0 0) (w.alloc (.cells #[] 27)) := by
      simp [Builtin.append_, run_underlying Try.underlying22, sizeOf, typeInfo, hi, Builtin.lenOf, Builtin.firstCells, storeCells]
    have hx' : a.eval x = .slice none 0 cp := hx
    unfold Oper.wp execOp
    simp only [ho, resolve, invoke, builtin, Sem.run_bind, Sem.run_pure, Result.andThen_ok, List.map_toArray, List.map_cons, List.map_nil, hs, hx', hr]
    exact hK' _ _ (hK _ _ [] hown rfl (fun j d hj => by simp at hj) (World.grownBy_alloc _ _ _))
  | some b =>
    refine wpList_append_own_at _ hgd s x 22 ho w.heap.size 27 i _ 1 24 Try.underlying22 hi hz hsize hby rfl (by omega) _ 0 [] hs hown b cs.length cp rows hx (by rw [hrl, Nat.mul_one]) (fun j u hj => ?_) h1c (by unfold maxLen; omega) (by omega) (by simp) ?_
    · obtain ⟨b', e, h2⟩ := hcells j u hj
      cases e
      exact (World.grownBy_alloc w _ none).cell h2 (by simp)
    · intro v' w' h2 h3 _ _
      exact hK v' w' rows (by have := h2; rw [Nat.zero_add, List.nil_append] at this; exact this) hrl hel (copy_grow h3)
/-- what the steps keep -/
structure RInv (C0 : Cs) (t : TS) : Prop where
  sz : t.fx.length + sizeS t ≤ sizeC C0 + 1
  sg : t.sg ≤ t.fx.length
  lits : ∀ c ∈ t.C, ∀ n ∈ c, ∃ c0 ∈ C0, n ∈ c0
theorem fixC_lits {n : Int} {C : Cs} : ∀ c ∈ fixC n C, ∀ m ∈ c, ∃ c0 ∈ C, m ∈ c0 := fun c hc m hm => by
  obtain ⟨d, hd, rfl⟩ := List.mem_map.1 hc
  exact ⟨d, (List.mem_filter.1 hd).1, (List.mem_filter.1 hm).1⟩
theorem rstep_cases {vars : Nat} {s t : TS} (h : rstep vars s = some t) : (∀ c ∈ t.C, ∀ n ∈ c, ∃ c0 ∈ s.C, n ∈ c0) ∧ ((t.fx = s.fx ∧ t.sg = s.sg) ∨ (∃ n, t.fx = s.fx ++ [n]) ∧ t.sg ≤ s.sg + 1) := by
  unfold rstep at h
  split at h
  · next i k hd =>
    simp only [Option.some.injEq] at h
    subst h
    refine ⟨fun c hc n hn => ?_, .inl ⟨rfl, rfl⟩⟩
    rcases List.mem_or_eq_of_mem_set hc with hc | rfl
    · exact ⟨c, hc, hn⟩
    · obtain ⟨hi, _⟩ := dupM_some hd
      have := List.mem_of_mem_eraseIdx hn
      rw [List.getD, List.getElem?_eq_getElem hi, Option.getD_some] at this
      exact ⟨_, List.getElem_mem hi, this⟩
  · split at h
    · simp only [Option.some.injEq] at h
      subst h
      exact ⟨fun c hc n hn => ⟨c, List.mem_of_mem_eraseIdx hc, hn⟩, .inl ⟨rfl, rfl⟩⟩
    · split at h
      · simp only [Option.some.injEq] at h
        subst h
        refine ⟨fun c hc n hn => ?_, .inl ⟨rfl, rfl⟩⟩
        rw [List.mem_singleton.1 hc] at hn
        simp at hn
      · split at h
        · simp only [Option.some.injEq] at h
          subst h
          exact ⟨fixC_lits, .inr ⟨⟨_, rfl⟩, Nat.le_refl _⟩⟩
        · split at h
          · simp only [Option.some.injEq] at h
            subst h
            exact ⟨fixC_lits, .inr ⟨⟨_, rfl⟩, Nat.le_succ _⟩⟩
          · cases hc : covM s.C with
            | none => rw [hc] at h; cases h
            | some k =>
              rw [hc] at h
              simp only [Option.map_some, Option.some.injEq] at h
              subst h
              exact ⟨fun c hc n hn => ⟨c, List.mem_of_mem_eraseIdx hc, hn⟩, .inl ⟨rfl, rfl⟩⟩
theorem RInv.step {C0 : Cs} {vars : Nat} {s t : TS} (hi : RInv C0 s) (he : s.en = false) (h : rstep vars s = some t) : RInv C0 t := by
  obtain ⟨h1, h2⟩ := rstep_cases h
  have hlt := rstep_lt he h
  have hsz := hi.sz
  have hsg := hi.sg
  refine ⟨?_, ?_, fun c hc n hn => ?_⟩
  · rcases h2 with ⟨e, _⟩ | ⟨⟨n, e⟩, _⟩
    · rw [e]; omega
    · rw [e, List.length_append]
      have : [n].length = 1 := rfl
      omega
  · rcases h2 with ⟨e, e2⟩ | ⟨⟨n, e⟩, e2⟩
    · rw [e, e2]; exact hsg
    · rw [e, List.length_append]
      have : [n].length = 1 := rfl
      omega
  · obtain ⟨c1, k1, k2⟩ := h1 c hc n hn
    exact hi.lits c1 k1 n k2
theorem KR.start {w w1 : World} {v1 : Value} {cs : List (List Int)} {rows : List Value} (hg1 : w.grownBy w1 none) (ho1 : w1.ownsRow w.heap.size 27 1 v1 cs.length rows) (hrl : rows.length = cs.length) (hel : ∀ (j : Nat) d, cs[j]? = some d → ∃ r, rows[j]? = some r ∧ Reads w iV r d) :
    KR (w1.alloc (.cells #[v1, .slice none 0 0, .slice none 0 0, .bool false] 39)) w.heap.size w1.heap.size v1 (.slice none 0 0) (.slice none 0 0) { C := cs } := by
  have hg2 := World.grownBy_alloc w1 (.cells #[v1, .slice none 0 0, .slice none 0 0, .bool false] 39) none
  have hsz := hg1.size
  have hp : ∀ b, privK w1.heap.size (.slice none 0 0) (.slice none 0 0) b → b = w1.heap.size := fun b hb => by
    rcases hb with hb | hb | hb
    · exact hb
    · cases hb
    · cases hb
  refine ⟨heap_alloc_new _ _, World.ownsRow_nil _ _ _ _, ⟨[], rfl, World.ownsRow_nil _ _ _ _⟩, ?_, by simp [Value.ownBlock], by simp [Value.ownBlock], fun b hb => (by cases hb), hsz⟩
  refine RdK.own (own_kept0 ho1 hg2) (fun b hb hb2 => ?_) hrl (fun j d hj => ?_)
  · have h1 := (ho1.lt b hb).2
    have h2 := hp b hb2
    omega
  · obtain ⟨r, k1, k2⟩ := hel j d hj
    have h3 : Rd1 w (privK w1.heap.size (.slice none 0 0) (.slice none 0 0)) r d := Rd1.of k2 (fun b hb => by have := hp b hb; omega)
    exact ⟨r, k1, h3.keep (KeepW.of (hg1.trans hg2) (fun b h => by cases h))⟩
section
variable {w : World}
set_option maxRecDepth 100000 in
set_option maxHeartbeats 1000000 in
theorem RRun29 (vars : Nat) (cv : Value) (cs : List (List Int)) (hc : Reads2 w cv cs) (hv : vars ≤ 1000) (hl : sizeC cs ≤ 100000) (hlit : ∀ c ∈ cs, ∀ n ∈ c, -1000000 ≤ n ∧ n ≤ 1000000) :
    Calls Try.prog 11 #[cv, .int .i64 (vars : Int)] w fun e w' => ∃ K cv' fv uv, e = .returned (.pointer (some ⟨K, 0, none⟩)) ∧ Below w.heap.size w w' ∧ KR w' w.heap.size K cv' fv uv (trimM vars cs) := by
  obtain ⟨ca, cp, rfl, hlen, hrow⟩ := hc
  have HC := Lib.hid (show Reads2 w (.slice ca cs.length cp) cs from ⟨ca, cp, rfl, hlen, hrow⟩)
  have hcl6 : cs.length ≤ 1000000 := Nat.le_trans (size_len _) (by omega)
  have HL := Lib.hid hl
  have HLI := Lib.hid hlit
  clear hlen hrow hl hlit
  go_enter Try.func11, Try.ntmps11
  go_wp2_with (at_builtin; refine appAll29 rfl _ _ rfl (by rfl) (by rfl) HC.out hcl6 ?_)
  intro v1 w1 rows ho1 hrl hel hg1
  obtain ⟨va, vc, rfl⟩ := own_shape29 ho1
  have HKS := Lib.hid (KR.start hg1 ho1 hrl hel)
  have HBS := Lib.hid (show Below w.heap.size w (w1.alloc (.cells #[.slice va cs.length vc, .slice none 0 0, .slice none 0 0, .bool false] 39)) from ((Below.refl w.heap.size w).grown hg1 (Nat.le_refl _) (fun k h => by cases h)).alloc hg1.size _)
  clear ho1 hrl hel hg1
  go_upto_region 2 with fail
  generalize w1.alloc (.cells #[.slice va cs.length vc, .slice none 0 0, .slice none 0 0, .bool false] 39) = w2 at HKS HBS ⊢
  generalize w1.heap.size = K at HKS ⊢
  go_loopg [20] (sizeS { C := cs }) (fun k z wr => ∃ cv fv uv t, KR wr w.heap.size K cv fv uv t ∧ Below w.heap.size w wr ∧ RInv cs t ∧ finM vars t = trimM vars cs ∧ sizeS t ≤ k)
  case atStart => exact ⟨_, _, _, _, HKS.out, HBS.out, ⟨by simp [sizeS], Nat.le_refl _, fun c hc n hn => ⟨c, hc, hn⟩⟩, fin_trim vars cs, Nat.le_refl _⟩
  case round =>
    obtain ⟨cv, fv, uv, t, hk, hb, hi, hf, hsz⟩ := hrel
    have HK := Lib.hid hk
    have HB := Lib.hid hb
    have HI := Lib.hid hi
    have HF := Lib.hid hf
    have y3 : wr.cell? ⟨K, 3, none⟩ = some (.bool t.en) := hk.cell 3
    cases hen : t.en with
    | true =>
      rw [hen] at y3
      have HFE := Lib.hid (show t = trimM vars cs from by rw [← hf, fin_done (.inl hen)])
      clear hk hb hi hf hen
      go_wp2
      go_ret
      exact ⟨K, cv, fv, uv, rfl, HB.out, by rw [← HFE.out]; exact HK.out⟩
    | false =>
      rw [hen] at y3
      have hss : sizeS t = sizeC t.C + 1 := by unfold sizeS; rw [hen]; rfl
      have h1 := hi.sz
      have h2 := hi.sg
      have h3 := HL.out
      have HST := Lib.hid (RStep29 hk vars hv (fun c hc n hn => by
        obtain ⟨c0, k1, k2⟩ := hi.lits c hc n hn
        exact HLI.out c0 k1 n k2) (by omega) (by omega) (by omega) hen)
      have HEN := Lib.hid hen
      clear hk hb hi hf hen hss h1 h2 h3
      go_wp2_with fail
      refine HST.out.mono ?_
      rintro e w5 ⟨hb5, hr⟩
      have HB5 := Lib.hid (HB.out.trans hb5)
      rcases hr with ⟨hn, rfl, hw5⟩ | ⟨t2, cv2, fv2, uv2, hs2, rfl, hk2⟩
      · have HFE := Lib.hid (show t = trimM vars cs from by rw [← HF.out, fin_done (.inr (rstep_none hn))])
        obtain rfl : wr = w5 := hw5.symm
        clear hn hb5
        go_wp2
        go_ret
        exact ⟨K, cv, fv, uv, rfl, HB.out, by rw [← HFE.out]; exact HK.out⟩
      · have HK2 := Lib.hid hk2
        have HI2 := Lib.hid (HI.out.step HEN.out hs2)
        have HF2 := Lib.hid ((rstep_fin HEN.out hs2).symm.trans HF.out)
        have hlt := rstep_lt HEN.out hs2
        clear hk2 hb5 hs2
        go_wp2_with fail
        go_roundg (sizeS t2)
        case measure => omega
        case rel => exact ⟨cv2, fv2, uv2, t2, HK2.out, HB5.out, HI2.out, HF2.out, Nat.le_refl _⟩
end
end Go.Proofs.Ytlcbfahaapodmaa
