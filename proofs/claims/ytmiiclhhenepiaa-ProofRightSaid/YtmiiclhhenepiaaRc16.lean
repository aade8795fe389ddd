/-
  Layer 16: the answer's Check. Own work.
-/
import Derived.Test.YtmiiclhhenepiaaRf16
import Derived.Test.YtmiiclhhenepiaaCh16
namespace Go.Proofs.Ytmiiclhhenepiaa
set_option linter.unusedVariables false
set_option linter.unusedSimpArgs false
open Go.RowKit

theorem flat_len16 : ∀ (l : List (List Int)), (∀ c ∈ l, c.length ≤ 20) → l.flatten.length ≤ 20 * l.length
  | [], _ => by simp
  | c :: l, h => by
    have h1 := flat_len16 l (fun x hx => h x (List.mem_cons_of_mem _ hx))
    have h2 := h c (by simp)
    rw [List.flatten_cons, List.length_append, List.length_cons]
    omega
/-- rows of rows of one's own, whose elements came in -/
structure AllR (w : World) (v : Value) (l : List (List Int)) (wr : World) (rows : List Value) : Prop where
  own : wr.ownsRow w.heap.size 31 1 v l.length rows
  el : ∀ (j : Nat) d, l[j]? = some d → ∃ r, rows[j]? = some r ∧ Reads w iV r d
  b : Below w.heap.size w wr
section
variable {w wr w' : World} {v v' : Value} {l : List (List Int)} {rows : List Value}
theorem AllR.shape (h : AllR w v l wr rows) : ∃ a c, v = .slice a l.length c := by
  rcases h.own.2 with ⟨e, e0⟩ | ⟨g, c, cur, e, _⟩
  · exact ⟨none, 0, by rw [e, e0]⟩
  · exact ⟨_, _, e⟩
theorem AllR.reads (h : AllR w v l wr rows) : Reads2 wr v l := by
  rcases h.own.2 with ⟨e, e0⟩ | ⟨g, c, cur, e, _, _, h1, h2, _⟩
  · have : l = [] := List.eq_nil_of_length_eq_zero e0
    subst this
    exact ⟨none, 0, e, by simp, fun j d hj => by simp at hj⟩
  · refine ⟨some ⟨g, 0, none⟩, c, e, by unfold maxLen at h2; omega, fun j d hj => ?_⟩
    obtain ⟨r, hr, hrd⟩ := h.el j d hj
    exact ⟨⟨g, 0, none⟩, r, rfl, h.own.cells (g := g) (by rw [e]; rfl) j r hr, hrd.below h.b (Nat.le_refl _)⟩
theorem AllR.push {c : List Int} {r : Value} (h : AllR w v l wr rows) (ho : w'.ownsRow w.heap.size 31 1 v' (l.length + 1) (rows ++ [r])) (hg : wr.grownBy w' v.ownBlock) (hr : Reads w iV r c) : AllR w v' (l ++ [c]) w' (rows ++ [r]) := by
  have hlen : rows.length = l.length := by have := h.own.1; omega
  refine ⟨by rw [List.length_append]; exact ho, fun j d hj => ?_, ⟨hg.os.trans h.b.os, hg.tape.trans h.b.tape, hg.output.trans h.b.output, Nat.le_trans h.b.size hg.size, fun k hk => (hg.block k (Nat.lt_of_lt_of_le hk h.b.size) (fun e => by have := (h.own.lt k e.symm).1; omega)).trans (h.b.block k hk)⟩⟩
  by_cases hl : j < l.length
  · rw [List.getElem?_append_left hl] at hj
    obtain ⟨r0, h1, h2⟩ := h.el j d hj
    exact ⟨r0, by rw [List.getElem?_append_left (by omega)]; exact h1, h2⟩
  · rw [List.getElem?_append_right (by omega)] at hj
    have := (List.getElem?_eq_some_iff.1 hj).1
    simp at this
    have h0 : j - l.length = 0 := by omega
    rw [h0] at hj
    simp at hj
    subst hj
    exact ⟨r, by rw [List.getElem?_append_right (by omega), hlen, h0]; rfl, hr⟩
end
theorem rows_of16 {w : World} {a : Option Addr} {n cp : Nat} {cs : List (List Int)} (h : Reads2 w (.slice a n cp) cs) : n = cs.length ∧ ∃ rows : List Value, rows.length = cs.length ∧ (∀ u ∈ rows, u.oneCell' = true) ∧
    (∀ (j : Nat) u, rows[j]? = some u → ∃ b, a = some b ∧ w.cell? (b.add j) = some u) ∧ ∀ (j : Nat) d, cs[j]? = some d → ∃ r, rows[j]? = some r ∧ Reads w iV r d := by
  obtain ⟨a0, c0, e0, _, hcell⟩ := h
  cases e0
  refine ⟨rfl, ?_⟩
  cases a with
  | none =>
    have : cs = [] := by
      cases cs with
      | nil => rfl
      | cons d cs => obtain ⟨b, r, e, _⟩ := hcell 0 d rfl; cases e
    subst this
    exact ⟨[], rfl, by simp, by simp, by simp⟩
  | some b =>
    have hat : ∀ j, j < cs.length → ∃ r d, cs[j]? = some d ∧ w.cell? (b.add j) = some r ∧ Reads w iV r d := fun j hj => by
      obtain ⟨b1, r, e, h1, h2⟩ := hcell j cs[j] (List.getElem?_eq_getElem hj)
      cases e
      exact ⟨r, _, List.getElem?_eq_getElem hj, h1, h2⟩
    refine ⟨(List.range cs.length).map (fun j => (w.cell? (b.add j)).getD undef), by simp, fun u hu => ?_, fun j u hj => ?_, fun j d hj => ?_⟩
    · obtain ⟨j, hj, rfl⟩ := List.mem_map.1 hu
      obtain ⟨r, d, h0, h1, h2⟩ := hat j (List.mem_range.1 hj)
      rw [h1]
      obtain ⟨ra, rc, rfl, _⟩ := reads_shape h2
      rfl
    · have hjl : j < cs.length := by have := (List.getElem?_eq_some_iff.1 hj).1; simpa using this
      obtain ⟨r, d, h0, h1, h2⟩ := hat j hjl
      rw [List.getElem?_map, List.getElem?_range hjl] at hj
      simp only [Option.map_some, Option.some.injEq, h1, Option.getD_some] at hj
      subst hj
      exact ⟨b, rfl, h1⟩
    · have hjl := (List.getElem?_eq_some_iff.1 hj).1
      obtain ⟨r, d', h0, h1, h2⟩ := hat j hjl
      rw [hj] at h0
      cases h0
      exact ⟨r, by rw [List.getElem?_map, List.getElem?_range hjl]; simp [h1], h2⟩
/-- all these clauses behind a row of one's own -/
theorem appAll16 {ops : Array Oper} {rest : List Oper} {o : Oper} {a : Act} {Q : Exit → Act → World → Prop} {w0 w : World} (hgd : o.guard = none) (s x : Operand)
    (ho : o.op = .call { callee := .builtin .append, args := #[s, x], argTypes := #[22, 22] }) {cs : List (List Int)} {ca : Option Addr} {cp : Nat} (hs : a.eval s = .slice (some ⟨w.heap.size, 0, none⟩) 0 0) (hx : a.eval x = .slice ca cs.length cp)
    (hb : Below w0.heap.size w0 w) (hc : Reads2 w0 (.slice ca cs.length cp) cs) (hn : cs.length ≤ 1000000)
    (hK : ∀ v' w' rows, AllR w0 v' cs w' rows → wpList Try.prog ops Q rest (a.put o.dst v') w') :
    wpList Try.prog ops Q (o :: rest) a (w.alloc (.cells #[] 31)) := by
  obtain ⟨_, rows, hrl, h1c, hcells, hel⟩ := rows_of16 hc
  have hown := World.ownsRow_lit (base := w0.heap.size) (e := 31) (size := 1) w #[] 0 hb.size (by decide) (by simp)
  have hb2 : Below w0.heap.size w0 (w.alloc (.cells #[] 31)) := hb.alloc hb.size _
  obtain ⟨i, hi, hz, hsize, hby⟩ := info_parts row16_info
  cases ca with
  | none =>
    have hcs : cs = [] := by
      cases cs with
      | nil => rfl
      | cons d cs =>
        have hl : rows.length = cs.length + 1 := by simpa using hrl
        obtain ⟨b, e, _⟩ := hcells 0 rows[0] (List.getElem?_eq_getElem (by omega))
        cases e
    subst hcs
    refine wpList_plain hgd fun K' hK' => ?_
    have hr : (Builtin.append_ #[22, 22] o.type #[.slice (some ⟨w.heap.size, 0, none⟩) 0 0, .slice none 0 cp]).run Try.prog (w.alloc (.cells #[] 31)) = .ok (.slice (some ⟨w.heap.size, 0, none⟩) 0 0) (w.alloc (.cells #[] 31)) := by
      simp [Builtin.append_, run_underlying Try.underlying22, sizeOf, typeInfo, hi, Builtin.lenOf, Builtin.firstCells, storeCells]
    have hx' : a.eval x = .slice none 0 cp := hx
    unfold Oper.wp execOp
    simp only [ho, resolve, invoke, builtin, Sem.run_bind, Sem.run_pure, Result.andThen_ok, List.map_toArray, List.map_cons, List.map_nil, hs, hx', hr]
    exact hK' _ _ (hK _ _ [] ⟨hown, fun j d hj => by simp at hj, hb2⟩)
  | some b =>
    refine wpList_append_own_at _ hgd s x 22 ho w0.heap.size 31 i _ 1 24 Try.underlying22 hi hz hsize hby rfl (by omega) _ 0 [] hs hown b cs.length cp rows hx (by rw [hrl, Nat.mul_one]) (fun j u hj => ?_) h1c (by unfold maxLen; omega) (by omega) hb2.size ?_
    · obtain ⟨b', e, h2⟩ := hcells j u hj
      cases e
      exact (World.cell?_of_block (hb2.block _ (World.block_lt_of_cell? w0 _ h2))).trans h2
    · intro v' w' h2 h3 _ _
      refine hK v' w' rows ⟨by have := h2; rw [Nat.zero_add, List.nil_append] at this; exact this, hel, ?_⟩
      exact ⟨h3.os.trans hb2.os, h3.tape.trans hb2.tape, h3.output.trans hb2.output, Nat.le_trans hb2.size h3.size, fun k hk => (h3.block k (Nat.lt_of_lt_of_le hk hb2.size) (fun e => by have := hb.size; have := Option.some.inj e; simp at this; omega)).trans (hb2.block k hk)⟩
set_option maxRecDepth 100000 in
set_option maxHeartbeats 1000000 in
theorem RCheck_any (cv pv : Value) (cs ps : List (List Int)) (w : World) (hc : Reads2 w cv cs) (hm : Mild16 cs) (hl1 : cs.length ≤ 100) (hl2 : ∀ c ∈ cs, c.length ≤ 20) (hp : Reads2 w pv ps) (hm2 : Mild16 ps) (hl3 : ps.length ≤ 100) (hl4 : ∀ c ∈ ps, c.length ≤ 20) :
    Calls Try.prog 17 #[cv, pv] w (CkP cs ps w) := by
  have HC := Lib.hid hc
  have HP := Lib.hid hp
  obtain ⟨a, cp, rfl, hlen, _⟩ := hc
  obtain ⟨pa, pc, rfl, hplen, _⟩ := hp
  have hlI : (ps.length : Int) ≤ 9223372036854775807 := by omega
  clear hlen hplen
  go_enter Try.func17, Try.ntmps17
  go_wp2_with (at_builtin
               refine appAll16 (w0 := w) rfl _ _ rfl (by rfl) (by rfl) (Below.refl _ _) HC.out (by omega) ?_)
  intro v0 w1 rows0 hall0
  have HALL0 := Lib.hid hall0
  clear hall0
  go_wp2_with fail
  go_loopw [5, 13] (fun v iv wr => ∃ (j : Nat) (rows : List Value) (A : List (List Int)), j ≤ ps.length ∧ iv = .int .i64 (j : Int) ∧ A = cs ++ ps.take j ∧ AllR w v A wr rows ∧ ∀ (i : Nat) d, i < j → ps[i]? = some d → Fol (cs ++ ps.take i) d) (fun _ iv _ => ps.length - (intOf iv).toNat)
  case atStart => exact ⟨0, rows0, cs, by omega, rfl, by rw [List.take_zero, List.append_nil], HALL0.out, fun i d hi => by omega⟩
  case round =>
    obtain ⟨j, rows, A, hj, rfl, hA, hall, hfol⟩ := hrel
    have HA := Lib.hid hA
    obtain ⟨va, vc, rfl⟩ := hall.shape
    have HAL := Lib.hid hall
    have HFO := Lib.hid hfol
    have HBW := Lib.hid hall.b
    clear hall hfol HALL0 hA
    by_cases hlt : j < ps.length
    · obtain ⟨c, hcj⟩ : ∃ c, ps[j]? = some c := ⟨_, List.getElem?_eq_getElem hlt⟩
      obtain ⟨b, r, rfl, hr, hrow⟩ := HP.out.row hcj
      obtain ⟨hr2, hrd⟩ := hrow wr HBW.out
      have hrd0 := (hrow w (Below.refl _ _)).2
      obtain ⟨ra, rc, rfl, _, _⟩ := reads_shape hrd0
      have HRD0 := Lib.hid hrd0
      have hjI : (j : Int) < (ps.length : Int) := by omega
      have hc20 := hl4 c (List.mem_of_getElem? hcj)
      have hlj : (ps.take j).length = j := by rw [List.length_take]; omega
      have hfl := flat_len16 A (fun x hx => (List.mem_append.1 (HA.out ▸ hx)).elim (hl2 x) (fun h => hl4 x (List.mem_of_mem_take h)))
      have hll : A.length ≤ 200 := by rw [HA.out, List.length_append]; omega
      have HRF := Lib.hid (RFollows_any _ _ A c wr HAL.out.reads (fun x hx => (List.mem_append.1 (HA.out ▸ hx)).elim (hm x) (fun h => hm2 x (List.mem_of_mem_take h))) hrd (fun n hn => hm2 c (List.mem_of_getElem? hcj) n hn) (by omega))
      have HCJ := Lib.hid hcj
      clear hcj hrow hr hrd hrd0 hfl
      go_wp2_with fail
      refine HRF.out.mono ?_
      rintro e w3 ⟨⟨b3, rfl, hb3⟩, hbb⟩
      have HFL := Lib.hid (show b3 = true ↔ Fol (cs ++ ps.take j) c by rw [← HA.out]; exact hb3)
      have hbs := hbb.size
      have HB3 := Lib.hid (show Below w.heap.size wr w3 from ⟨hbb.os, hbb.tape, hbb.output, hbb.size, fun k hk => hbb.block k (Nat.lt_of_lt_of_le hk HBW.out.size)⟩)
      have HAL3 := Lib.hid (show AllR w (.slice va A.length vc) A w3 rows from ⟨HAL.out.own.kept (row := none) ⟨hbb.os, hbb.tape, hbb.output, hbb.size, fun k hk _ => hbb.block k hk⟩ (by cases h : (Value.slice va A.length vc).ownBlock with | none => exact .inl rfl | some b => exact .inr (by simp)), HAL.out.el, HBW.out.trans HB3.out⟩)
      clear hbb hb3 HRF
      cases b3 with
      | false =>
        have HF := Lib.hid (show CkP cs ps w (.returned (.int .i64 (j : Int))) w3 from ⟨⟨_, rfl, .inl ⟨j, c, HCJ.out, HFO.out, (fun h => by have := HFL.out.2 h; cases this), rfl⟩⟩, HAL3.out.b⟩)
        clear HFL
        go_wp2
        go_ret
        exact HF.out
      | true =>
        have ho := HAL3.out.own
        have hbs3 := HAL3.out.b.size
        have HFL2 := Lib.hid (HFL.out.1 rfl)
        clear HFL
        go_wp2_with (at_builtin
                     refine appR rfl _ _ rfl w3 ra c.length rc (by rfl) (by rfl) ho (by omega) hbs3 ?_)
        intro g cap w4 ho4 hg4 _
        have HN := Lib.hid (show AllR w (.slice (some ⟨g, 0, none⟩) (A.length + 1) cap) (A ++ [c]) w4 (rows ++ [.slice ra c.length rc]) from by
          exact HAL3.out.push ho4 hg4 HRD0.out)
        clear ho ho4 hg4
        go_wp2_with fail
        exact ⟨⟨j + 1, _, A ++ [c], by omega, by go_num, by rw [HA.out, List.take_add_one, HCJ.out, List.append_assoc]; rfl, HN.out, fun i d hi hd => by
          by_cases he : i < j
          · exact HFO.out i d he hd
          · have : i = j := by omega
            subst this
            rw [HCJ.out] at hd
            cases hd
            exact HFL2.out⟩, by simp [intOf]; omega⟩
    · have hle : (ps.length : Int) ≤ (j : Int) := by omega
      have HALL := Lib.hid (show ∀ (i : Nat) d, ps[i]? = some d → Fol (cs ++ ps.take i) d from fun i d hd => HFO.out i d (by have := (List.getElem?_eq_some_iff.1 hd).1; omega) hd)
      by_cases h0 : ps.length = 0
      · have hp0 : ps = [] := List.eq_nil_of_length_eq_zero h0
        have HF := Lib.hid (show CkP cs ps w (.returned (.int .i64 (ps.length : Int))) wr from ⟨⟨_, rfl, .inr ⟨HALL.out, by rw [hp0]; rfl⟩⟩, HBW.out⟩)
        have h0I : (ps.length : Int) = 0 := by omega
        clear hp0 h0 HALL hle hj hlt
        rw [h0I] at HF
        go_wp2
        go_ret
        exact HF.out
      · obtain ⟨d, hd⟩ : ∃ d, ps[ps.length - 1]? = some d := ⟨_, List.getElem?_eq_getElem (by omega)⟩
        obtain ⟨b, r, rfl, hr, hrow⟩ := HP.out.row hd
        obtain ⟨hr2, hrd2⟩ := hrow wr HBW.out
        obtain ⟨ra, rc, rfl, hrl, _⟩ := reads_shape hrd2
        obtain ⟨q, hq⟩ : ∃ q, q = ps.length - 1 := ⟨_, rfl⟩
        rw [← hq] at hr2 hd
        have hqI : (ps.length : Int) - 1 = (q : Int) := by omega
        have hw1 : IntKind.i64.wrap ((ps.length : Int) - 1) = (q : Int) := by rw [IntWalk.i64_in _ ⟨by omega, by omega⟩]; exact hqI
        have hqlt : (q : Int) < (ps.length : Int) := by omega
        have hqn : ¬ (ps.length : Int) = 0 := by omega
        have hqe : ¬ ps = [] := fun e => h0 (by rw [e]; rfl)
        have hqn2 : ¬ ps.length = 0 := h0
        have hee : endsEmpty ps = decide (d.length = 0) := by
          unfold endsEmpty
          rw [List.getLast?_eq_getElem?, ← hq, hd]
          cases d <;> simp
        have HFT := Lib.hid (fun (h : d.length = 0) => (show CkP cs ps w (.returned (.int .i64 (-1))) wr from ⟨⟨_, rfl, .inr ⟨HALL.out, by rw [if_pos (by rw [hee]; exact decide_eq_true h)]⟩⟩, HBW.out⟩))
        have HFN := Lib.hid (fun (h : ¬ d.length = 0) => (show CkP cs ps w (.returned (.int .i64 (ps.length : Int))) wr from ⟨⟨_, rfl, .inr ⟨HALL.out, by rw [if_neg (by rw [hee, decide_eq_false h]; simp)]⟩⟩, HBW.out⟩))
        clear hq hee hr hrow hrd2 hd h0 HALL hle
        by_cases hd0 : d.length = 0
        · have HF := Lib.hid (HFT.out hd0)
          have hd0I : ¬ (0 : Int) < (d.length : Int) := by omega
          clear HFT HFN
          go_wp2
          go_ret
          exact HF.out
        · have HF := Lib.hid (HFN.out hd0)
          have hd0I : (0 : Int) < (d.length : Int) := by omega
          clear HFT HFN
          go_wp2
          go_ret
          exact HF.out
end Go.Proofs.Ytmiiclhhenepiaa
