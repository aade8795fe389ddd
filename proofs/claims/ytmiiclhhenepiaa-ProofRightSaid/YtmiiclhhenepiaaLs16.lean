/-
  Layer 16: the literals of a clause. Own work.
-/
import Derived.Test.YtmiiclhhenepiaaLt16
namespace Go.Proofs.Ytmiiclhhenepiaa
set_option linter.unusedVariables false
set_option linter.unusedSimpArgs false
open Go.RowKit Go.WideElems Go.MapKept

def vsOne (vs : List Nat) (n : Int) : List Nat := if n = 0 then vs else vsPut vs n
def vsAll (vs : List Nat) (c : List Int) : List Nat := c.foldl vsOne vs
theorem vsOne_pre (vs : List Nat) (n : Int) : ∃ ext, vsOne vs n = vs ++ ext ∧ ext.length ≤ 1 := by
  unfold vsOne vsPut
  split
  · exact ⟨[], by simp, by simp⟩
  · split
    · exact ⟨[], by simp, by simp⟩
    · exact ⟨_, rfl, by simp⟩
theorem vsAll_pre : ∀ (c : List Int) (vs : List Nat), ∃ ext, vsAll vs c = vs ++ ext ∧ ext.length ≤ c.length
  | [], vs => ⟨[], by simp [vsAll], by simp⟩
  | n :: c, vs => by
    obtain ⟨e1, h1, h2⟩ := vsOne_pre vs n
    obtain ⟨e2, h3, h4⟩ := vsAll_pre c (vsOne vs n)
    refine ⟨e1 ++ e2, ?_, by simp; omega⟩
    show vsAll (vsOne vs n) c = _
    rw [h3, h1, List.append_assoc]
theorem vsAll_snoc (vs : List Nat) (c : List Int) (n : Int) : vsAll vs (c ++ [n]) = vsOne (vsAll vs c) n := by unfold vsAll; rw [List.foldl_append]; rfl
theorem vsAll_len (vs : List Nat) (c : List Int) : vs.length ≤ (vsAll vs c).length ∧ (vsAll vs c).length ≤ vs.length + c.length := by
  obtain ⟨e, h1, h2⟩ := vsAll_pre c vs
  rw [h1, List.length_append]
  omega
theorem vsPut_mem (vs : List Nat) (n : Int) : n.natAbs ∈ vsPut vs n := by unfold vsPut; split <;> simp_all
theorem vsAll_mem : ∀ (c : List Int) (vs : List Nat) (n : Int), n ∈ nz c → n.natAbs ∈ vsAll vs c
  | [], vs, n, h => by simp [nz] at h
  | m :: c, vs, n, h => by
    show _ ∈ vsAll (vsOne vs m) c
    rw [nz, List.mem_filter] at h
    have h0 : n ≠ 0 := by simpa using h.2
    rcases List.mem_cons.1 h.1 with rfl | h1
    · obtain ⟨e, h2, _⟩ := vsAll_pre c (vsOne vs n)
      rw [h2]
      refine List.mem_append_left _ ?_
      unfold vsOne
      rw [if_neg h0]
      exact vsPut_mem vs n
    · exact vsAll_mem c _ n (by rw [nz, List.mem_filter]; exact ⟨h1, h.2⟩)
theorem pl_ext {vs ext : List Nat} {v : Nat} (h : v ∈ vs) : pl16 (vs ++ ext) v = pl16 vs v := by
  unfold pl16
  rw [if_pos (List.mem_append_left _ h), if_pos h, List.idxOf_append, if_pos h]
theorem cd_ext {vs ext : List Nat} {n : Int} (h : n.natAbs ∈ vs) : cd (vs ++ ext) n = cd vs n := by unfold cd; rw [pl_ext h]
theorem pl_lt {vs : List Nat} {v : Nat} (h : v ∈ vs) : pl16 vs v < vs.length := by
  unfold pl16
  rw [if_pos h]
  exact List.idxOf_lt_length_of_mem h
theorem cd_lt {vs : List Nat} {n : Int} (h : n.natAbs ∈ vs) : cd vs n < 2 * vs.length := by
  have := pl_lt h
  unfold cd
  split <;> omega
theorem cd_inj {vs : List Nat} {n m : Int} (hn : n.natAbs ∈ vs) (hm : m.natAbs ∈ vs) (hn0 : n ≠ 0) (hm0 : m ≠ 0) (h : cd vs n = cd vs m) : n = m := by
  unfold cd at h
  have e1 : pl16 vs n.natAbs = pl16 vs m.natAbs := by split at h <;> split at h <;> omega
  have e2 : n.natAbs = m.natAbs := by
    unfold pl16 at e1
    rw [if_pos hn, if_pos hm] at e1
    have h1 := List.getElem_idxOf (List.idxOf_lt_length_of_mem hn)
    have h2 := List.getElem_idxOf (List.idxOf_lt_length_of_mem hm)
    rw [← h1, ← h2]
    congr 1
  split at h <;> split at h <;> omega
theorem cd_neg {vs : List Nat} {n : Int} (h : n ≠ 0) : cd vs (-n) = ng (cd vs n) := by
  unfold cd ng
  rw [Int.natAbs_neg]
  split <;> split <;> split <;> omega
/-- the different literals of a clause -/
structure LitsI (vs : List Nat) (c : List Int) (lits : List Nat) : Prop where
  nd : lits.Nodup
  mem : ∀ m, m ∈ lits ↔ ∃ n ∈ nz c, m = cd (vsAll vs c) n
  len : lits.length ≤ c.length
theorem nz_snoc (c : List Int) (n : Int) : nz (c ++ [n]) = nz c ++ (if n = 0 then [] else [n]) := by
  unfold nz
  rw [List.filter_append]
  by_cases h : n = 0
  · rw [if_pos h]; simp [h]
  · rw [if_neg h]; simp [h]
theorem LitsI.begin (vs : List Nat) : LitsI vs [] [] := ⟨by simp, fun m => by simp [nz], by simp⟩
theorem LitsI.zero {vs : List Nat} {c : List Int} {lits : List Nat} (h : LitsI vs c lits) : LitsI vs (c ++ [0]) lits := by
  refine ⟨h.nd, fun m => ?_, by have := h.len; simp; omega⟩
  rw [nz_snoc, if_pos rfl, List.append_nil, vsAll_snoc]
  unfold vsOne
  rw [if_pos rfl]
  exact h.mem m
theorem lits_mem {vs : List Nat} {c : List Int} {n : Int} (h0 : n ≠ 0) {lits : List Nat} (h : LitsI vs c lits) (m : Nat) : (∃ k ∈ nz (c ++ [n]), m = cd (vsAll vs (c ++ [n])) k) ↔ m ∈ lits ∨ m = cd (vsPut (vsAll vs c) n) n := by
  rw [nz_snoc, if_neg h0, vsAll_snoc]
  have e : vsOne (vsAll vs c) n = vsPut (vsAll vs c) n := by unfold vsOne; rw [if_neg h0]
  rw [e]
  obtain ⟨ext, he, _⟩ := vsOne_pre (vsAll vs c) n
  rw [e] at he
  have hcd : ∀ k ∈ nz c, cd (vsPut (vsAll vs c) n) k = cd (vsAll vs c) k := fun k hk => by rw [he, cd_ext (vsAll_mem c vs k hk)]
  constructor
  · rintro ⟨k, hk, rfl⟩
    rcases List.mem_append.1 hk with hk | hk
    · exact .inl ((h.mem _).2 ⟨k, hk, hcd k hk⟩)
    · rw [List.mem_singleton.1 hk]; exact .inr rfl
  · rintro (hm | rfl)
    · obtain ⟨k, hk, rfl⟩ := (h.mem m).1 hm
      exact ⟨k, List.mem_append_left _ hk, (hcd k hk).symm⟩
    · exact ⟨n, by simp, rfl⟩
theorem LitsI.twice {vs : List Nat} {c : List Int} {n : Int} (h0 : n ≠ 0) {lits : List Nat} (h : LitsI vs c lits) (hin : cd (vsPut (vsAll vs c) n) n ∈ lits) : LitsI vs (c ++ [n]) lits := by
  refine ⟨h.nd, fun m => ?_, by have := h.len; simp; omega⟩
  rw [lits_mem h0 h]
  constructor
  · exact .inl
  · rintro (h | rfl)
    · exact h
    · exact hin
theorem LitsI.more {vs : List Nat} {c : List Int} {n : Int} (h0 : n ≠ 0) {lits : List Nat} (h : LitsI vs c lits) (hin : cd (vsPut (vsAll vs c) n) n ∉ lits) : LitsI vs (c ++ [n]) (lits ++ [cd (vsPut (vsAll vs c) n) n]) := by
  refine ⟨?_, fun m => ?_, by have := h.len; simp; omega⟩
  · rw [List.nodup_append]
    exact ⟨h.nd, by simp, fun p hp q hq e => hin (by rw [← List.mem_singleton.1 hq, ← e]; exact hp)⟩
  · rw [lits_mem h0 h]; simp
theorem run_makeMap16 (n : Int) (w : World) : (Instr.makeMap 49 (some (.int .i64 n))).run Try.prog w = .ok (.map (some w.heap.size)) (w.alloc (.map #[] 0)) := by
  unfold Instr.makeMap
  simp only [Sem.run_bind, run_underlying Try.underlying49, Result.andThen_ok]
  rfl
theorem Frm.local {M M' : Mm} {ts : Tg → Prop} {w w' w'' : World} {row : Option Nat} (h : Frm M M' ts w w') (hg : w'.grownBy w'' row) (hr : ∀ b, row = some b → w.heap.size ≤ b) : Frm M M' ts w w'' :=
  ⟨hg.os.trans h.os, hg.tape.trans h.tape, hg.output.trans h.output, Nat.le_trans h.size hg.size, fun b hb hn => (hg.block b (Nat.lt_of_lt_of_le hb h.size) (fun e => by have := hr b e.symm; omega)).trans (h.block b hb hn), h.tags, h.K, h.bN, h.bT, h.bW⟩
/-- on the way -/
structure LW (n0 : Nat) (M : Mm) (S : St) (ex : Tg → Prop) (c : List Int) (w : World) (bS j : Nat) (lits : List Nat) (v : Value) (wr : World) : Prop where
  ks : KS wr n0 M { S with vs := vsAll S.vs (c.take j) } ex
  frm : Frm M M numT w wr
  li : LitsI S.vs (c.take j) lits
  own : wr.ownsRow n0 3 1 v lits.length (lits.map cv)
  tg : ∀ b, v.ownBlock = some b → w.heap.size ≤ b ∧ b ≠ bS
  set : SetM wr bS 400000 (fun x => decide (x ∈ lits))
  bs : w.heap.size ≤ bS
def LitsP (n0 : Nat) (M : Mm) (S : St) (ex : Tg → Prop) (c : List Int) (w : World) (e : Ending) (w' : World) : Prop :=
  ∃ lits v, e = .returned v ∧ KS w' n0 M { S with vs := vsAll S.vs c } ex ∧ Frm M M numT w w' ∧ LitsI S.vs c lits ∧ w'.ownsRow n0 3 1 v lits.length (lits.map cv) ∧ ∀ b, v.ownBlock = some b → w.heap.size ≤ b
set_option maxRecDepth 100000 in
set_option maxHeartbeats 4000000 in
theorem literals_any {w : World} {n0 : Nat} {M : Mm} {S : St} {ex : Tg → Prop} (h : KS w n0 M S ex) (h1 : ¬ ex .top) (h2 : ¬ ex .num) (cvv : Value) (c : List Int) (hc : ∀ w', Below n0 w w' → Reads w' iV cvv c) (hf : ∀ n ∈ c, -9223372036854775808 ≤ n ∧ n ≤ 9223372036854775807)
    (hv : S.vs.length + c.length ≤ 100000) :
    Calls Try.prog 25 #[.pointer (some ⟨M.K, 0, none⟩), cvv] w (LitsP n0 M S ex c w) := by
  obtain ⟨ca, cc, rfl, hcl, _⟩ := reads_shape (hc w (Below.refl _ _))
  have HC := Lib.hid hc
  have hclI : (c.length : Int) ≤ 9223372036854775807 := by omega
  have hmm := fun (n : Int) (w : World) => run_makeMap16 n w
  have HW := Lib.hid (show LW n0 M S ex c w w.heap.size 0 [] (.slice none 0 0) (w.alloc (.map #[] 0)) from
    ⟨(h.keep0 (World.grownBy_alloc _ _ _)), Frm.of (row := none) (World.grownBy_alloc _ _ _) (fun b hb => by cases hb), LitsI.begin _, World.ownsRow_nil _ _ _ _, (fun b hb => by cases hb), (by have := SetM.made w 400000; simpa using this), Nat.le_refl _⟩)
  have HB := Lib.hid h
  clear h hc
  go_enter Try.func25, Try.ntmps25
  go_wp2_with fail
  go_loopw [5, 17] (fun v iv wr => ∃ j lits, j ≤ c.length ∧ iv = .int .i64 (j : Int) ∧ LW n0 M S ex c w w.heap.size j lits v wr) (fun _ iv _ => c.length - (intOf iv).toNat)
  case atStart => exact ⟨0, [], by omega, rfl, HW.out⟩
  case round =>
    obtain ⟨j, lits, hj, rfl, hlw⟩ := hrel
    have HL := Lib.hid hlw
    clear hlw HW
    by_cases hlt : j < c.length
    · obtain ⟨n, hn⟩ : ∃ n, c[j]? = some n := ⟨_, List.getElem?_eq_getElem hlt⟩
      obtain ⟨ra, rc, e0, _, hcell⟩ := reads_shape (HC.out wr (HL.out.frm.below (by simp [numT]) HB.out))
      cases e0
      obtain ⟨rb, rfl, hcn⟩ := hcell j n hn
      have hcn2 : wr.cell? (rb.add j) = some (.int .i64 n) := hcn
      have htk := List.take_add_one (l := c) (i := j)
      rw [hn, Option.toList_some] at htk
      have HTK := Lib.hid htk
      obtain ⟨hn1, hn2⟩ := hf n (List.mem_of_getElem? hn)
      have hjI : (j : Int) < (c.length : Int) := by omega
      clear hcell hcn hn htk
      by_cases hn0 : n = 0
      · subst hn0
        have HN := Lib.hid (show LW n0 M S ex c w w.heap.size (j + 1) lits u5 wr from ⟨by
            rw [HTK.out, vsAll_snoc]; unfold vsOne; rw [if_pos rfl]; exact HL.out.ks, HL.out.frm, by rw [HTK.out]; exact HL.out.li.zero, HL.out.own, HL.out.tg, HL.out.set, HL.out.bs⟩)
        go_wp2_with fail
        exact ⟨⟨j + 1, lits, by omega, by go_num, HN.out⟩, by simp [intOf]; omega⟩
      · have hll := vsAll_len S.vs (c.take j)
        have hlt2 : (c.take j).length = j := by rw [List.length_take]; omega
        have HLI := Lib.hid (literal_any HL.out.ks h1 h2 n hn0 hn1 hn2 (by show (vsAll S.vs (c.take j)).length ≤ _; omega))
        have hpl := vsPut_mem (vsAll S.vs (c.take j)) n
        have hcl := cd_lt hpl
        have hvo : vsOne (vsAll S.vs (c.take j)) n = vsPut (vsAll S.vs (c.take j)) n := by unfold vsOne; rw [if_neg hn0]
        have hvl := vsAll_len S.vs (c.take (j + 1))
        have hlt3 : (c.take (j + 1)).length = j + 1 := by rw [List.length_take]; omega
        rw [HTK.out, vsAll_snoc, hvo, ← HTK.out] at hvl
        have HLI2 := Lib.hid (fun h => LitsI.twice hn0 HL.out.li h)
        have HLI3 := Lib.hid (fun h => LitsI.more hn0 HL.out.li h)
        have HVO := Lib.hid (show vsAll S.vs (c.take (j + 1)) = vsPut (vsAll S.vs (c.take j)) n by rw [HTK.out, vsAll_snoc, hvo])
        generalize hxx : cd (vsPut (vsAll S.vs (c.take j)) n) n = x at *
        rw [← HTK.out] at HLI2 HLI3
        have hxl : x ≤ 400000 := by omega
        have hxl2 : x < 400000 := by omega
        clear hxx hpl hcl hvo hvl hll
        rw [HL.out.frm.K] at HLI
        go_wp2_with fail
        refine HLI.out.mono ?_
        rintro e w2 ⟨rfl, hk2, hg2⟩
        have hbN := HB.out.tN
        have hfree : ∀ b, w.heap.size ≤ b → some b ≠ some M.bN := fun b hb e => by
          have := HB.out.fresh b hb
          rw [Option.some.inj e, hbN] at this
          cases this
        have hlw2 : KS w2 n0 M { S with vs := vsAll S.vs (c.take (j + 1)) } ex := by rw [HVO.out]; exact hk2
        have ho2 := HL.out.own.kept hg2 (by
          cases hb : u5.ownBlock with
          | none => exact .inl rfl
          | some b => exact .inr (hfree b (HL.out.tg b hb).1))
        have hs2 := HL.out.set.kept hg2 (hfree _ (Nat.le_refl _))
        have hf2 := HL.out.frm.trans (Frm.of hg2 (fun b hb => by rw [← Option.some.inj hb]; exact hbN))
        have hlk := hs2.look (v := x) (by omega)
        have hga : w2.grownBy (w2.alloc (.cells #[] 57)) none := World.grownBy_alloc _ _ _
        have HK3 := Lib.hid (hlw2.keep0 hga)
        have HO3 := Lib.hid (ho2.kept hga (by cases hb : u5.ownBlock with | none => exact .inl rfl | some b => exact .inr (by simp)))
        have HS3 := Lib.hid (hs2.kept hga (by simp))
        have HF3 := Lib.hid (hf2.trans (Frm.of hga (fun b hb => by cases hb)))
        have HT := Lib.hid HL.out.tg
        clear hk2 hg2 hbN hlw2 ho2 hs2 hf2 hga HLI
        by_cases hin : x ∈ lits
        · have HN := Lib.hid (show LW n0 M S ex c w w.heap.size (j + 1) lits u5 (w2.alloc (.cells #[] 57)) from ⟨HK3.out, HF3.out, HLI2.out hin, HO3.out, HT.out, HS3.out, Nat.le_refl _⟩)
          rw [decide_eq_true hin] at hlk
          clear hin HLI2 HLI3
          go_wp2_with fail
          exact ⟨⟨j + 1, lits, by omega, by go_num, HN.out⟩, by simp [intOf]; omega⟩
        · rw [decide_eq_false hin] at hlk
          obtain ⟨w4, hu, hs4, hg4⟩ := HS3.out.add (v := x) (by omega) (by omega)
          have hwb : w.heap.size < (w2.alloc (.cells #[] 57)).heap.size := by
            have := HL.out.set.lt
            have := HS3.out.lt
            omega
          have hbb : M.tag w.heap.size = .free := HB.out.fresh _ (Nat.le_refl _)
          have hk4 := HK3.out.keep (ex' := ex) hg4 (fun t ht hx => hx.elim id (fun ⟨b, hb, e⟩ => absurd (by rw [← e, ← Option.some.inj hb]; exact hbb) ht))
          have ho4 := HO3.out.kept hg4 (by
            cases hb : u5.ownBlock with
            | none => exact .inl rfl
            | some b => exact .inr (fun e => (HT.out b hb).2 (Option.some.inj e)))
          have hf4 := HF3.out.local hg4 (fun b hb => by rw [← Option.some.inj hb]; exact Nat.le_refl _)
          have HK4 := Lib.hid hk4
          have HO4 := Lib.hid ho4
          have HS4 := Lib.hid hs4
          have HF4 := Lib.hid hf4
          have HNI := Lib.hid hin
          have hbs := HB.out.base
          have hb4 := hk4.base
          have hll4 := HL.out.li.len
          clear hin hs4 hg4 hk4 hf4 HLI2 hbb
          go_wp2_with (at_builtin
                       refine appI rfl _ _ rfl w4 x (by rfl) (by rfl) ho4 (by omega) hb4 ?_)
          intro g5 cap5 w5 ho5 hg5 hat5
          have hfr : ∀ b, u5.ownBlock = some b → M.tag b = .free := fun b hb => HB.out.fresh b (HT.out b hb).1
          have HN := Lib.hid (show LW n0 M S ex c w w.heap.size (j + 1) (lits ++ [x]) (.slice (some ⟨g5, 0, none⟩) (lits.length + 1) cap5) w5 from ⟨
            HK4.out.keep hg5 (fun t ht hx => hx.elim id (fun ⟨b, hb, e⟩ => absurd (by rw [← e]; exact hfr b hb) ht)),
            HF4.out.local hg5 (fun b hb => (HT.out b hb).1), HLI3.out HNI.out, by rw [List.length_append, List.map_append]; exact ho5,
            (fun b hb => by
              cases hb
              rcases hat5 with e | e
              · exact HT.out _ e
              · have e1 := HF4.out.size
                have e2 := HS4.out.lt
                show w.heap.size ≤ g5 ∧ g5 ≠ w.heap.size
                exact ⟨by omega, by omega⟩),
            by
              have e1 := HS4.out.kept hg5 (fun e => (HT.out _ e.symm).2 rfl)
              obtain ⟨D, nn, d1, d2, d3⟩ := e1
              refine ⟨D, nn, d1, d2, fun v hv => ?_⟩
              rw [d3 v hv]
              unfold onT
              by_cases e : x = v
              · rw [if_pos e]; simp [e]
              · rw [if_neg e]
                have e' : ¬ v = x := fun h => e h.symm
                simp [e'], Nat.le_refl _⟩)
          clear ho4 ho5 hg5 hat5 hfr HK4 HO4 HS4 HF4
          go_wp2_with fail
          exact ⟨⟨j + 1, lits ++ [x], by omega, by go_num, HN.out⟩, by simp [intOf]; omega⟩
    · have hle : (c.length : Int) ≤ (j : Int) := by omega
      have htk : c.take j = c := List.take_of_length_le (by omega)
      have HE := Lib.hid (show LitsP n0 M S ex c w (.returned u5) wr from ⟨lits, u5, rfl, by have := HL.out.ks; rw [htk] at this; exact this, HL.out.frm, by have := HL.out.li; rw [htk] at this; exact this, HL.out.own, fun b hb => (HL.out.tg b hb).1⟩)
      go_wp2
      go_ret
      exact HE.out
end Go.Proofs.Ytmiiclhhenepiaa
