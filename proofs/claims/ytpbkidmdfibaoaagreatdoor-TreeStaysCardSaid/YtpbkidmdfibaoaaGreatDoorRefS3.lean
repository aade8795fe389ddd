/-
  Layer 3: the contract of the answer's Same. Own work.
-/
import Derived.Test.YtpbkidmdfibaoaaGreatDoorSameT3
import Derived.Deep.RegionLaw
namespace Go.Proofs.YtpbkidmdfibaoaaGreatDoor
set_option linter.unusedVariables false
set_option linter.unusedSimpArgs false
open Go.RowKit

set_option maxRecDepth 100000 in
set_option maxHeartbeats 2000000 in
theorem rsame_step (x : Tr) (hS : ∀ k ∈ x.ks, SameAt 9 k) : SameAt 9 x := by
  intro y va vk va' vk' w hx hy
  obtain ⟨c1, c2, c3, c4, rfl, rfl⟩ := node_cells hx
  obtain ⟨d1, d2, d3, d4, rfl, rfl⟩ := node_cells hy
  obtain ⟨n, ats, ks, t⟩ := x
  obtain ⟨n', ats', ks', t'⟩ := y
  unfold nodeV
  simp only [Tr.n, Tr.ats, Tr.ks, Tr.t] at hx hy hS ⊢
  obtain ⟨w1, hw1⟩ : ∃ w1, w1 = (w.alloc (.cells #[.string (str n), .slice c1 ats.length c2, .slice c3 ks.length c4, .string (str t)] 26)).alloc (.cells #[.string (str n'), .slice d1 ats'.length d2, .slice d3 ks'.length d4, .string (str t')] 26) := ⟨_, rfl⟩
  have hb1 : Below w.heap.size w w1 := by rw [hw1]; exact ((Below.refl _ _).alloc (Nat.le_refl _) _).alloc (by simp) _
  have hX : w1.heap[w.heap.size]? = some (.cells #[.string (str n), .slice c1 ats.length c2, .slice c3 ks.length c4, .string (str t)] 26 (0, 0)) := by rw [hw1, Below.heap_alloc _ _ _ (by simp)]; exact heap_alloc_new w _
  have hY : w1.heap[w.heap.size + 1]? = some (.cells #[.string (str n'), .slice d1 ats'.length d2, .slice d3 ks'.length d4, .string (str t')] 26 (0, 0)) := by rw [hw1]; exact heap_alloc2_new w _ _
  have HEQ := Lib.hid (SameAttrs_any _ _ _ _ w1 (hx.onto hb1 (Nat.le_refl _)).ats (hy.onto hb1 (Nat.le_refl _)).ats)
  have HS := Lib.hid hS
  have HKX := Lib.hid (show ∀ w2, Below w1.heap.size w1 w2 → RdSl 4 (NdAt w2 (allF w2)) (.slice c3 ks.length c4) ks from fun w2 hb => (hx.onto (hb1.trans (hb.mono hb1.size)) (Nat.le_refl _)).rd)
  have HKY := Lib.hid (show ∀ w2, Below w1.heap.size w1 w2 → RdSl 4 (NdAt w2 (allF w2)) (.slice d3 ks'.length d4) ks' from fun w2 hb => (hy.onto (hb1.trans (hb.mono hb1.size)) (Nat.le_refl _)).rd)
  have hkl := RdSl.len hx.rd
  have hkl' := RdSl.len hy.rd
  simp only [Tr.ks] at hkl hkl'
  simp only [Tr.ats] at HEQ
  have HW1 := Lib.hid hw1
  have HB1 := Lib.hid hb1
  have x0 : w1.cell? ⟨w.heap.size, 0, none⟩ = some (.string (str n)) := by rw [cell_of_row w1 _ 0 _ _ (0, 0) hX]; rfl
  have x1 : w1.cell? ⟨w.heap.size, 1, none⟩ = some (.slice c1 ats.length c2) := by rw [cell_of_row w1 _ 1 _ _ (0, 0) hX]; rfl
  have x2 : w1.cell? ⟨w.heap.size, 2, none⟩ = some (.slice c3 ks.length c4) := by rw [cell_of_row w1 _ 2 _ _ (0, 0) hX]; rfl
  have x3 : w1.cell? ⟨w.heap.size, 3, none⟩ = some (.string (str t)) := by rw [cell_of_row w1 _ 3 _ _ (0, 0) hX]; rfl
  have y0 : w1.cell? ⟨w.heap.size + 1, 0, none⟩ = some (.string (str n')) := by rw [cell_of_row w1 _ 0 _ _ (0, 0) hY]; rfl
  have y1 : w1.cell? ⟨w.heap.size + 1, 1, none⟩ = some (.slice d1 ats'.length d2) := by rw [cell_of_row w1 _ 1 _ _ (0, 0) hY]; rfl
  have y2 : w1.cell? ⟨w.heap.size + 1, 2, none⟩ = some (.slice d3 ks'.length d4) := by rw [cell_of_row w1 _ 2 _ _ (0, 0) hY]; rfl
  have y3 : w1.cell? ⟨w.heap.size + 1, 3, none⟩ = some (.string (str t')) := by rw [cell_of_row w1 _ 3 _ _ (0, 0) hY]; rfl
  have HC := Lib.hid (fun (A : Addr) (v : Value) (h : w1.cell? A = some v) (w2 : World) (hb : Below w1.heap.size w1 w2) => (hb.cell (World.block_lt_of_cell? w1 _ h)).trans h)
  clear hx hy hS hw1 hb1 hX hY
  go_enter Tryz.func9, Tryz.ntmps9
  go_upto_region 1 with fail
  rw [← HW1.out]
  generalize w.heap.size + 1 = Y at y0 y1 y2 y3 ⊢
  generalize hXX : w.heap.size = X at x0 x1 x2 x3 ⊢
  clear hXX
  by_cases hn : n = n'
  case neg =>
    have HE := Lib.hid (show eqT (Tr.mk n ats ks t) (Tr.mk n' ats' ks' t') = false from eqT_no fun h => hn (Tr.mk.inj h).1)
    have g0 := str_ne hn
    clear hn
    go_wp2_with fail
    go_ret
    exact ⟨ret_bool HE.out.symm, HB1.out⟩
  case pos =>
  have g0 := str_eq hn
  by_cases ht : t = t'
  case neg =>
    have HE := Lib.hid (show eqT (Tr.mk n ats ks t) (Tr.mk n' ats' ks' t') = false from eqT_no fun h => ht (Tr.mk.inj h).2.2.2)
    have g1 := str_ne ht
    clear hn ht
    go_wp2_with fail
    go_ret
    exact ⟨ret_bool HE.out.symm, HB1.out⟩
  case pos =>
  have g1 := str_eq ht
  by_cases hat : ats = ats'
  case neg =>
    rw [eqT_no hat] at HEQ
    have HE := Lib.hid (show eqT (Tr.mk n ats ks t) (Tr.mk n' ats' ks' t') = false from eqT_no fun h => hat (Tr.mk.inj h).2.1)
    clear hn ht hat
    go_wp2_with (go_at_call 26; refine HEQ.out.mono ?_; rintro e w3 ⟨rfl, hb3⟩)
    go_ret
    exact ⟨ret_bool HE.out.symm, HB1.out.trans (hb3.mono HB1.out.size)⟩
  case pos =>
  rw [eqT_yes hat] at HEQ
  have HE := Lib.hid (show eqT (Tr.mk n ats ks t) (Tr.mk n' ats' ks' t') = eqT ks ks' by
    by_cases hk : ks = ks'
    · rw [eqT_yes hk, eqT_yes (by rw [hn, ht, hat, hk])]
    · rw [eqT_no hk, eqT_no fun h => hk (Tr.mk.inj h).2.2.1])
  clear hn ht hat
  go_wp2_with fail
  refine HEQ.out.mono ?_
  rintro e w3 ⟨rfl, hb3⟩
  have z2 := HC.out _ _ x2 w3 hb3
  have z3 := HC.out _ _ y2 w3 hb3
  have HB3 := Lib.hid hb3
  have hkI : (ks.length : Int) ≤ 9223372036854775807 := by omega
  have HX2 := Lib.hid x2
  have HY2 := Lib.hid y2
  clear hb3 x0 x1 x2 x3 y0 y1 y2 y3
  by_cases hlm : ks.length = ks'.length
  case neg =>
    have HE2 := Lib.hid (show eqT (Tr.mk n ats ks t) (Tr.mk n' ats' ks' t') = false by rw [HE.out]; exact eqT_no fun h => hlm (by rw [h]))
    have hq : (((ks.length : Nat) : Int) == ((ks'.length : Nat) : Int)) = false := by rw [beq_eq_false_iff_ne]; omega
    have hq2 : ¬ ks.length = ks'.length := hlm
    go_wp2_with fail
    go_ret
    exact ⟨ret_bool HE2.out.symm, HB1.out.trans (HB3.out.mono HB1.out.size)⟩
  case pos =>
  have HLM := Lib.hid hlm
  rw [← hlm] at z3 HKY HY2
  clear hlm
  go_upto_region 4 with fail
  go_loopw [38] (fun i wr => ∃ k : Nat, k ≤ ks.length ∧ i = .int .i64 k ∧ Below w1.heap.size w1 wr ∧ ks.take k = ks'.take k) (fun i _ => ks.length - (intOf i).toNat)
  case atStart => exact ⟨0, by omega, rfl, HB3.out, rfl⟩
  case round =>
    clear z2 z3
    obtain ⟨k, hk, rfl, hbw, htk⟩ := hrel
    have HB := Lib.hid hbw
    have HTK := Lib.hid htk
    clear htk
    by_cases hlt : k < ks.length
    · obtain ⟨x, hx⟩ : ∃ x, ks[k]? = some x := ⟨_, List.getElem?_eq_getElem hlt⟩
      obtain ⟨y, hy⟩ : ∃ y, ks'[k]? = some y := ⟨_, List.getElem?_eq_getElem (by rw [← HLM.out]; exact hlt)⟩
      have z2 := HC.out _ _ HX2.out wr hbw
      have z3 := HC.out _ _ HY2.out wr hbw
      obtain ⟨a1, e1, va, vk, ⟨p0, p1, p2, p3⟩, hnx⟩ := RdSl.elem (HKX.out wr hbw) hx
      subst e1
      obtain ⟨b1, e1, vb, vm, ⟨q0, q1, q2, q3⟩, hny⟩ := RdSl.elem (HKY.out wr hbw) hy
      subst e1
      obtain ⟨s1, s2, s3, s4, rfl, rfl⟩ := node_cells hnx
      obtain ⟨r1, r2, r3, r4, rfl, rfl⟩ := node_cells hny
      have HCC := Lib.hid (HS.out x (List.mem_of_getElem? hx) y _ _ _ _ wr.drew (hnx.onto (Below.refl _ _).drew (Nat.le_refl _)) (hny.onto (Below.refl _ _).drew (Nat.le_refl _)))
      unfold nodeV at HCC
      have HX := Lib.hid hx
      have HY := Lib.hid hy
      have hkI : (k : Int) < (ks.length : Int) := by omega
      by_cases hxy : x = y
      · rw [eqT_yes hxy] at HCC
        have HN := Lib.hid (show ks.take (k + 1) = ks'.take (k + 1) by rw [take_snoc _ k x HX.out, take_snoc _ k y HY.out, HTK.out, hxy])
        clear hx hy hbw hxy hnx hny
        go_upto_region 6 with fail
        go_region_law (first | (go_simp; go_at_call 9; refine HCC.out.mono ?_; rintro e w5 ⟨rfl, hb5⟩))
        all_goals
          clear p0 p1 p2 p3 q0 q1 q2 q3 z2 z3
          have HB5 := Lib.hid ((HB.out.drew).trans (hb5.mono HB.out.size))
          clear hb5
          go_wp2
          go_roundw
          case rel => exact ⟨k + 1, by omega, by go_num, HB5.out, HN.out⟩
          case measure => simp [intOf]; omega
      · rw [eqT_no hxy] at HCC
        have HE2 := Lib.hid (show eqT (Tr.mk n ats ks t) (Tr.mk n' ats' ks' t') = false by
          rw [HE.out]
          refine eqT_no fun h => hxy ?_
          have h1 := HX.out
          rw [h, HY.out] at h1
          exact (Option.some.inj h1).symm)
        clear hx hy hbw hxy hnx hny
        go_upto_region 6 with fail
        go_region_law (first | (go_simp; go_at_call 9; refine HCC.out.mono ?_; rintro e w5 ⟨rfl, hb5⟩))
        all_goals
          clear p0 p1 p2 p3 q0 q1 q2 q3 z2 z3
          have HB5 := Lib.hid ((HB.out.drew).trans (hb5.mono HB.out.size))
          clear hb5
          go_wp2
          go_ret
          exact ⟨ret_bool HE2.out.symm, HB1.out.trans (HB5.out.mono HB1.out.size)⟩
    · have hle : (ks.length : Int) ≤ k := by omega
      have HE2 := Lib.hid (show eqT (Tr.mk n ats ks t) (Tr.mk n' ats' ks' t') = true by
        rw [HE.out]
        refine eqT_yes ?_
        have := HTK.out
        rw [List.take_of_length_le (by omega), List.take_of_length_le (by rw [← HLM.out]; omega)] at this
        exact this)
      go_wp2
      go_ret
      exact ⟨ret_bool HE2.out.symm, HB1.out.trans (HB.out.mono HB1.out.size)⟩
theorem refSame_all : ∀ (m : Nat) (x : Tr), x.size ≤ m → SameAt 9 x
  | 0, x, h => absurd x.size_pos (by omega)
  | m + 1, x, h => rsame_step x fun k hk => refSame_all m k (by
    have h1 := Tr.size_mem hk
    have h2 := x.size_ks
    omega)
theorem refSame_any (x : Tr) : SameAt 9 x := refSame_all x.size x (Nat.le_refl _)
end Go.Proofs.YtpbkidmdfibaoaaGreatDoor
