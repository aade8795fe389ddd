/-
  Layer 5: the contracts of tighter, of the copy of a row of intervals. Own work.
-/
import Derived.Test.YtnghagikchffiaaDoorBoth5
import Derived.Test.YtnghagikchffiaaDoorLives5
import Derived.Deep.Cut
import Derived.Deep.CutRange
namespace Go.Proofs.YtnghagikchffiaaDoor
set_option linter.unusedVariables false
set_option linter.unusedSimpArgs false
open Go.RowKit

theorem three_rows (w : World) (o1 o2 o3 : Obj) : ((((w.alloc o1).alloc o2).alloc o3).heap[w.heap.size]? = some o1 ∧ (((w.alloc o1).alloc o2).alloc o3).heap[w.heap.size + 1]? = some o2 ∧ (((w.alloc o1).alloc o2).alloc o3).heap[w.heap.size + 1 + 1]? = some o3) := by
  refine ⟨?_, ?_, ?_⟩
  · rw [Below.heap_alloc _ _ _ (by simp; omega), Below.heap_alloc _ _ _ (by simp)]
    exact heap_alloc_new w _
  · rw [Below.heap_alloc _ _ _ (by simp)]
    exact heap_alloc2_new w _ _
  · have := heap_alloc2_new (w.alloc o1) o2 o3
    simpa [Nat.add_assoc] using this
theorem below_set3 {w wx : World} {B : Nat} (h : Below w.heap.size w wx) (hB : w.heap.size ≤ B) (y0 y1 y2 : Value) : Below w.heap.size w (((wx.setCell ⟨B, 0, none⟩ y0).setCell ⟨B, 1, none⟩ y1).setCell ⟨B, 2, none⟩ y2) :=
  ((h.setCell hB _).setCell hB _).setCell hB _
set_option maxRecDepth 100000 in
set_option maxHeartbeats 2000000 in
theorem tighter_at (a b : En) (ha : smallE a) (hb : smallE b) (way : Int) (hway : way = 1 ∨ way = -1) (w : World) :
    Calls Tryd.prog 42 #[enV a, enV b, .int .i64 way] w fun e w' => e = .returned (enV (tightE a b way)) ∧ Below w.heap.size w w' := by
  obtain ⟨ah, av, ac⟩ := a
  obtain ⟨bh, bv, bc⟩ := b
  unfold smallE at ha hb
  simp only at ha hb
  have HC := Lib.hid (fun w => Compare_any av bv ha hb w)
  have hr := cmpB_ord.rng av.data.toList bv.data.toList
  have ht : tightE ⟨ah, av, ac⟩ ⟨bh, bv, bc⟩ way = if !bh then ⟨ah, av, ac⟩ else if !ah then ⟨bh, bv, bc⟩ else if way * cmpB av.data.toList bv.data.toList < 0 ∨ (way * cmpB av.data.toList bv.data.toList = 0 ∧ (ac && !bc) = true) then ⟨bh, bv, bc⟩ else ⟨ah, av, ac⟩ := rfl
  generalize cmpB av.data.toList bv.data.toList = c at HC hr ht
  have HT := Lib.hid ht; clear ht
  generalize tightE ⟨ah, av, ac⟩ ⟨bh, bv, bc⟩ way = t at HT
  unfold enV
  simp only
  obtain ⟨q1, q2, q3⟩ := three_rows w (.cells #[.bool ah, .string av, .bool ac] 58) (.cells #[.bool bh, .string bv, .bool bc] 58) (.cells #[.bool false, .string { data := #[] }, .bool false] 58)
  have hb0 : Below w.heap.size w (((w.alloc (.cells #[.bool ah, .string av, .bool ac] 58)).alloc (.cells #[.bool bh, .string bv, .bool bc] 58)).alloc (.cells #[.bool false, .string { data := #[] }, .bool false] 58)) := (((Below.refl w.heap.size w).alloc (Nat.le_refl _) _).alloc (by simp) _).alloc (by simp; omega) _
  have hz0 : w.heap.size + 3 ≤ (((w.alloc (.cells #[.bool ah, .string av, .bool ac] 58)).alloc (.cells #[.bool bh, .string bv, .bool bc] 58)).alloc (.cells #[.bool false, .string { data := #[] }, .bool false] 58)).heap.size := by simp
  go_enter Tryd.func42, Tryd.ntmps42
  go_upto_region 1 with fail
  generalize (((w.alloc (.cells #[.bool ah, .string av, .bool ac] 58)).alloc (.cells #[.bool bh, .string bv, .bool bc] 58)).alloc (.cells #[.bool false, .string { data := #[] }, .bool false] 58)) = w1 at q1 q2 q3 hb0 hz0 ⊢
  have HB0 := Lib.hid hb0
  have Q1 := Lib.hid q1
  have Q2 := Lib.hid q2
  have Q3 := Lib.hid q3
  clear hb0 q1 q2 q3
  obtain ⟨a0, a1, a2, _⟩ := row3_cells Q1.out
  obtain ⟨b0, b1, b2, _⟩ := row3_cells Q2.out
  obtain ⟨r0, r1, r2, f2⟩ := row3_cells Q3.out
  have f0 : w1.frozen? ⟨w.heap.size + 1 + 1, 0, none⟩ = false := frozen_of_row w1 _ 0 _ _ Q3.out
  have f1 : w1.frozen? ⟨w.heap.size + 1 + 1, 1, none⟩ = false := frozen_of_row w1 _ 1 _ _ Q3.out
  cases bh
  · obtain rfl : t = ⟨ah, av, ac⟩ := HT.out
    go_wp2
    refine bodyPost_ret (results_cell_row (P := Tryd.prog) rfl _ _ (w.heap.size + 1 + 1) 58 _ (0, 0) _ rfl (row_set3 (.bool ah) (.string av) (.bool ac) _ Q3.out) Tryd.underlying58 rfl (by kernel_rfl)) rfl ?_
    exact ⟨rfl, below_set3 HB0.out (by omega) _ _ _⟩
  cases ah
  · obtain rfl : t = ⟨true, bv, bc⟩ := HT.out
    go_wp2
    refine bodyPost_ret (results_cell_row (P := Tryd.prog) rfl _ _ (w.heap.size + 1 + 1) 58 _ (0, 0) _ rfl (row_set3 (.bool true) (.string bv) (.bool bc) _ Q3.out) Tryd.underlying58 rfl (by kernel_rfl)) rfl ?_
    exact ⟨rfl, below_set3 HB0.out (by omega) _ _ _⟩
  go_wp2_with fail
  refine (HC.out _).mono ?_
  rintro e w2 ⟨rfl, hb2⟩
  have q1 := (hb2.block _ (Array.getElem?_eq_some_iff.1 Q1.out).1).trans Q1.out
  have q2 := (hb2.block _ (Array.getElem?_eq_some_iff.1 Q2.out).1).trans Q2.out
  have q3 := (hb2.block _ (Array.getElem?_eq_some_iff.1 Q3.out).1).trans Q3.out
  have HB2 := Lib.hid (HB0.out.trans (hb2.mono HB0.out.size))
  have P3 := Lib.hid q3
  clear a0 a1 a2 b0 b1 b2 r0 r1 r2 f0 f1 f2
  obtain ⟨a0, a1, a2, _⟩ := row3_cells q1
  obtain ⟨b0, b1, b2, _⟩ := row3_cells q2
  obtain ⟨r0, r1, r2, f2⟩ := row3_cells q3
  have f0 : w2.frozen? ⟨w.heap.size + 1 + 1, 0, none⟩ = false := frozen_of_row w2 _ 0 _ _ q3
  have f1 : w2.frozen? ⟨w.heap.size + 1 + 1, 1, none⟩ = false := frozen_of_row w2 _ 1 _ _ q3
  clear hb2 q1 q2 q3 hz0 ha hb
  rcases hway with rfl | rfl
  · rcases hr with rfl | rfl | rfl
    · skip
      have ht := HT.out
      simp at ht
      subst ht
      go_wp2
      refine bodyPost_ret (results_cell_row (P := Tryd.prog) rfl _ _ (w.heap.size + 1 + 1) 58 _ (0, 0) _ rfl (row_set3 (.bool true) (.string bv) (.bool bc) _ P3.out) Tryd.underlying58 rfl (by kernel_rfl)) rfl ?_
      exact ⟨rfl, below_set3 HB2.out (by omega) _ _ _⟩
    · cases ac
      · skip
        have ht := HT.out
        simp at ht
        subst ht
        go_wp2
        refine bodyPost_ret (results_cell_row (P := Tryd.prog) rfl _ _ (w.heap.size + 1 + 1) 58 _ (0, 0) _ rfl (row_set3 (.bool true) (.string av) (.bool false) _ P3.out) Tryd.underlying58 rfl (by kernel_rfl)) rfl ?_
        exact ⟨rfl, below_set3 HB2.out (by omega) _ _ _⟩
      · cases bc
        · skip
          have ht := HT.out
          simp at ht
          subst ht
          go_wp2
          refine bodyPost_ret (results_cell_row (P := Tryd.prog) rfl _ _ (w.heap.size + 1 + 1) 58 _ (0, 0) _ rfl (row_set3 (.bool true) (.string bv) (.bool false) _ P3.out) Tryd.underlying58 rfl (by kernel_rfl)) rfl ?_
          exact ⟨rfl, below_set3 HB2.out (by omega) _ _ _⟩
        · skip
          have ht := HT.out
          simp at ht
          subst ht
          go_wp2
          refine bodyPost_ret (results_cell_row (P := Tryd.prog) rfl _ _ (w.heap.size + 1 + 1) 58 _ (0, 0) _ rfl (row_set3 (.bool true) (.string av) (.bool true) _ P3.out) Tryd.underlying58 rfl (by kernel_rfl)) rfl ?_
          exact ⟨rfl, below_set3 HB2.out (by omega) _ _ _⟩
    · skip
      have ht := HT.out
      simp at ht
      subst ht
      go_wp2
      refine bodyPost_ret (results_cell_row (P := Tryd.prog) rfl _ _ (w.heap.size + 1 + 1) 58 _ (0, 0) _ rfl (row_set3 (.bool true) (.string av) (.bool ac) _ P3.out) Tryd.underlying58 rfl (by kernel_rfl)) rfl ?_
      exact ⟨rfl, below_set3 HB2.out (by omega) _ _ _⟩
  · rcases hr with rfl | rfl | rfl
    · skip
      have ht := HT.out
      simp at ht
      subst ht
      go_wp2
      refine bodyPost_ret (results_cell_row (P := Tryd.prog) rfl _ _ (w.heap.size + 1 + 1) 58 _ (0, 0) _ rfl (row_set3 (.bool true) (.string av) (.bool ac) _ P3.out) Tryd.underlying58 rfl (by kernel_rfl)) rfl ?_
      exact ⟨rfl, below_set3 HB2.out (by omega) _ _ _⟩
    · cases ac
      · skip
        have ht := HT.out
        simp at ht
        subst ht
        go_wp2
        refine bodyPost_ret (results_cell_row (P := Tryd.prog) rfl _ _ (w.heap.size + 1 + 1) 58 _ (0, 0) _ rfl (row_set3 (.bool true) (.string av) (.bool false) _ P3.out) Tryd.underlying58 rfl (by kernel_rfl)) rfl ?_
        exact ⟨rfl, below_set3 HB2.out (by omega) _ _ _⟩
      · cases bc
        · skip
          have ht := HT.out
          simp at ht
          subst ht
          go_wp2
          refine bodyPost_ret (results_cell_row (P := Tryd.prog) rfl _ _ (w.heap.size + 1 + 1) 58 _ (0, 0) _ rfl (row_set3 (.bool true) (.string bv) (.bool false) _ P3.out) Tryd.underlying58 rfl (by kernel_rfl)) rfl ?_
          exact ⟨rfl, below_set3 HB2.out (by omega) _ _ _⟩
        · skip
          have ht := HT.out
          simp at ht
          subst ht
          go_wp2
          refine bodyPost_ret (results_cell_row (P := Tryd.prog) rfl _ _ (w.heap.size + 1 + 1) 58 _ (0, 0) _ rfl (row_set3 (.bool true) (.string av) (.bool true) _ P3.out) Tryd.underlying58 rfl (by kernel_rfl)) rfl ?_
          exact ⟨rfl, below_set3 HB2.out (by omega) _ _ _⟩
    · skip
      have ht := HT.out
      simp at ht
      subst ht
      go_wp2
      refine bodyPost_ret (results_cell_row (P := Tryd.prog) rfl _ _ (w.heap.size + 1 + 1) 58 _ (0, 0) _ rfl (row_set3 (.bool true) (.string bv) (.bool bc) _ P3.out) Tryd.underlying58 rfl (by kernel_rfl)) rfl ?_
      exact ⟨rfl, below_set3 HB2.out (by omega) _ _ _⟩
end Go.Proofs.YtnghagikchffiaaDoor
