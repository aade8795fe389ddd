/-
  Layer 3: the contract of tree.Same. Own work.
-/
import Derived.Test.YtpbkidmdfibaoaaDoorSameN3
namespace Go.Proofs.YtpbkidmdfibaoaaDoor
set_option linter.unusedVariables false
set_option linter.unusedSimpArgs false
open Go.RowKit

theorem str_eq {a b : List UInt8} (h : a = b) : ((str a).toList == (str b).toList) = true := by rw [h]; simp
theorem str_ne {a b : List UInt8} (h : ¬ a = b) : ((str a).toList == (str b).toList) = false := by rw [beq_eq_false_iff_ne]; intro e; exact h (strEq.1 e)
set_option maxRecDepth 100000 in
set_option maxHeartbeats 2000000 in
theorem same_step (x : Tr) (hS : ∀ k ∈ x.ks, SameAt 14 k) : SameAt 14 x := by
  intro y va vk va' vk' w hx hy
  obtain ⟨c1, c2, c3, c4, rfl, rfl⟩ := node_cells hx
  obtain ⟨d1, d2, d3, d4, rfl, rfl⟩ := node_cells hy
  obtain ⟨n, ats, ks, t⟩ := x
  obtain ⟨n', ats', ks', t'⟩ := y
  unfold nodeV
  simp only [Tr.n, Tr.ats, Tr.ks, Tr.t] at hx hy hS ⊢
  obtain ⟨w1, hw1⟩ : ∃ w1, w1 = (w.alloc (.cells #[.string (str n), .slice c1 ats.length c2, .slice c3 ks.length c4, .string (str t)] 25)).alloc (.cells #[.string (str n'), .slice d1 ats'.length d2, .slice d3 ks'.length d4, .string (str t')] 25) := ⟨_, rfl⟩
  have hb1 : Below w.heap.size w w1 := by rw [hw1]; exact ((Below.refl _ _).alloc (Nat.le_refl _) _).alloc (by simp) _
  have hX : w1.heap[w.heap.size]? = some (.cells #[.string (str n), .slice c1 ats.length c2, .slice c3 ks.length c4, .string (str t)] 25 (0, 0)) := by rw [hw1, Below.heap_alloc _ _ _ (by simp)]; exact heap_alloc_new w _
  have hY : w1.heap[w.heap.size + 1]? = some (.cells #[.string (str n'), .slice d1 ats'.length d2, .slice d3 ks'.length d4, .string (str t')] 25 (0, 0)) := by rw [hw1]; exact heap_alloc2_new w _ _
  have HEQ := Lib.hid (Equal_any _ _ _ _ w1 (hx.onto hb1 (Nat.le_refl _)).ats (hy.onto hb1 (Nat.le_refl _)).ats)
  have HEF := Lib.hid (fun w2 (hb : Below w1.heap.size w1 w2) => EqualFunc_any _ _ ks ks' hS w2 (hx.onto (hb1.trans (hb.mono hb1.size)) (Nat.le_refl _)).rd (hy.onto (hb1.trans (hb.mono hb1.size)) (Nat.le_refl _)).rd)
  simp only [Tr.ats] at HEQ
  have HW1 := Lib.hid hw1
  have HB1 := Lib.hid hb1
  have x0 : w1.cell? ⟨w.heap.size, 0, none⟩ = some (.string (str n)) := by rw [cell_of_row w1 _ 0 _ _ (0, 0) hX]; rfl
  have x1 : w1.cell? ⟨w.heap.size, 1, none⟩ = some (.slice c1 ats.length c2) := by rw [cell_of_row w1 _ 1 _ _ (0, 0) hX]; rfl
  have x2 : w1.cell? ⟨w.heap.size, 2, none⟩ = some (.slice c3 ks.length c4) := by rw [cell_of_row w1 _ 2 _ _ (0, 0) hX]; rfl
  have x3 : w1.cell? ⟨w.heap.size, 3, none⟩ = some (.string (str t)) := by rw [cell_of_row w1 _ 3 _ _ (0, 0) hX]; rfl
  have y0 : w1.cell? ⟨w.heap.size + 1, 0, none⟩ = some (.string (str n')) := by rw [cell_of_row w1 _ 0 _ _ (0, 0) hY]; rfl
  have y1 : w1.cell? ⟨w.heap.size + 1, 1, none⟩ = some (.slice d1 ats'.length d2) := by rw [cell_of_row w1 _ 1 _ _ (0, 0) hY]; rfl
  have y2 : w1.cell? ⟨w.heap.size + 1, 2, none⟩ = some (.slice d3 ks'.length d4) := by rw [cell_of_row w1 _ 2 _ _ (0, 0) hY]; rfl
  have y3 : w1.cell? ⟨w.heap.size + 1, 3, none⟩ = some (.string (str t')) := by rw [cell_of_row w1 _ 3 _ _ (0, 0) hY]; rfl
  have HC := Lib.hid (fun (A : Addr) (v : Value) (h : w1.cell? A = some v) (w2 : World) (hb : Below w1.heap.size w1 w2) => (hb.cell (World.block_lt_of_cell? w1 _ h)).trans h)
  clear hx hy hS hw1 hb1 hX hY
  go_enter Tryd.func14, Tryd.ntmps14
  go_upto_region 1 with fail
  rw [← HW1.out]
  generalize w.heap.size + 1 = Y at y0 y1 y2 y3 ⊢
  generalize hXX : w.heap.size = X at x0 x1 x2 x3 ⊢
  clear hXX
  by_cases hn : n = n'
  case neg =>
    have HE := Lib.hid (show eqT (Tr.mk n ats ks t) (Tr.mk n' ats' ks' t') = false from eqT_no fun h => hn (Tr.mk.inj h).1)
    have g0 := str_ne hn
    clear hn
    go_wp2_with fail
    go_ret
    exact ⟨ret_bool HE.out.symm, HB1.out⟩
  case pos =>
  have g0 := str_eq hn
  by_cases ht : t = t'
  case neg =>
    have HE := Lib.hid (show eqT (Tr.mk n ats ks t) (Tr.mk n' ats' ks' t') = false from eqT_no fun h => ht (Tr.mk.inj h).2.2.2)
    have g1 := str_ne ht
    clear hn ht
    go_wp2_with fail
    go_ret
    exact ⟨ret_bool HE.out.symm, HB1.out⟩
  case pos =>
  have g1 := str_eq ht
  by_cases hat : ats = ats'
  case neg =>
    rw [eqT_no hat] at HEQ
    have HE := Lib.hid (show eqT (Tr.mk n ats ks t) (Tr.mk n' ats' ks' t') = false from eqT_no fun h => hat (Tr.mk.inj h).2.1)
    clear hn ht hat
    go_wp2_with (go_at_call 30; refine HEQ.out.mono ?_; rintro e w3 ⟨rfl, hb3⟩)
    go_ret
    exact ⟨ret_bool HE.out.symm, HB1.out.trans (hb3.mono HB1.out.size)⟩
  case pos =>
  rw [eqT_yes hat] at HEQ
  have HE := Lib.hid (show eqT (Tr.mk n ats ks t) (Tr.mk n' ats' ks' t') = eqT ks ks' by
    by_cases hk : ks = ks'
    · rw [eqT_yes hk, eqT_yes (by rw [hn, ht, hat, hk])]
    · rw [eqT_no hk, eqT_no fun h => hk (Tr.mk.inj h).2.2.1])
  clear hn ht hat
  go_wp2_with fail
  refine HEQ.out.mono ?_
  rintro e w3 ⟨rfl, hb3⟩
  have z2 := HC.out _ _ x2 w3 hb3
  have z3 := HC.out _ _ y2 w3 hb3
  have HEF3 := Lib.hid (HEF.out w3 hb3)
  have HB3 := Lib.hid (HB1.out.trans (hb3.mono HB1.out.size))
  clear hb3 x0 x1 x2 x3 y0 y1 y2 y3
  go_wp2_with fail
  refine HEF3.out.mono ?_
  rintro e w4 ⟨rfl, hb4⟩
  have HB4 := Lib.hid (HB3.out.trans (hb4.mono HB3.out.size))
  rw [← HE.out]
  cases hb : eqT (Tr.mk n ats ks t) (Tr.mk n' ats' ks' t') with
  | true =>
    have HQ := Lib.hid hb
    clear hb4 z2 z3 hb
    go_wp2_with fail
    go_ret
    exact ⟨ret_bool HQ.out.symm, HB4.out⟩
  | false =>
    have HQ := Lib.hid hb
    clear hb4 z2 z3 hb
    go_wp2_with fail
    go_ret
    exact ⟨ret_bool HQ.out.symm, HB4.out⟩
theorem Same_all : ∀ (m : Nat) (x : Tr), x.size ≤ m → SameAt 14 x
  | 0, x, h => absurd x.size_pos (by omega)
  | m + 1, x, h => same_step x fun k hk => Same_all m k (by
    have h1 := Tr.size_mem hk
    have h2 := x.size_ks
    omega)
theorem Same_any (x : Tr) : SameAt 14 x := Same_all x.size x (Nat.le_refl _)
end Go.Proofs.YtpbkidmdfibaoaaDoor
