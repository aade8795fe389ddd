/-
  Layer 6: which patterns may be: the contract of coord.MayPattern. Own work.
-/
import Derived.Test.YtinhedegbaegnaaDoorOpen6
namespace Go.Proofs.YtinhedegbaegnaaDoor
set_option linter.unusedVariables false
set_option linter.unusedSimpArgs false
open Go.RowKit

def mayPat (g a : ByteArray) : Bool := (g.toList == [42] || isId g) && (a.toList == [42] || isId a)
set_option maxHeartbeats 4000000 in
theorem MayPattern_any (g a : ByteArray) (hg : g.size ≤ 1000000) (ha : a.size ≤ 1000000) (w : World) :
    Calls Tryd.prog 18 #[idV g a] w fun e w' => e = .returned (.bool (mayPat g a)) ∧ Below w.heap.size w w' := by
  have h1 := fun w => IsId_any g hg w
  have h2 := fun w => IsId_any a ha w
  unfold mayPat idV
  generalize isId g = b1 at h1 ⊢
  generalize isId a = b2 at h2 ⊢
  have H1 := Lib.hid h1
  have H2 := Lib.hid h2
  clear h1 h2
  cases e1 : (g.toList == [42]) <;> cases e2 : (a.toList == [42]) <;> cases b1
  all_goals
    go_enter Tryd.func18, Tryd.ntmps18
    go_wp2_with (first
      | (go_at_call 13; with_reducible refine (H1.out _).mono ?_; rintro e w' ⟨rfl, rfl⟩)
      | (go_at_call 13; with_reducible refine (H2.out _).mono ?_; rintro e w' ⟨rfl, rfl⟩))
    go_ret
    exact ⟨ret_bool (by simp), by repeat (first | exact Below.refl _ _ | refine below_al' _ ?_ (Nat.le_refl _))⟩
end Go.Proofs.YtinhedegbaegnaaDoor
