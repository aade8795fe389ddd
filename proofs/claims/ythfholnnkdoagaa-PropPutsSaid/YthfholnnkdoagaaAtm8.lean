/-
  Layer 8: the counter. Own work.
-/
import Derived.Test.YthfholnnkdoagaaMapI8
import Derived.Laws.LoneSync
namespace Go.Proofs.Ythfholnnkdoagaa
set_option linter.unusedVariables false
set_option linter.unusedSimpArgs false
open Go.RowKit

theorem load8 (T k : Nat) (n : Int) (w : World) (h : w.cell? ⟨T, k, none⟩ = some (.int .i64 n)) :
    Calls Try.prog 38 #[.pointer (some ⟨T, k, none⟩)] w fun e w' => e = .returned (.int .i64 n) ∧ w' = w := by
  have hl := run_call_load (P := Try.prog) Try.func52 (by kernel_rfl) (by kernel_rfl) (by kernel_rfl) .i64 (by kernel_rfl) h
  go_enter Try.func38, Try.ntmps38
  go_wp2
  go_ret
  exact ⟨rfl, rfl⟩
theorem add8c (T k : Nat) (n : Nat) (w : World) (h : w.cell? ⟨T, k, none⟩ = some (.int .i64 (n : Int))) (hf : w.frozen? ⟨T, k, none⟩ = false) (hn : n ≤ 1000000) :
    Calls Try.prog 54 #[.pointer (some ⟨T, k, none⟩), .int .i64 1] w fun e w' => e = .returned (.int .i64 ((n : Int) + 1)) ∧ w' = w.setCell ⟨T, k, none⟩ (.int .i64 ((n : Int) + 1)) := by
  have hw : IntKind.i64.wrap ((n : Int) + 1) = (n : Int) + 1 := by rw [IntWalk.i64_in _ (by omega)]
  have hl := run_call_add (P := Try.prog) Try.func58 (by kernel_rfl) (by kernel_rfl) (by kernel_rfl) .i64 (by kernel_rfl) (y := 1) (s := (n : Int) + 1) h hf (by simp [go_sem, hw])
  go_enter Try.func54, Try.ntmps54
  go_wp2
  go_ret
  exact ⟨rfl, rfl⟩
end Go.Proofs.Ythfholnnkdoagaa
