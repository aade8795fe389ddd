/-
  Layer 5: the contract of the closure that Parse defers. Own work.
-/
import Derived.Test.YtnghagikchffiaaDoorRead5
import Derived.Defers
import Derived.Recover
import Derived.Laws.Pointers
namespace Go.Proofs.YtnghagikchffiaaDoor
set_option linter.unusedVariables false
set_option linter.unusedSimpArgs false
open Go.RowKit

/-- the variables of the results -/
def ResAt (w : World) (R E : Nat) : Prop := (∃ x0 x1 x2, w.heap[R]? = some (.cells #[x0, x1, x2] 25 (0, 0))) ∧ (∃ y, w.heap[E]? = some (.cells #[y] 26 (0, 0)))
theorem catch_idle (R E : Nat) (w : World) :
    CallsD Tryd.prog 24 #[.pointer (some ⟨R, 0, none⟩), .pointer (some ⟨E, 0, none⟩)] .returning w fun e u' w' => e = .returned (.tuple #[]) ∧ u' = .returning ∧ w' = w := by
  refine callsD_of_wpS Tryd.func24 rfl fun c₀ cs hu => ?_
  apply wpS_seq
  apply wpS_region
  simp [wpOpsS, go_sem, recoverD, hu, Tryd.ntmps24, Exit.thenS]
  refine wpS_of_wp ?_
  change Code.wp Tryd.prog _ _ ⟨#[.pointer (some ⟨R, 0, none⟩), .pointer (some ⟨E, 0, none⟩), .nilIface, .nilIface, undef, undef, undef, undef, undef, undef, undef, undef], []⟩ w
  go_wp2
  cases c₀
  simp_all [bodyPostS, results, Tryd.results24]
set_option maxRecDepth 100000 in
theorem catch_bad (R E : Nat) (hne : R ≠ E) (w : World) (h : ResAt w R E) :
    CallsD Tryd.prog 24 #[.pointer (some ⟨R, 0, none⟩), .pointer (some ⟨E, 0, none⟩)] (.panicking ({ v := .iface 48 (.agg #[]), recovered := false } :: [])) w fun e u' w' =>
      e = .returned (.tuple #[]) ∧ u' = .panicking ({ v := .iface 48 (.agg #[]), recovered := true } :: []) ∧
        w' = (((w.setCell ⟨R, 0, none⟩ (.bool false)).setCell ⟨R, 1, none⟩ (.string .empty)).setCell ⟨R, 2, none⟩ (.slice none 0 0)).setCell ⟨E, 0, none⟩ (.int .i64 21) := by
  obtain ⟨⟨x0, x1, x2, h1⟩, y, h2⟩ := h
  have c0 : w.cell? ⟨R, 0, none⟩ = some x0 := by rw [cell_of_row w R 0 _ _ (0, 0) h1]; rfl
  have c1 : w.cell? ⟨R, 1, none⟩ = some x1 := by rw [cell_of_row w R 1 _ _ (0, 0) h1]; rfl
  have c2 : w.cell? ⟨R, 2, none⟩ = some x2 := by rw [cell_of_row w R 2 _ _ (0, 0) h1]; rfl
  have c3 : w.cell? ⟨E, 0, none⟩ = some y := by rw [cell_of_row w E 0 _ _ (0, 0) h2]; rfl
  have z0 : w.frozen? ⟨R, 0, none⟩ = false := frozen_of_row w R 0 _ _ h1
  have z1 : w.frozen? ⟨R, 1, none⟩ = false := frozen_of_row w R 1 _ _ h1
  have z2 : w.frozen? ⟨R, 2, none⟩ = false := frozen_of_row w R 2 _ _ h1
  have z3 : w.frozen? ⟨E, 0, none⟩ = false := frozen_of_row w E 0 _ _ h2
  have hbo : ∀ w, (binOp BinOp.neq 20 (.iface 48 (.agg #[])) (.iface 48 (.agg #[]))).run Tryd.prog w = .ok (.bool false) w := fun _ => by kernel_rfl
  have hne1 : ¬ R = E := hne
  have hne2 : ¬ E = R := fun e => hne e.symm
  clear h1 h2
  refine callsD_of_wpS Tryd.func24 rfl fun c₀ cs hu => ?_
  apply wpS_seq
  apply wpS_region
  simp [wpOpsS, go_sem, recoverD, hu, Tryd.ntmps24, Exit.thenS]
  refine wpS_of_wp ?_
  change Code.wp Tryd.prog _ _ ⟨#[.pointer (some ⟨R, 0, none⟩), .pointer (some ⟨E, 0, none⟩), .iface 48 (.agg #[]), .iface 48 (.agg #[]), undef, undef, undef, undef, undef, undef, undef, undef], []⟩ w
  go_wp2
  exact ⟨rfl, _, rfl, .tuple #[], by simp [results, Tryd.results24], rfl, rfl, rfl⟩
end Go.Proofs.YtnghagikchffiaaDoor
