/-
  Layer 5: the results of Parse, read from their two variables. Own work.
-/
import Derived.Test.YtnghagikchffiaaDoorParse5
namespace Go.Proofs.YtnghagikchffiaaDoor
set_option linter.unusedVariables false
set_option linter.unusedSimpArgs false
open Go.RowKit

set_option maxRecDepth 100000 in
theorem parse_results (tmps : Array Value) (w : World) (R E : Nat) (y0 y1 y2 y : Value) (h2 : tmps.getD 2 undef = .pointer (some ⟨R, 0, none⟩)) (h3 : tmps.getD 3 undef = .pointer (some ⟨E, 0, none⟩))
    (hR : w.heap[R]? = some (.cells #[y0, y1, y2] 25 (0, 0))) (hE : w.heap[E]? = some (.cells #[y] 26 (0, 0))) :
    (results Tryd.f10 tmps).run Tryd.prog w = .ok (.tuple #[.agg #[y0, y1, y2], y]) w := by
  have h2' : tmps[2]?.getD undef = .pointer (some ⟨R, 0, none⟩) := by simpa using h2
  have h3' : tmps[3]?.getD undef = .pointer (some ⟨E, 0, none⟩) := by simpa using h3
  have l1 := run_loadVar_row w R 25 25 #[y0, y1, y2] (0, 0) _ hR Tryd.underlying25 rfl (by kernel_rfl)
  have ce : w.cell? ⟨E, 0, none⟩ = some y := by rw [cell_of_row w E 0 _ _ (0, 0) hE]; rfl
  have l2 : (loadVar 26 ⟨E, 0, none⟩).run Tryd.prog w = .ok y w := by
    simp [loadVar, isAgg, Sem.run_bind, run_underlying Tryd.underlying26, ce]
  simp [results, Tryd.results10, h2', h3', asAddr, l1, l2]
end Go.Proofs.YtnghagikchffiaaDoor
