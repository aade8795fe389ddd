/-
  Layer 3: the contract of tree.Same. Own work.
-/
import Derived.Test.YtpbkidmdfibaoaaGreatDoorSameN3
namespace Go.Proofs.YtpbkidmdfibaoaaGreatDoor
set_option linter.unusedVariables false
set_option linter.unusedSimpArgs false
open Go.RowKit

theorem str_eq {a b : List UInt8} (h : a = b) : ((str a).toList == (str b).toList) = true := by rw [h]; simp
theorem str_ne {a b : List UInt8} (h : ¬ a = b) : ((str a).toList == (str b).toList) = false := by rw [beq_eq_false_iff_ne]; intro e; exact h (strEq.1 e)
end Go.Proofs.YtpbkidmdfibaoaaGreatDoor
