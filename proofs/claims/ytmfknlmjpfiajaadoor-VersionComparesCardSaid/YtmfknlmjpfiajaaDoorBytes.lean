/-
  Layer 1: what each byte is: contracts of the byte functions of package chars and of its answer. Own work.
-/
import Derived.Test.YtmfknlmjpfiajaaDoorRows
import Derived.Test.YtmfknlmjpfiajaaDoorBase
namespace Go.Proofs.YtmfknlmjpfiajaaDoor
set_option linter.unusedVariables false
set_option linter.unusedSimpArgs false
open Go.RowKit

def isBlank (c : Int) : Bool := c == 32 || c == 9 || c == 10 || c == 13
def isDigit (c : Int) : Bool := decide (48 ≤ c) && decide (c ≤ 57)
def isFirst (c : Int) : Bool := decide (65 ≤ c) && decide (c ≤ 90) || decide (97 ≤ c) && decide (c ≤ 122) || c == 95
def isMark (c : Int) : Bool := c == 46 || c == 45 || c == 58
def isName (c : Int) : Bool := isFirst c || isDigit c || isMark c
def isText (c : Int) : Bool := decide (32 ≤ c) || isBlank c
theorem IsDigit_any (c : Int) (w : World) :
    Calls Tryd.prog 28 #[.int .u8 c] w fun e w' => e = .returned (.bool (isDigit c)) ∧ w' = w := by
  go_enter Tryd.func28, Tryd.ntmps28
  go_wp2
  all_goals (go_ret; exact ⟨ret_bool (by rw [Bool.eq_iff_iff]; simp [isDigit]; omega), rfl⟩)
theorem IsFirst_any (c : Int) (w : World) :
    Calls Tryd.prog 39 #[.int .u8 c] w fun e w' => e = .returned (.bool (isFirst c)) ∧ w' = w := by
  go_enter Tryd.func39, Tryd.ntmps39
  go_wp2
  all_goals (go_ret; exact ⟨ret_bool (by rw [Bool.eq_iff_iff]; simp [isFirst]; omega), rfl⟩)
theorem IsName_any (c : Int) (w : World) :
    Calls Tryd.prog 25 #[.int .u8 c] w fun e w' => e = .returned (.bool (isName c)) ∧ w' = w := by
  go_enter Tryd.func25, Tryd.ntmps25
  go_wp2_with (first
    | (go_at_call 39; refine (IsFirst_any _ _).mono ?_; rintro e w' ⟨rfl, rfl⟩)
    | (go_at_call 28; refine (IsDigit_any _ _).mono ?_; rintro e w' ⟨rfl, rfl⟩))
  all_goals (go_ret; exact ⟨ret_bool (by simp [isName, isMark, *]), rfl⟩)

end Go.Proofs.YtmfknlmjpfiajaaDoor
