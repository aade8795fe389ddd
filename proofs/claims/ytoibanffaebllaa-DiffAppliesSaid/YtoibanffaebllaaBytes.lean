/-
  Layer 1: what each byte is: contracts of the byte functions of package chars and of its answer. Own work.
-/
import Derived.Test.YtoibanffaebllaaRows
import Derived.Test.YtoibanffaebllaaBase
namespace Go.Proofs.Ytoibanffaebllaa
set_option linter.unusedVariables false
set_option linter.unusedSimpArgs false
open Go.RowKit

def isBlank (c : Int) : Bool := c == 32 || c == 9 || c == 10 || c == 13
def isDigit (c : Int) : Bool := decide (48 ≤ c) && decide (c ≤ 57)
def isFirst (c : Int) : Bool := decide (65 ≤ c) && decide (c ≤ 90) || decide (97 ≤ c) && decide (c ≤ 122) || c == 95
def isMark (c : Int) : Bool := c == 46 || c == 45 || c == 58
def isName (c : Int) : Bool := isFirst c || isDigit c || isMark c
def isText (c : Int) : Bool := decide (32 ≤ c) || isBlank c
theorem IsDigit_any (c : Int) (w : World) :
    Calls Try.prog 68 #[.int .u8 c] w fun e w' => e = .returned (.bool (isDigit c)) ∧ w' = w := by
  go_enter Try.func68, Try.ntmps68
  go_wp2
  all_goals (go_ret; exact ⟨ret_bool (by rw [Bool.eq_iff_iff]; simp [isDigit]; omega), rfl⟩)
theorem IsFirst_any (c : Int) (w : World) :
    Calls Try.prog 67 #[.int .u8 c] w fun e w' => e = .returned (.bool (isFirst c)) ∧ w' = w := by
  go_enter Try.func67, Try.ntmps67
  go_wp2
  all_goals (go_ret; exact ⟨ret_bool (by rw [Bool.eq_iff_iff]; simp [isFirst]; omega), rfl⟩)
theorem IsName_any (c : Int) (w : World) :
    Calls Try.prog 63 #[.int .u8 c] w fun e w' => e = .returned (.bool (isName c)) ∧ w' = w := by
  go_enter Try.func63, Try.ntmps63
  go_wp2_with (first
    | (go_at_call 67; refine (IsFirst_any _ _).mono ?_; rintro e w' ⟨rfl, rfl⟩)
    | (go_at_call 68; refine (IsDigit_any _ _).mono ?_; rintro e w' ⟨rfl, rfl⟩))
  all_goals (go_ret; exact ⟨ret_bool (by simp [isName, isMark, *]), rfl⟩)

end Go.Proofs.Ytoibanffaebllaa
