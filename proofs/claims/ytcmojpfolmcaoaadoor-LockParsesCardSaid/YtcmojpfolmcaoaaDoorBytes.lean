/-
  Layer 1: what each byte is: contracts of the byte functions of package chars and of its answer. Own work.
-/
import Derived.Test.YtcmojpfolmcaoaaDoorRows
import Derived.Test.YtcmojpfolmcaoaaDoorBase
namespace Go.Proofs.YtcmojpfolmcaoaaDoor
set_option linter.unusedVariables false
set_option linter.unusedSimpArgs false
open Go.RowKit

def isBlank (c : Int) : Bool := c == 32 || c == 9 || c == 10 || c == 13
def isDigit (c : Int) : Bool := decide (48 ≤ c) && decide (c ≤ 57)
def isFirst (c : Int) : Bool := decide (65 ≤ c) && decide (c ≤ 90) || decide (97 ≤ c) && decide (c ≤ 122) || c == 95
def isMark (c : Int) : Bool := c == 46 || c == 45 || c == 58
def isName (c : Int) : Bool := isFirst c || isDigit c || isMark c
def isText (c : Int) : Bool := decide (32 ≤ c) || isBlank c
theorem IsDigit_any (c : Int) (w : World) :
    Calls Tryd.prog 66 #[.int .u8 c] w fun e w' => e = .returned (.bool (isDigit c)) ∧ w' = w := by
  go_enter Tryd.func66, Tryd.ntmps66
  go_wp2
  all_goals (go_ret; exact ⟨ret_bool (by rw [Bool.eq_iff_iff]; simp [isDigit]; omega), rfl⟩)
theorem IsFirst_any (c : Int) (w : World) :
    Calls Tryd.prog 65 #[.int .u8 c] w fun e w' => e = .returned (.bool (isFirst c)) ∧ w' = w := by
  go_enter Tryd.func65, Tryd.ntmps65
  go_wp2
  all_goals (go_ret; exact ⟨ret_bool (by rw [Bool.eq_iff_iff]; simp [isFirst]; omega), rfl⟩)
theorem IsName_any (c : Int) (w : World) :
    Calls Tryd.prog 55 #[.int .u8 c] w fun e w' => e = .returned (.bool (isName c)) ∧ w' = w := by
  go_enter Tryd.func55, Tryd.ntmps55
  go_wp2_with (first
    | (go_at_call 65; refine (IsFirst_any _ _).mono ?_; rintro e w' ⟨rfl, rfl⟩)
    | (go_at_call 66; refine (IsDigit_any _ _).mono ?_; rintro e w' ⟨rfl, rfl⟩))
  all_goals (go_ret; exact ⟨ret_bool (by simp [isName, isMark, *]), rfl⟩)

end Go.Proofs.YtcmojpfolmcaoaaDoor
