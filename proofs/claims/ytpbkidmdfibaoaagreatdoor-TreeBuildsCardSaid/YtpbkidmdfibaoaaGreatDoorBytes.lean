/-
  Layer 1: what each byte is: contracts of the byte functions of package chars and of its answer. Own work.
-/
import Derived.Test.YtpbkidmdfibaoaaGreatDoorRows
import Derived.Test.YtpbkidmdfibaoaaGreatDoorBase
namespace Go.Proofs.YtpbkidmdfibaoaaGreatDoor
set_option linter.unusedVariables false
set_option linter.unusedSimpArgs false
open Go.RowKit

def isBlank (c : Int) : Bool := c == 32 || c == 9 || c == 10 || c == 13
def isDigit (c : Int) : Bool := decide (48 ≤ c) && decide (c ≤ 57)
def isFirst (c : Int) : Bool := decide (65 ≤ c) && decide (c ≤ 90) || decide (97 ≤ c) && decide (c ≤ 122) || c == 95
def isMark (c : Int) : Bool := c == 46 || c == 45 || c == 58
def isName (c : Int) : Bool := isFirst c || isDigit c || isMark c
def isText (c : Int) : Bool := decide (32 ≤ c) || isBlank c
theorem IsBlank_any (c : Int) (w : World) :
    Calls Tryz.prog 88 #[.int .u8 c] w fun e w' => e = .returned (.bool (isBlank c)) ∧ w' = w := by
  go_enter Tryz.func88, Tryz.ntmps88
  go_wp2
  all_goals (go_ret; exact ⟨ret_bool (by simp [isBlank, *]), rfl⟩)
theorem IsDigit_any (c : Int) (w : World) :
    Calls Tryz.prog 96 #[.int .u8 c] w fun e w' => e = .returned (.bool (isDigit c)) ∧ w' = w := by
  go_enter Tryz.func96, Tryz.ntmps96
  go_wp2
  all_goals (go_ret; exact ⟨ret_bool (by rw [Bool.eq_iff_iff]; simp [isDigit]; omega), rfl⟩)
theorem IsFirst_any (c : Int) (w : World) :
    Calls Tryz.prog 76 #[.int .u8 c] w fun e w' => e = .returned (.bool (isFirst c)) ∧ w' = w := by
  go_enter Tryz.func76, Tryz.ntmps76
  go_wp2
  all_goals (go_ret; exact ⟨ret_bool (by rw [Bool.eq_iff_iff]; simp [isFirst]; omega), rfl⟩)
theorem IsName_any (c : Int) (w : World) :
    Calls Tryz.prog 77 #[.int .u8 c] w fun e w' => e = .returned (.bool (isName c)) ∧ w' = w := by
  go_enter Tryz.func77, Tryz.ntmps77
  go_wp2_with (first
    | (go_at_call 76; refine (IsFirst_any _ _).mono ?_; rintro e w' ⟨rfl, rfl⟩)
    | (go_at_call 96; refine (IsDigit_any _ _).mono ?_; rintro e w' ⟨rfl, rfl⟩))
  all_goals (go_ret; exact ⟨ret_bool (by simp [isName, isMark, *]), rfl⟩)
theorem IsText_any (c : Int) (w : World) :
    Calls Tryz.prog 75 #[.int .u8 c] w fun e w' => e = .returned (.bool (isText c)) ∧ w' = w := by
  go_enter Tryz.func75, Tryz.ntmps75
  go_wp2_with (go_at_call 88; refine (IsBlank_any _ _).mono ?_; rintro e w' ⟨rfl, rfl⟩)
  all_goals (go_ret; exact ⟨ret_bool (by simp [isText, *]), rfl⟩)
def clsI (c : Int) : Int := (if isBlank c then 1 else 0) + (if isDigit c then 10 else 0) + (if isFirst c then 12 else 0) + (if isMark c then 8 else 0) + (if isText c then 16 else 0)
theorem Class_lit (c : Int) (w : World) (h : c = 32 ∨ c = 9 ∨ c = 10 ∨ c = 13 ∨ c = 95 ∨ c = 46 ∨ c = 45 ∨ c = 58) :
    Calls Tryz.prog 71 #[.int .u8 c] w fun e w' => e = .returned (.int .i64 (clsI c)) ∧ w' = w := by
  rcases h with rfl | rfl | rfl | rfl | rfl | rfl | rfl | rfl
  all_goals
    go_enter Tryz.func71, Tryz.ntmps71
    go_wp2
    go_ret
    exact ⟨rfl, rfl⟩
set_option maxHeartbeats 4000000 in
theorem Class_any (c : Int) (w : World) :
    Calls Tryz.prog 71 #[.int .u8 c] w fun e w' => e = .returned (.int .i64 (clsI c)) ∧ w' = w := by
  by_cases h : c = 32 ∨ c = 9 ∨ c = 10 ∨ c = 13 ∨ c = 95 ∨ c = 46 ∨ c = 45 ∨ c = 58
  · exact Class_lit c w h
  have e1 : (c == 32) = false := by simp; omega
  have e2 : (c == 9) = false := by simp; omega
  have e3 : (c == 10) = false := by simp; omega
  have e4 : (c == 13) = false := by simp; omega
  have e5 : (c == 95) = false := by simp; omega
  have e6 : (c == 46) = false := by simp; omega
  have e7 : (c == 45) = false := by simp; omega
  have e8 : (c == 58) = false := by simp; omega
  clear h
  rcases Int.lt_or_le c 32 with h1 | h1 <;> rcases Int.lt_or_le c 48 with h2 | h2 <;> rcases Int.lt_or_le 57 c with h3 | h3 <;> rcases Int.lt_or_le c 65 with h4 | h4 <;> rcases Int.lt_or_le 90 c with h5 | h5 <;> rcases Int.lt_or_le c 97 with h6 | h6 <;> rcases Int.lt_or_le 122 c with h7 | h7
  all_goals first | (exfalso; omega) | skip
  all_goals
    go_enter Tryz.func71, Tryz.ntmps71
    go_wp2
    go_ret
    exact ⟨ret_int (by simp [clsI, isBlank, isDigit, isFirst, isMark, isText, *] <;> omega), rfl⟩
theorem clsI_bd (c : Int) : 0 ≤ clsI c ∧ clsI c ≤ 47 := by
  unfold clsI
  repeat' split
  all_goals omega
theorem Is_any (c k : Int) (w : World) (hk : 1 ≤ k) (hk2 : k ≤ 100) :
    Calls Tryz.prog 48 #[.int .u8 c, .int .i64 k] w fun e w' => e = .returned (.bool (clsI c / k % 2 == 1)) ∧ w' = w := by
  obtain ⟨h0, h1⟩ := clsI_bd c
  have h2 : 0 ≤ clsI c / k := Int.ediv_nonneg h0 (by omega)
  have h3 : clsI c / k ≤ 47 := Int.le_trans (Int.ediv_le_self _ h0) h1
  have h4 : k ≠ 0 := by omega
  have h5 : (k == 0) = false := by simp; omega
  have h6 : 0 < k := by omega
  go_enter Tryz.func48, Tryz.ntmps48
  go_wp2_with (go_at_call 71; refine (Class_any _ _).mono ?_; rintro e w' ⟨rfl, rfl⟩)
  go_ret
  exact ⟨rfl, rfl⟩
theorem cls_all (c : Int) : (clsI c / 1 % 2 == 1) = isBlank c ∧ (clsI c / 2 % 2 == 1) = isDigit c ∧ (clsI c / 4 % 2 == 1) = isFirst c ∧ (clsI c / 8 % 2 == 1) = isName c ∧ (clsI c / 16 % 2 == 1) = isText c := by
  have x1 : isDigit c = true → isFirst c = true → False := by simp [isDigit, isFirst]; omega
  have x2 : isDigit c = true → isMark c = true → False := by simp [isDigit, isMark]; omega
  have x3 : isFirst c = true → isMark c = true → False := by simp [isFirst, isMark]; omega
  unfold clsI isName
  generalize isBlank c = b1 at *; generalize isDigit c = b2 at *; generalize isFirst c = b3 at *; generalize isMark c = b4 at *; generalize isText c = b5 at *
  revert x1 x2 x3
  cases b1 <;> cases b2 <;> cases b3 <;> cases b4 <;> cases b5 <;> decide

end Go.Proofs.YtpbkidmdfibaoaaGreatDoor
