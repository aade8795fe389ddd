/-
  Layer 1: letters: contracts of chars.Letter and of its answer. Own work.
-/
import Derived.Test.YtpbkidmdfibaoaaDoorBytes
namespace Go.Proofs.YtpbkidmdfibaoaaDoor
set_option linter.unusedVariables false
set_option linter.unusedSimpArgs false
open Go.RowKit

/-- is there a letter n? -/
def letOk (n : Int) : Bool := (n == 9 || n == 10 || n == 13 || decide (32 ≤ n) && decide (n ≤ 1114111)) && !(decide (55296 ≤ n) && decide (n ≤ 57343))
/-- its bytes -/
def letB (n : Int) : ByteArray := if letOk n then Utf8.encode n else ⟨#[]⟩

theorem letB_no {n : Int} (h : letOk n = false) : letB n = ⟨#[]⟩ := by simp [letB, h]
theorem letB_yes {n : Int} (h : letOk n = true) : letB n = Utf8.encode n := by simp [letB, h]

theorem Letter_ctl (n : Int) (w : World) (h : n = 9 ∨ n = 10 ∨ n = 13) :
    Calls Tryd.prog 113 #[.int .i64 n] w fun e w' => e = .returned (.tuple #[.string (letB n), .bool (letOk n)]) ∧ w' = w := by
  rcases h with rfl | rfl | rfl
  all_goals
    go_enter Tryd.func113, Tryd.ntmps113
    go_wp2
    go_ret2
    exact ⟨rfl, rfl⟩
theorem ret_let {s : ByteArray} {b : Bool} {n : Int} (hb : b = letOk n) (hs : letOk n = b → s = letB n) : Ending.returned (.tuple #[.string s, .bool b]) = .returned (.tuple #[.string (letB n), .bool (letOk n)]) := by
  subst hb; rw [hs rfl]
theorem Letter_any (n : Int) (w : World) :
    Calls Tryd.prog 113 #[.int .i64 n] w fun e w' => e = .returned (.tuple #[.string (letB n), .bool (letOk n)]) ∧ w' = w := by
  by_cases h : n = 9 ∨ n = 10 ∨ n = 13
  · exact Letter_ctl n w h
  have h9 : (n == 9) = false := by simp; omega
  have h10 : (n == 10) = false := by simp; omega
  have h13 : (n == 13) = false := by simp; omega
  clear h
  rcases Int.lt_or_le n 32 with h1 | h1
  · go_enter Tryd.func113, Tryd.ntmps113
    go_wp2
    go_ret2
    exact ⟨ret_let (by simp [letOk, *] <;> omega) (fun h => (letB_no h).symm), rfl⟩
  rcases Int.lt_or_le 1114111 n with h2 | h2
  · go_enter Tryd.func113, Tryd.ntmps113
    go_wp2
    go_ret2
    exact ⟨ret_let (by simp [letOk, *] <;> omega) (fun h => (letB_no h).symm), rfl⟩
  rcases Int.lt_or_le n 55296 with h3 | h3
  · go_enter Tryd.func113, Tryd.ntmps113
    go_wp2
    go_ret2
    exact ⟨ret_let (by have := h1; simp [letOk, *] <;> omega) (fun h => (letB_yes h).symm), rfl⟩
  rcases Int.lt_or_le 57343 n with h4 | h4
  · go_enter Tryd.func113, Tryd.ntmps113
    go_wp2
    go_ret2
    exact ⟨ret_let (by have := h1; simp [letOk, *] <;> omega) (fun h => (letB_yes h).symm), rfl⟩
  · go_enter Tryd.func113, Tryd.ntmps113
    go_wp2
    go_ret2
    exact ⟨ret_let (by simp [letOk, *]) (fun h => (letB_no h).symm), rfl⟩


end Go.Proofs.YtpbkidmdfibaoaaDoor
