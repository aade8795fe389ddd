/-
  Layer 6: scopes' words: contracts of coord.Word, coord.Scope, of the answer's Word, and of the cut of a text. Own work.
-/
import Derived.Test.YtcmojpfolmcaoaaDoorMatch
namespace Go.Proofs.YtcmojpfolmcaoaaDoor
set_option linter.unusedVariables false
set_option linter.unusedSimpArgs false
open Go.RowKit

def wordS (a : Int) : ByteArray :=
  if a = 1 then ⟨#[99, 111, 109, 112, 105, 108, 101]⟩ else if a = 2 then ⟨#[114, 117, 110, 116, 105, 109, 101]⟩ else if a = 3 then ⟨#[112, 114, 111, 118, 105, 100, 101, 100]⟩
  else if a = 4 then ⟨#[115, 121, 115, 116, 101, 109]⟩ else if a = 5 then ⟨#[116, 101, 115, 116]⟩ else if a = 6 then ⟨#[105, 109, 112, 111, 114, 116]⟩ else ⟨#[]⟩
theorem Word_any (a : Int) (w : World) :
    Calls Tryd.prog 27 #[.int .i64 a] w fun e w' => e = .returned (.string (wordS a)) ∧ w' = w := by
  go_enter Tryd.func27, Tryd.ntmps27
  go_wp2
  all_goals (go_ret; refine ⟨ret_str ?_, rfl⟩; unfold wordS; simp_all)
theorem refWord_lit (a : Int) (h : a = 0 ∨ a = 1 ∨ a = 2 ∨ a = 3 ∨ a = 4 ∨ a = 5 ∨ a = 6) (w : World) :
    Calls Tryd.prog 31 #[.int .i64 a] w fun e w' => e = .returned (.string (wordS a)) ∧ Below w.heap.size w w' := by
  rcases h with rfl | rfl | rfl | rfl | rfl | rfl | rfl
  all_goals
    go_enter Tryd.func31, Tryd.ntmps31
    go_wp2
    go_ret
    exact ⟨rfl, by repeat (first | exact Below.refl _ _ | refine below_al' _ ?_ (Nat.le_refl _))⟩
theorem refWord_any (a : Int) (w : World) :
    Calls Tryd.prog 31 #[.int .i64 a] w fun e w' => e = .returned (.string (wordS a)) ∧ Below w.heap.size w w' := by
  by_cases h : 0 ≤ a ∧ a ≤ 6
  · exact refWord_lit a (by omega) w
  · have hd : wordS a = ⟨#[]⟩ := by
      unfold wordS
      rw [if_neg (by omega), if_neg (by omega), if_neg (by omega), if_neg (by omega), if_neg (by omega), if_neg (by omega)]
    rw [hd]
    go_enter Tryd.func31, Tryd.ntmps31
    go_wp2
    all_goals first
      | (go_ret; exact ⟨rfl, by repeat (first | exact Below.refl _ _ | refine below_al' _ ?_ (Nat.le_refl _))⟩)
      | (exfalso; omega)
def scopeI (s : ByteArray) : Int :=
  if (s.toList == [99, 111, 109, 112, 105, 108, 101]) = true then 1 else if (s.toList == [114, 117, 110, 116, 105, 109, 101]) = true then 2 else if (s.toList == [112, 114, 111, 118, 105, 100, 101, 100]) = true then 3
  else if (s.toList == [115, 121, 115, 116, 101, 109]) = true then 4 else if (s.toList == [116, 101, 115, 116]) = true then 5 else if (s.toList == [105, 109, 112, 111, 114, 116]) = true then 6 else 0
theorem Scope_any (s : ByteArray) (w : World) :
    Calls Tryd.prog 64 #[.string s] w fun e w' => e = .returned (.tuple #[.int .i64 (scopeI s), .bool (decide (0 < scopeI s))]) ∧ w' = w := by
  go_enter Tryd.func64, Tryd.ntmps64
  go_wp2
  all_goals (go_ret2; refine ⟨?_, rfl⟩; simp [scopeI, *])
theorem scope_facts (t : ByteArray) :
    (scopeI t = 1 ∧ (([99, 111, 109, 112, 105, 108, 101] : List UInt8) == t.toList) = true ∧ (([114, 117, 110, 116, 105, 109, 101] : List UInt8) == t.toList) = false ∧ (([112, 114, 111, 118, 105, 100, 101, 100] : List UInt8) == t.toList) = false ∧ (([115, 121, 115, 116, 101, 109] : List UInt8) == t.toList) = false ∧ (([116, 101, 115, 116] : List UInt8) == t.toList) = false ∧ (([105, 109, 112, 111, 114, 116] : List UInt8) == t.toList) = false) ∨
    (scopeI t = 2 ∧ (([99, 111, 109, 112, 105, 108, 101] : List UInt8) == t.toList) = false ∧ (([114, 117, 110, 116, 105, 109, 101] : List UInt8) == t.toList) = true ∧ (([112, 114, 111, 118, 105, 100, 101, 100] : List UInt8) == t.toList) = false ∧ (([115, 121, 115, 116, 101, 109] : List UInt8) == t.toList) = false ∧ (([116, 101, 115, 116] : List UInt8) == t.toList) = false ∧ (([105, 109, 112, 111, 114, 116] : List UInt8) == t.toList) = false) ∨
    (scopeI t = 3 ∧ (([99, 111, 109, 112, 105, 108, 101] : List UInt8) == t.toList) = false ∧ (([114, 117, 110, 116, 105, 109, 101] : List UInt8) == t.toList) = false ∧ (([112, 114, 111, 118, 105, 100, 101, 100] : List UInt8) == t.toList) = true ∧ (([115, 121, 115, 116, 101, 109] : List UInt8) == t.toList) = false ∧ (([116, 101, 115, 116] : List UInt8) == t.toList) = false ∧ (([105, 109, 112, 111, 114, 116] : List UInt8) == t.toList) = false) ∨
    (scopeI t = 4 ∧ (([99, 111, 109, 112, 105, 108, 101] : List UInt8) == t.toList) = false ∧ (([114, 117, 110, 116, 105, 109, 101] : List UInt8) == t.toList) = false ∧ (([112, 114, 111, 118, 105, 100, 101, 100] : List UInt8) == t.toList) = false ∧ (([115, 121, 115, 116, 101, 109] : List UInt8) == t.toList) = true ∧ (([116, 101, 115, 116] : List UInt8) == t.toList) = false ∧ (([105, 109, 112, 111, 114, 116] : List UInt8) == t.toList) = false) ∨
    (scopeI t = 5 ∧ (([99, 111, 109, 112, 105, 108, 101] : List UInt8) == t.toList) = false ∧ (([114, 117, 110, 116, 105, 109, 101] : List UInt8) == t.toList) = false ∧ (([112, 114, 111, 118, 105, 100, 101, 100] : List UInt8) == t.toList) = false ∧ (([115, 121, 115, 116, 101, 109] : List UInt8) == t.toList) = false ∧ (([116, 101, 115, 116] : List UInt8) == t.toList) = true ∧ (([105, 109, 112, 111, 114, 116] : List UInt8) == t.toList) = false) ∨
    (scopeI t = 6 ∧ (([99, 111, 109, 112, 105, 108, 101] : List UInt8) == t.toList) = false ∧ (([114, 117, 110, 116, 105, 109, 101] : List UInt8) == t.toList) = false ∧ (([112, 114, 111, 118, 105, 100, 101, 100] : List UInt8) == t.toList) = false ∧ (([115, 121, 115, 116, 101, 109] : List UInt8) == t.toList) = false ∧ (([116, 101, 115, 116] : List UInt8) == t.toList) = false ∧ (([105, 109, 112, 111, 114, 116] : List UInt8) == t.toList) = true) ∨
    (scopeI t = 0 ∧ (([99, 111, 109, 112, 105, 108, 101] : List UInt8) == t.toList) = false ∧ (([114, 117, 110, 116, 105, 109, 101] : List UInt8) == t.toList) = false ∧ (([112, 114, 111, 118, 105, 100, 101, 100] : List UInt8) == t.toList) = false ∧ (([115, 121, 115, 116, 101, 109] : List UInt8) == t.toList) = false ∧ (([116, 101, 115, 116] : List UInt8) == t.toList) = false ∧ (([105, 109, 112, 111, 114, 116] : List UInt8) == t.toList) = false) := by
  unfold scopeI
  generalize t.toList = l
  by_cases e1 : l = [99, 111, 109, 112, 105, 108, 101]
  · subst e1; decide
  by_cases e2 : l = [114, 117, 110, 116, 105, 109, 101]
  · subst e2; decide
  by_cases e3 : l = [112, 114, 111, 118, 105, 100, 101, 100]
  · subst e3; decide
  by_cases e4 : l = [115, 121, 115, 116, 101, 109]
  · subst e4; decide
  by_cases e5 : l = [116, 101, 115, 116]
  · subst e5; decide
  by_cases e6 : l = [105, 109, 112, 111, 114, 116]
  · subst e6; decide
  have c1 : ∀ a b : List UInt8, (a == b) = (b == a) := fun a b => by rw [Bool.eq_iff_iff]; simp only [beq_iff_eq]; exact eq_comm
  have g1 : (l == [99, 111, 109, 112, 105, 108, 101]) = false := by simpa using e1
  have g2 : (l == [114, 117, 110, 116, 105, 109, 101]) = false := by simpa using e2
  have g3 : (l == [112, 114, 111, 118, 105, 100, 101, 100]) = false := by simpa using e3
  have g4 : (l == [115, 121, 115, 116, 101, 109]) = false := by simpa using e4
  have g5 : (l == [116, 101, 115, 116]) = false := by simpa using e5
  have g6 : (l == [105, 109, 112, 111, 114, 116]) = false := by simpa using e6
  refine .inr (.inr (.inr (.inr (.inr (.inr ⟨?_, ?_, ?_, ?_, ?_, ?_, ?_⟩)))))
  · simp [g1, g2, g3, g4, g5, g6]
  · rw [c1]; exact g1
  · rw [c1]; exact g2
  · rw [c1]; exact g3
  · rw [c1]; exact g4
  · rw [c1]; exact g5
  · rw [c1]; exact g6
theorem scope_word (a : Int) : scopeI (wordS a) = if 1 ≤ a ∧ a ≤ 6 then a else 0 := by
  by_cases h : 1 ≤ a ∧ a ≤ 6
  · rw [if_pos h]
    have h6 : a = 1 ∨ a = 2 ∨ a = 3 ∨ a = 4 ∨ a = 5 ∨ a = 6 := by omega
    rcases h6 with rfl | rfl | rfl | rfl | rfl | rfl
    · exact (show scopeI (wordS 1) = 1 by kernel_rfl)
    · exact (show scopeI (wordS 2) = 2 by kernel_rfl)
    · exact (show scopeI (wordS 3) = 3 by kernel_rfl)
    · exact (show scopeI (wordS 4) = 4 by kernel_rfl)
    · exact (show scopeI (wordS 5) = 5 by kernel_rfl)
    · exact (show scopeI (wordS 6) = 6 by kernel_rfl)
  · rw [if_neg h]
    have hd : wordS a = ⟨#[]⟩ := by
      unfold wordS
      rw [if_neg (by omega), if_neg (by omega), if_neg (by omega), if_neg (by omega), if_neg (by omega), if_neg (by omega)]
    rw [hd]
    exact (show scopeI ⟨#[]⟩ = 0 by kernel_rfl)
end Go.Proofs.YtcmojpfolmcaoaaDoor
