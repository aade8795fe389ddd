/-
  Layer 6: the card CoordScopes.
-/
import Derived.Test.YtinhedegbaegnaaDoorWord6
namespace Go.Proofs.YtinhedegbaegnaaDoor
set_option linter.unusedVariables false
set_option linter.unusedSimpArgs false
open Go.ChangeShapes Go.WideShapes Go.ChangeAt Go.RowKit
open Go.ChangeMaps (open_string shut_string)

set_option maxHeartbeats 8000000 in
theorem walk_CoordScopes (a : Int) (ha : -9223372036854775808 ≤ a ∧ a ≤ 9223372036854775807) (s : ByteArray) (hs : s.size ≤ 9223372036854775807) (w : World) (hm : MaxOk w) :
    Calls Tryd.prog 7 #[.int .i64 a, .string s] w fun e w' => e = .returned (.bool true) ∧ Below w.heap.size w w' := by
  clear ha
  have HM := Lib.hid hm; clear hm
  have hlives : ∀ w', Below w.heap.size w w' → Calls Tryd.prog 11 #[] w' fun e w2 => e = .returned (.bool true) ∧ Below w.heap.size w w2 := fun w' hb =>
    (lives06 w' (HM.out.below hb (Nat.le_refl _))).mono fun e w2 ⟨he, hb2⟩ => ⟨he, hb.trans (hb2.mono hb.size)⟩
  have HL := Lib.hid hlives; clear hlives
  have r1 : ∀ w', Below w.heap.size w w' → Calls Tryd.prog 29 #[.int .i64 1] w' fun e w2 => e = .returned (.string ⟨#[99, 111, 109, 112, 105, 108, 101]⟩) ∧ Below w.heap.size w w2 := fun w' hb =>
    (refWord_any 1 w').mono fun e w2 ⟨he, hb2⟩ => ⟨he, hb.trans (hb2.mono hb.size)⟩
  have R1 := Lib.hid r1; clear r1
  have r2 : ∀ w', Below w.heap.size w w' → Calls Tryd.prog 29 #[.int .i64 2] w' fun e w2 => e = .returned (.string ⟨#[114, 117, 110, 116, 105, 109, 101]⟩) ∧ Below w.heap.size w w2 := fun w' hb =>
    (refWord_any 2 w').mono fun e w2 ⟨he, hb2⟩ => ⟨he, hb.trans (hb2.mono hb.size)⟩
  have R2 := Lib.hid r2; clear r2
  have r3 : ∀ w', Below w.heap.size w w' → Calls Tryd.prog 29 #[.int .i64 3] w' fun e w2 => e = .returned (.string ⟨#[112, 114, 111, 118, 105, 100, 101, 100]⟩) ∧ Below w.heap.size w w2 := fun w' hb =>
    (refWord_any 3 w').mono fun e w2 ⟨he, hb2⟩ => ⟨he, hb.trans (hb2.mono hb.size)⟩
  have R3 := Lib.hid r3; clear r3
  have r4 : ∀ w', Below w.heap.size w w' → Calls Tryd.prog 29 #[.int .i64 4] w' fun e w2 => e = .returned (.string ⟨#[115, 121, 115, 116, 101, 109]⟩) ∧ Below w.heap.size w w2 := fun w' hb =>
    (refWord_any 4 w').mono fun e w2 ⟨he, hb2⟩ => ⟨he, hb.trans (hb2.mono hb.size)⟩
  have R4 := Lib.hid r4; clear r4
  have r5 : ∀ w', Below w.heap.size w w' → Calls Tryd.prog 29 #[.int .i64 5] w' fun e w2 => e = .returned (.string ⟨#[116, 101, 115, 116]⟩) ∧ Below w.heap.size w w2 := fun w' hb =>
    (refWord_any 5 w').mono fun e w2 ⟨he, hb2⟩ => ⟨he, hb.trans (hb2.mono hb.size)⟩
  have R5 := Lib.hid r5; clear r5
  have r6 : ∀ w', Below w.heap.size w w' → Calls Tryd.prog 29 #[.int .i64 6] w' fun e w2 => e = .returned (.string ⟨#[105, 109, 112, 111, 114, 116]⟩) ∧ Below w.heap.size w w2 := fun w' hb =>
    (refWord_any 6 w').mono fun e w2 ⟨he, hb2⟩ => ⟨he, hb.trans (hb2.mono hb.size)⟩
  have R6 := Lib.hid r6; clear r6
  have ra : ∀ w', Below w.heap.size w w' → Calls Tryd.prog 29 #[.int .i64 a] w' fun e w2 => e = .returned (.string (wordS a)) ∧ Below w.heap.size w w2 := fun w' hb =>
    (refWord_any a w').mono fun e w2 ⟨he, hb2⟩ => ⟨he, hb.trans (hb2.mono hb.size)⟩
  have rb := fun w' => Word_any a w'
  have rs := fun w' => Scope_any (wordS a) w'
  rw [scope_word] at rs
  generalize wordS a = wa at ra rb rs
  have RA := Lib.hid ra; clear ra
  have RB := Lib.hid rb; clear rb
  have hb0 := Below.refl w.heap.size w
  have hcut := Lib.hid (cut06_any s hs w)
  go_enter Tryd.func7, Tryd.ntmps7
  go_wp2_with fail
  refine hcut.out.mono ?_
  rintro e w1 ⟨t, rfl, ht, rfl⟩
  have rt := fun w' => Scope_any t w'
  rcases scope_facts t with ⟨hn, f1, f2, f3, f4, f5, f6⟩ | ⟨hn, f1, f2, f3, f4, f5, f6⟩ | ⟨hn, f1, f2, f3, f4, f5, f6⟩ | ⟨hn, f1, f2, f3, f4, f5, f6⟩ | ⟨hn, f1, f2, f3, f4, f5, f6⟩ | ⟨hn, f1, f2, f3, f4, f5, f6⟩ | ⟨hn, f1, f2, f3, f4, f5, f6⟩
  all_goals
    rw [hn] at rt
    have RT := Lib.hid rt; clear rt hn
    by_cases hin : 1 ≤ a ∧ a ≤ 6
    · rw [if_pos hin] at rs
      have hd : decide (0 < a) = true := decide_eq_true (by omega)
      rw [hd] at rs
      have RS := Lib.hid rs; clear rs hd
      go_wp2_with (first
        | (go_at_call 29; with_reducible refine (R1.out _ (by assumption)).mono ?_; rintro e w' ⟨rfl, hb⟩)
        | (go_at_call 29; with_reducible refine (R2.out _ (by assumption)).mono ?_; rintro e w' ⟨rfl, hb⟩)
        | (go_at_call 29; with_reducible refine (R3.out _ (by assumption)).mono ?_; rintro e w' ⟨rfl, hb⟩)
        | (go_at_call 29; with_reducible refine (R4.out _ (by assumption)).mono ?_; rintro e w' ⟨rfl, hb⟩)
        | (go_at_call 29; with_reducible refine (R5.out _ (by assumption)).mono ?_; rintro e w' ⟨rfl, hb⟩)
        | (go_at_call 29; with_reducible refine (R6.out _ (by assumption)).mono ?_; rintro e w' ⟨rfl, hb⟩)
        | (go_at_call 29; with_reducible refine (RA.out _ (by assumption)).mono ?_; rintro e w' ⟨rfl, hb⟩)
        | (go_at_call 30; with_reducible refine (RB.out _).mono ?_; rintro e w' ⟨rfl, rfl⟩)
        | (go_at_call 28; with_reducible refine (RT.out _).mono ?_; rintro e w' ⟨rfl, rfl⟩)
        | (go_at_call 28; with_reducible refine (RS.out _).mono ?_; rintro e w' ⟨rfl, rfl⟩)
        | (go_at_call 11; with_reducible refine (HL.out _ (by assumption)).mono ?_; rintro e w' ⟨rfl, hb⟩))
      refine wp_loop_rounds 7 ?_
      rw [rounds_succ]
      go_wp2_with (first
        | (go_at_call 29; with_reducible refine (R1.out _ (by assumption)).mono ?_; rintro e w' ⟨rfl, hb⟩)
        | (go_at_call 29; with_reducible refine (R2.out _ (by assumption)).mono ?_; rintro e w' ⟨rfl, hb⟩)
        | (go_at_call 29; with_reducible refine (R3.out _ (by assumption)).mono ?_; rintro e w' ⟨rfl, hb⟩)
        | (go_at_call 29; with_reducible refine (R4.out _ (by assumption)).mono ?_; rintro e w' ⟨rfl, hb⟩)
        | (go_at_call 29; with_reducible refine (R5.out _ (by assumption)).mono ?_; rintro e w' ⟨rfl, hb⟩)
        | (go_at_call 29; with_reducible refine (R6.out _ (by assumption)).mono ?_; rintro e w' ⟨rfl, hb⟩)
        | (go_at_call 29; with_reducible refine (RA.out _ (by assumption)).mono ?_; rintro e w' ⟨rfl, hb⟩)
        | (go_at_call 30; with_reducible refine (RB.out _).mono ?_; rintro e w' ⟨rfl, rfl⟩)
        | (go_at_call 28; with_reducible refine (RT.out _).mono ?_; rintro e w' ⟨rfl, rfl⟩)
        | (go_at_call 28; with_reducible refine (RS.out _).mono ?_; rintro e w' ⟨rfl, rfl⟩)
        | (go_at_call 11; with_reducible refine (HL.out _ (by assumption)).mono ?_; rintro e w' ⟨rfl, hb⟩))
      rw [rounds_succ]
      go_wp2_with (first
        | (go_at_call 29; with_reducible refine (R1.out _ (by assumption)).mono ?_; rintro e w' ⟨rfl, hb⟩)
        | (go_at_call 29; with_reducible refine (R2.out _ (by assumption)).mono ?_; rintro e w' ⟨rfl, hb⟩)
        | (go_at_call 29; with_reducible refine (R3.out _ (by assumption)).mono ?_; rintro e w' ⟨rfl, hb⟩)
        | (go_at_call 29; with_reducible refine (R4.out _ (by assumption)).mono ?_; rintro e w' ⟨rfl, hb⟩)
        | (go_at_call 29; with_reducible refine (R5.out _ (by assumption)).mono ?_; rintro e w' ⟨rfl, hb⟩)
        | (go_at_call 29; with_reducible refine (R6.out _ (by assumption)).mono ?_; rintro e w' ⟨rfl, hb⟩)
        | (go_at_call 29; with_reducible refine (RA.out _ (by assumption)).mono ?_; rintro e w' ⟨rfl, hb⟩)
        | (go_at_call 30; with_reducible refine (RB.out _).mono ?_; rintro e w' ⟨rfl, rfl⟩)
        | (go_at_call 28; with_reducible refine (RT.out _).mono ?_; rintro e w' ⟨rfl, rfl⟩)
        | (go_at_call 28; with_reducible refine (RS.out _).mono ?_; rintro e w' ⟨rfl, rfl⟩)
        | (go_at_call 11; with_reducible refine (HL.out _ (by assumption)).mono ?_; rintro e w' ⟨rfl, hb⟩))
      rw [rounds_succ]
      go_wp2_with (first
        | (go_at_call 29; with_reducible refine (R1.out _ (by assumption)).mono ?_; rintro e w' ⟨rfl, hb⟩)
        | (go_at_call 29; with_reducible refine (R2.out _ (by assumption)).mono ?_; rintro e w' ⟨rfl, hb⟩)
        | (go_at_call 29; with_reducible refine (R3.out _ (by assumption)).mono ?_; rintro e w' ⟨rfl, hb⟩)
        | (go_at_call 29; with_reducible refine (R4.out _ (by assumption)).mono ?_; rintro e w' ⟨rfl, hb⟩)
        | (go_at_call 29; with_reducible refine (R5.out _ (by assumption)).mono ?_; rintro e w' ⟨rfl, hb⟩)
        | (go_at_call 29; with_reducible refine (R6.out _ (by assumption)).mono ?_; rintro e w' ⟨rfl, hb⟩)
        | (go_at_call 29; with_reducible refine (RA.out _ (by assumption)).mono ?_; rintro e w' ⟨rfl, hb⟩)
        | (go_at_call 30; with_reducible refine (RB.out _).mono ?_; rintro e w' ⟨rfl, rfl⟩)
        | (go_at_call 28; with_reducible refine (RT.out _).mono ?_; rintro e w' ⟨rfl, rfl⟩)
        | (go_at_call 28; with_reducible refine (RS.out _).mono ?_; rintro e w' ⟨rfl, rfl⟩)
        | (go_at_call 11; with_reducible refine (HL.out _ (by assumption)).mono ?_; rintro e w' ⟨rfl, hb⟩))
      rw [rounds_succ]
      go_wp2_with (first
        | (go_at_call 29; with_reducible refine (R1.out _ (by assumption)).mono ?_; rintro e w' ⟨rfl, hb⟩)
        | (go_at_call 29; with_reducible refine (R2.out _ (by assumption)).mono ?_; rintro e w' ⟨rfl, hb⟩)
        | (go_at_call 29; with_reducible refine (R3.out _ (by assumption)).mono ?_; rintro e w' ⟨rfl, hb⟩)
        | (go_at_call 29; with_reducible refine (R4.out _ (by assumption)).mono ?_; rintro e w' ⟨rfl, hb⟩)
        | (go_at_call 29; with_reducible refine (R5.out _ (by assumption)).mono ?_; rintro e w' ⟨rfl, hb⟩)
        | (go_at_call 29; with_reducible refine (R6.out _ (by assumption)).mono ?_; rintro e w' ⟨rfl, hb⟩)
        | (go_at_call 29; with_reducible refine (RA.out _ (by assumption)).mono ?_; rintro e w' ⟨rfl, hb⟩)
        | (go_at_call 30; with_reducible refine (RB.out _).mono ?_; rintro e w' ⟨rfl, rfl⟩)
        | (go_at_call 28; with_reducible refine (RT.out _).mono ?_; rintro e w' ⟨rfl, rfl⟩)
        | (go_at_call 28; with_reducible refine (RS.out _).mono ?_; rintro e w' ⟨rfl, rfl⟩)
        | (go_at_call 11; with_reducible refine (HL.out _ (by assumption)).mono ?_; rintro e w' ⟨rfl, hb⟩))
      rw [rounds_succ]
      go_wp2_with (first
        | (go_at_call 29; with_reducible refine (R1.out _ (by assumption)).mono ?_; rintro e w' ⟨rfl, hb⟩)
        | (go_at_call 29; with_reducible refine (R2.out _ (by assumption)).mono ?_; rintro e w' ⟨rfl, hb⟩)
        | (go_at_call 29; with_reducible refine (R3.out _ (by assumption)).mono ?_; rintro e w' ⟨rfl, hb⟩)
        | (go_at_call 29; with_reducible refine (R4.out _ (by assumption)).mono ?_; rintro e w' ⟨rfl, hb⟩)
        | (go_at_call 29; with_reducible refine (R5.out _ (by assumption)).mono ?_; rintro e w' ⟨rfl, hb⟩)
        | (go_at_call 29; with_reducible refine (R6.out _ (by assumption)).mono ?_; rintro e w' ⟨rfl, hb⟩)
        | (go_at_call 29; with_reducible refine (RA.out _ (by assumption)).mono ?_; rintro e w' ⟨rfl, hb⟩)
        | (go_at_call 30; with_reducible refine (RB.out _).mono ?_; rintro e w' ⟨rfl, rfl⟩)
        | (go_at_call 28; with_reducible refine (RT.out _).mono ?_; rintro e w' ⟨rfl, rfl⟩)
        | (go_at_call 28; with_reducible refine (RS.out _).mono ?_; rintro e w' ⟨rfl, rfl⟩)
        | (go_at_call 11; with_reducible refine (HL.out _ (by assumption)).mono ?_; rintro e w' ⟨rfl, hb⟩))
      rw [rounds_succ]
      go_wp2_with (first
        | (go_at_call 29; with_reducible refine (R1.out _ (by assumption)).mono ?_; rintro e w' ⟨rfl, hb⟩)
        | (go_at_call 29; with_reducible refine (R2.out _ (by assumption)).mono ?_; rintro e w' ⟨rfl, hb⟩)
        | (go_at_call 29; with_reducible refine (R3.out _ (by assumption)).mono ?_; rintro e w' ⟨rfl, hb⟩)
        | (go_at_call 29; with_reducible refine (R4.out _ (by assumption)).mono ?_; rintro e w' ⟨rfl, hb⟩)
        | (go_at_call 29; with_reducible refine (R5.out _ (by assumption)).mono ?_; rintro e w' ⟨rfl, hb⟩)
        | (go_at_call 29; with_reducible refine (R6.out _ (by assumption)).mono ?_; rintro e w' ⟨rfl, hb⟩)
        | (go_at_call 29; with_reducible refine (RA.out _ (by assumption)).mono ?_; rintro e w' ⟨rfl, hb⟩)
        | (go_at_call 30; with_reducible refine (RB.out _).mono ?_; rintro e w' ⟨rfl, rfl⟩)
        | (go_at_call 28; with_reducible refine (RT.out _).mono ?_; rintro e w' ⟨rfl, rfl⟩)
        | (go_at_call 28; with_reducible refine (RS.out _).mono ?_; rintro e w' ⟨rfl, rfl⟩)
        | (go_at_call 11; with_reducible refine (HL.out _ (by assumption)).mono ?_; rintro e w' ⟨rfl, hb⟩))
      rw [rounds_succ]
      go_wp2_with (first
        | (go_at_call 29; with_reducible refine (R1.out _ (by assumption)).mono ?_; rintro e w' ⟨rfl, hb⟩)
        | (go_at_call 29; with_reducible refine (R2.out _ (by assumption)).mono ?_; rintro e w' ⟨rfl, hb⟩)
        | (go_at_call 29; with_reducible refine (R3.out _ (by assumption)).mono ?_; rintro e w' ⟨rfl, hb⟩)
        | (go_at_call 29; with_reducible refine (R4.out _ (by assumption)).mono ?_; rintro e w' ⟨rfl, hb⟩)
        | (go_at_call 29; with_reducible refine (R5.out _ (by assumption)).mono ?_; rintro e w' ⟨rfl, hb⟩)
        | (go_at_call 29; with_reducible refine (R6.out _ (by assumption)).mono ?_; rintro e w' ⟨rfl, hb⟩)
        | (go_at_call 29; with_reducible refine (RA.out _ (by assumption)).mono ?_; rintro e w' ⟨rfl, hb⟩)
        | (go_at_call 30; with_reducible refine (RB.out _).mono ?_; rintro e w' ⟨rfl, rfl⟩)
        | (go_at_call 28; with_reducible refine (RT.out _).mono ?_; rintro e w' ⟨rfl, rfl⟩)
        | (go_at_call 28; with_reducible refine (RS.out _).mono ?_; rintro e w' ⟨rfl, rfl⟩)
        | (go_at_call 11; with_reducible refine (HL.out _ (by assumption)).mono ?_; rintro e w' ⟨rfl, hb⟩))
      go_ret
      exact ⟨rfl, by assumption⟩
    · rw [if_neg hin] at rs
      have RS := Lib.hid rs; clear rs
      go_wp2_with (first
        | (go_at_call 29; with_reducible refine (R1.out _ (by assumption)).mono ?_; rintro e w' ⟨rfl, hb⟩)
        | (go_at_call 29; with_reducible refine (R2.out _ (by assumption)).mono ?_; rintro e w' ⟨rfl, hb⟩)
        | (go_at_call 29; with_reducible refine (R3.out _ (by assumption)).mono ?_; rintro e w' ⟨rfl, hb⟩)
        | (go_at_call 29; with_reducible refine (R4.out _ (by assumption)).mono ?_; rintro e w' ⟨rfl, hb⟩)
        | (go_at_call 29; with_reducible refine (R5.out _ (by assumption)).mono ?_; rintro e w' ⟨rfl, hb⟩)
        | (go_at_call 29; with_reducible refine (R6.out _ (by assumption)).mono ?_; rintro e w' ⟨rfl, hb⟩)
        | (go_at_call 29; with_reducible refine (RA.out _ (by assumption)).mono ?_; rintro e w' ⟨rfl, hb⟩)
        | (go_at_call 30; with_reducible refine (RB.out _).mono ?_; rintro e w' ⟨rfl, rfl⟩)
        | (go_at_call 28; with_reducible refine (RT.out _).mono ?_; rintro e w' ⟨rfl, rfl⟩)
        | (go_at_call 28; with_reducible refine (RS.out _).mono ?_; rintro e w' ⟨rfl, rfl⟩)
        | (go_at_call 11; with_reducible refine (HL.out _ (by assumption)).mono ?_; rintro e w' ⟨rfl, hb⟩))
      refine wp_loop_rounds 7 ?_
      rw [rounds_succ]
      go_wp2_with (first
        | (go_at_call 29; with_reducible refine (R1.out _ (by assumption)).mono ?_; rintro e w' ⟨rfl, hb⟩)
        | (go_at_call 29; with_reducible refine (R2.out _ (by assumption)).mono ?_; rintro e w' ⟨rfl, hb⟩)
        | (go_at_call 29; with_reducible refine (R3.out _ (by assumption)).mono ?_; rintro e w' ⟨rfl, hb⟩)
        | (go_at_call 29; with_reducible refine (R4.out _ (by assumption)).mono ?_; rintro e w' ⟨rfl, hb⟩)
        | (go_at_call 29; with_reducible refine (R5.out _ (by assumption)).mono ?_; rintro e w' ⟨rfl, hb⟩)
        | (go_at_call 29; with_reducible refine (R6.out _ (by assumption)).mono ?_; rintro e w' ⟨rfl, hb⟩)
        | (go_at_call 29; with_reducible refine (RA.out _ (by assumption)).mono ?_; rintro e w' ⟨rfl, hb⟩)
        | (go_at_call 30; with_reducible refine (RB.out _).mono ?_; rintro e w' ⟨rfl, rfl⟩)
        | (go_at_call 28; with_reducible refine (RT.out _).mono ?_; rintro e w' ⟨rfl, rfl⟩)
        | (go_at_call 28; with_reducible refine (RS.out _).mono ?_; rintro e w' ⟨rfl, rfl⟩)
        | (go_at_call 11; with_reducible refine (HL.out _ (by assumption)).mono ?_; rintro e w' ⟨rfl, hb⟩))
      rw [rounds_succ]
      go_wp2_with (first
        | (go_at_call 29; with_reducible refine (R1.out _ (by assumption)).mono ?_; rintro e w' ⟨rfl, hb⟩)
        | (go_at_call 29; with_reducible refine (R2.out _ (by assumption)).mono ?_; rintro e w' ⟨rfl, hb⟩)
        | (go_at_call 29; with_reducible refine (R3.out _ (by assumption)).mono ?_; rintro e w' ⟨rfl, hb⟩)
        | (go_at_call 29; with_reducible refine (R4.out _ (by assumption)).mono ?_; rintro e w' ⟨rfl, hb⟩)
        | (go_at_call 29; with_reducible refine (R5.out _ (by assumption)).mono ?_; rintro e w' ⟨rfl, hb⟩)
        | (go_at_call 29; with_reducible refine (R6.out _ (by assumption)).mono ?_; rintro e w' ⟨rfl, hb⟩)
        | (go_at_call 29; with_reducible refine (RA.out _ (by assumption)).mono ?_; rintro e w' ⟨rfl, hb⟩)
        | (go_at_call 30; with_reducible refine (RB.out _).mono ?_; rintro e w' ⟨rfl, rfl⟩)
        | (go_at_call 28; with_reducible refine (RT.out _).mono ?_; rintro e w' ⟨rfl, rfl⟩)
        | (go_at_call 28; with_reducible refine (RS.out _).mono ?_; rintro e w' ⟨rfl, rfl⟩)
        | (go_at_call 11; with_reducible refine (HL.out _ (by assumption)).mono ?_; rintro e w' ⟨rfl, hb⟩))
      rw [rounds_succ]
      go_wp2_with (first
        | (go_at_call 29; with_reducible refine (R1.out _ (by assumption)).mono ?_; rintro e w' ⟨rfl, hb⟩)
        | (go_at_call 29; with_reducible refine (R2.out _ (by assumption)).mono ?_; rintro e w' ⟨rfl, hb⟩)
        | (go_at_call 29; with_reducible refine (R3.out _ (by assumption)).mono ?_; rintro e w' ⟨rfl, hb⟩)
        | (go_at_call 29; with_reducible refine (R4.out _ (by assumption)).mono ?_; rintro e w' ⟨rfl, hb⟩)
        | (go_at_call 29; with_reducible refine (R5.out _ (by assumption)).mono ?_; rintro e w' ⟨rfl, hb⟩)
        | (go_at_call 29; with_reducible refine (R6.out _ (by assumption)).mono ?_; rintro e w' ⟨rfl, hb⟩)
        | (go_at_call 29; with_reducible refine (RA.out _ (by assumption)).mono ?_; rintro e w' ⟨rfl, hb⟩)
        | (go_at_call 30; with_reducible refine (RB.out _).mono ?_; rintro e w' ⟨rfl, rfl⟩)
        | (go_at_call 28; with_reducible refine (RT.out _).mono ?_; rintro e w' ⟨rfl, rfl⟩)
        | (go_at_call 28; with_reducible refine (RS.out _).mono ?_; rintro e w' ⟨rfl, rfl⟩)
        | (go_at_call 11; with_reducible refine (HL.out _ (by assumption)).mono ?_; rintro e w' ⟨rfl, hb⟩))
      rw [rounds_succ]
      go_wp2_with (first
        | (go_at_call 29; with_reducible refine (R1.out _ (by assumption)).mono ?_; rintro e w' ⟨rfl, hb⟩)
        | (go_at_call 29; with_reducible refine (R2.out _ (by assumption)).mono ?_; rintro e w' ⟨rfl, hb⟩)
        | (go_at_call 29; with_reducible refine (R3.out _ (by assumption)).mono ?_; rintro e w' ⟨rfl, hb⟩)
        | (go_at_call 29; with_reducible refine (R4.out _ (by assumption)).mono ?_; rintro e w' ⟨rfl, hb⟩)
        | (go_at_call 29; with_reducible refine (R5.out _ (by assumption)).mono ?_; rintro e w' ⟨rfl, hb⟩)
        | (go_at_call 29; with_reducible refine (R6.out _ (by assumption)).mono ?_; rintro e w' ⟨rfl, hb⟩)
        | (go_at_call 29; with_reducible refine (RA.out _ (by assumption)).mono ?_; rintro e w' ⟨rfl, hb⟩)
        | (go_at_call 30; with_reducible refine (RB.out _).mono ?_; rintro e w' ⟨rfl, rfl⟩)
        | (go_at_call 28; with_reducible refine (RT.out _).mono ?_; rintro e w' ⟨rfl, rfl⟩)
        | (go_at_call 28; with_reducible refine (RS.out _).mono ?_; rintro e w' ⟨rfl, rfl⟩)
        | (go_at_call 11; with_reducible refine (HL.out _ (by assumption)).mono ?_; rintro e w' ⟨rfl, hb⟩))
      rw [rounds_succ]
      go_wp2_with (first
        | (go_at_call 29; with_reducible refine (R1.out _ (by assumption)).mono ?_; rintro e w' ⟨rfl, hb⟩)
        | (go_at_call 29; with_reducible refine (R2.out _ (by assumption)).mono ?_; rintro e w' ⟨rfl, hb⟩)
        | (go_at_call 29; with_reducible refine (R3.out _ (by assumption)).mono ?_; rintro e w' ⟨rfl, hb⟩)
        | (go_at_call 29; with_reducible refine (R4.out _ (by assumption)).mono ?_; rintro e w' ⟨rfl, hb⟩)
        | (go_at_call 29; with_reducible refine (R5.out _ (by assumption)).mono ?_; rintro e w' ⟨rfl, hb⟩)
        | (go_at_call 29; with_reducible refine (R6.out _ (by assumption)).mono ?_; rintro e w' ⟨rfl, hb⟩)
        | (go_at_call 29; with_reducible refine (RA.out _ (by assumption)).mono ?_; rintro e w' ⟨rfl, hb⟩)
        | (go_at_call 30; with_reducible refine (RB.out _).mono ?_; rintro e w' ⟨rfl, rfl⟩)
        | (go_at_call 28; with_reducible refine (RT.out _).mono ?_; rintro e w' ⟨rfl, rfl⟩)
        | (go_at_call 28; with_reducible refine (RS.out _).mono ?_; rintro e w' ⟨rfl, rfl⟩)
        | (go_at_call 11; with_reducible refine (HL.out _ (by assumption)).mono ?_; rintro e w' ⟨rfl, hb⟩))
      rw [rounds_succ]
      go_wp2_with (first
        | (go_at_call 29; with_reducible refine (R1.out _ (by assumption)).mono ?_; rintro e w' ⟨rfl, hb⟩)
        | (go_at_call 29; with_reducible refine (R2.out _ (by assumption)).mono ?_; rintro e w' ⟨rfl, hb⟩)
        | (go_at_call 29; with_reducible refine (R3.out _ (by assumption)).mono ?_; rintro e w' ⟨rfl, hb⟩)
        | (go_at_call 29; with_reducible refine (R4.out _ (by assumption)).mono ?_; rintro e w' ⟨rfl, hb⟩)
        | (go_at_call 29; with_reducible refine (R5.out _ (by assumption)).mono ?_; rintro e w' ⟨rfl, hb⟩)
        | (go_at_call 29; with_reducible refine (R6.out _ (by assumption)).mono ?_; rintro e w' ⟨rfl, hb⟩)
        | (go_at_call 29; with_reducible refine (RA.out _ (by assumption)).mono ?_; rintro e w' ⟨rfl, hb⟩)
        | (go_at_call 30; with_reducible refine (RB.out _).mono ?_; rintro e w' ⟨rfl, rfl⟩)
        | (go_at_call 28; with_reducible refine (RT.out _).mono ?_; rintro e w' ⟨rfl, rfl⟩)
        | (go_at_call 28; with_reducible refine (RS.out _).mono ?_; rintro e w' ⟨rfl, rfl⟩)
        | (go_at_call 11; with_reducible refine (HL.out _ (by assumption)).mono ?_; rintro e w' ⟨rfl, hb⟩))
      rw [rounds_succ]
      go_wp2_with (first
        | (go_at_call 29; with_reducible refine (R1.out _ (by assumption)).mono ?_; rintro e w' ⟨rfl, hb⟩)
        | (go_at_call 29; with_reducible refine (R2.out _ (by assumption)).mono ?_; rintro e w' ⟨rfl, hb⟩)
        | (go_at_call 29; with_reducible refine (R3.out _ (by assumption)).mono ?_; rintro e w' ⟨rfl, hb⟩)
        | (go_at_call 29; with_reducible refine (R4.out _ (by assumption)).mono ?_; rintro e w' ⟨rfl, hb⟩)
        | (go_at_call 29; with_reducible refine (R5.out _ (by assumption)).mono ?_; rintro e w' ⟨rfl, hb⟩)
        | (go_at_call 29; with_reducible refine (R6.out _ (by assumption)).mono ?_; rintro e w' ⟨rfl, hb⟩)
        | (go_at_call 29; with_reducible refine (RA.out _ (by assumption)).mono ?_; rintro e w' ⟨rfl, hb⟩)
        | (go_at_call 30; with_reducible refine (RB.out _).mono ?_; rintro e w' ⟨rfl, rfl⟩)
        | (go_at_call 28; with_reducible refine (RT.out _).mono ?_; rintro e w' ⟨rfl, rfl⟩)
        | (go_at_call 28; with_reducible refine (RS.out _).mono ?_; rintro e w' ⟨rfl, rfl⟩)
        | (go_at_call 11; with_reducible refine (HL.out _ (by assumption)).mono ?_; rintro e w' ⟨rfl, hb⟩))
      all_goals (go_ret; exact ⟨ret_bool (by first | rfl | (simp; omega)), by assumption⟩)

theorem laid_met_CoordScopes (os : Os) : laidMet Tryd.prog Rows.coordScopesRow.laid ((laidWorld #[.int .i64 0, .string .empty] os).forCall (fun _ _ => 0) ⟨#[], #[.int .i64 0, .string .empty], []⟩).memory :=
  laidMet_of_run' 8 (by kernel_rfl) (by kernel_rfl)
theorem reads_CoordScopes (os : Os) {H : Type} (enc : TypeId × Value → H) : ∃ places, DataW.whole enc Tryd.prog ((laidWorld #[.int .i64 0, .string .empty] os).forCall (fun _ _ => 0) ⟨#[], #[.int .i64 0, .string .empty], []⟩).memory Tryd.f7.params.toList Rows.coordScopesSpec.vars false (#[.int .i64 0, .string .empty] : Array Value).toList 8 = some ([.lit (.int .i64 0), .lit (.string [])], [], places) :=
  ⟨[], by kernel_rfl⟩
set_option maxRecDepth 100000 in
theorem lifted_CoordScopes (os : Os) (started : os.Started) (H : Type) (enc : TypeId × Value → H) (F : Stop.Interp) :
    ReturnsInHanded {} Tryd.checked os 7 .any ((OpenSpec.ofChange Rows.coordScopesSpec).preRow enc Tryd.prog Tryd.f7 Rows.coordScopesRow.domain false Rows.coordScopesRow.laid) (((OpenSpec.ofChange Rows.coordScopesSpec).at F).post enc Tryd.prog Tryd.f7 false true false false) := by
  obtain ⟨places, hx⟩ := reads_CoordScopes os enc
  refine returnsInHanded_of_row (C := Tryd.checked) (s := OpenSpec.ofChange Rows.coordScopesSpec) own_knob started (by kernel_rfl) Tryd.func7
    (witness_row_at (enc := enc) (C := Tryd.checked) false (laidWorld #[.int .i64 0, .string .empty] os) #[.int .i64 0, .string .empty] rfl (by kernel_rfl) (by kernel_rfl) (by kernel_rfl)
      (OpenSpec.preRow_of_cond 8 hx (by kernel_rfl) (fun k hk => by cases hk) (by kernel_rfl) (laid_met_CoordScopes os))) ?_
  intro W base args ds gs before hval0 hW _ _ _ _ hsh _
  have hval : ∀ (j : Nat) t v, Tryd.f7.params[j]? = some t → args[j]? = some v → Value.okWide Tryd.prog W .any base t v := hval0
  have hm : MaxOk W := maxOk_of (maxLen_cell W hsh)
  have hW' := hW
  obtain ⟨p, q, hA0, hV, rfl, _, _⟩ := hW
  have hA : DataW.TrodAll enc Tryd.prog W 0 (fun _ => true) true Tryd.f7.params.toList args.toList ds p := hA0
  rw [Tryd.params7] at hA hval
  obtain ⟨v0, vs0, d0, ds0, p0, q0, hargs, rfl, rfl, h0, r0⟩ := trodAll_cons hA
  obtain ⟨v1, vs1, d1, ds1, p1, q1, rfl, rfl, rfl, h1, r1⟩ := trodAll_cons r0
  obtain ⟨rfl, rfl, rfl⟩ := trodAll_nil r1
  obtain rfl : args = #[v0, v1] := by cases args; simp_all
  obtain ⟨rfl, rfl⟩ := trodVars_none hV
  obtain ⟨a0, rfl, rfl, rfl, w0⟩ := open_int Tryd.underlying3 (hval 0 3 v0 rfl rfl) h0
  obtain ⟨a1, rfl, rfl, rfl, w1⟩ := open_string Tryd.underlying9 (hval 1 9 v1 rfl rfl) h1
  clear hA0 hval0
  refine (walk_CoordScopes a0 (wf_i64 w0) a1 (by unfold maxLen at w1; exact w1) W hm).mono fun e W' ⟨he, hb⟩ => ?_
  subst he
  exact ⟨_, rfl, law_post (by kernel_rfl) rfl rfl rfl hW' hb⟩
theorem said_CoordScopes : Rows.CoordScopesSaid :=
  OpenClaim.holds_of_cond 7 Tryd.f7 rfl rfl rfl rfl rfl rfl rfl ⟨rfl, rfl, rfl, rfl, rfl⟩ rfl rfl rfl rfl rfl (by kernel_rfl) Tryd.func7 (by kernel_rfl)
    (of_decide_eq_true (by kernel_rfl)) (by unfold Func.isWrapper; first | (rw [if_pos (by decide +kernel)]; kernel_rfl) | (rw [if_neg (by decide +kernel)]; exact ⟨rfl, rfl⟩))
    (fun os started H enc _ F => by rw [OpenClaim.pre_eq_preRow]; exact lifted_CoordScopes os started H enc F)
theorem plain_CoordScopes (f : FuncId) (fn : Func) (hf : Tryd.pinned.checked.prog.funcNamed "pomace/pomacelaw06.CoordScopes" = some f) (hfn : Tryd.pinned.checked.prog.funcs[f]? = some fn) :
    false = Tryd.pinned.checked.prog.looks [] ∧ ∀ (j : Nat) t, fn.params[j]? = some t → Tryd.pinned.checked.prog.wantsStandIn t = false := by
  obtain rfl : f = 7 := Option.some.inj ((show Tryd.prog.funcNamed "pomace/pomacelaw06.CoordScopes" = some 7 by kernel_rfl).symm.trans hf) |>.symm
  obtain rfl : fn = Tryd.f7 := (Option.some.inj (Tryd.func7.symm.trans hfn)).symm
  refine ⟨by kernel_rfl, fun j t ht => ?_⟩
  rw [Tryd.params7] at ht
  have h := Array.mem_of_getElem? ht
  simp only [List.mem_toArray, List.mem_cons, List.not_mem_nil, or_false] at h
  rcases h with rfl | rfl
  all_goals first
    | exact (show Tryd.prog.wantsStandIn 3 = false by kernel_rfl)
    | exact (show Tryd.prog.wantsStandIn 9 = false by kernel_rfl)

/-- the statement of CoordScopes: its card -/
theorem proved_CoordScopes : Rows.CoordScopesCardSaid :=
  Claim7.holds_tied_plain_at .later [] _ _ _ _ said_CoordScopes (fun _ h => by cases h) (by kernel_rfl) (fun _ h => by cases h) coordScopes_row_tie rfl ⟨rfl, rfl⟩ (by kernel_rfl) rfl plain_CoordScopes (by kernel_rfl)
end Go.Proofs.YtinhedegbaegnaaDoor
