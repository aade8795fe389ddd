/-
  Layer 6: the contract of the answer's Compare. Own work.
-/
import Derived.Test.YtoibanffaebllaaCmp6
namespace Go.Proofs.Ytoibanffaebllaa
set_option linter.unusedVariables false
set_option linter.unusedSimpArgs false
open Go.RowKit

theorem less_cmp : ∀ a b : List UInt8, (Lib.compareBytes a b = -1 ∧ Op.bytesLess a b = true) ∨ (Lib.compareBytes a b = 0 ∧ Op.bytesLess a b = false ∧ (a == b) = true) ∨ (Lib.compareBytes a b = 1 ∧ Op.bytesLess a b = false ∧ (a == b) = false)
  | [], [] => .inr (.inl ⟨rfl, rfl, rfl⟩)
  | [], _ :: _ => .inl ⟨rfl, rfl⟩
  | _ :: _, [] => .inr (.inr ⟨rfl, rfl, rfl⟩)
  | a :: xs, b :: bs => by
    have ih := less_cmp xs bs
    unfold Lib.compareBytes Op.bytesLess
    by_cases h1 : a < b
    · exact .inl ⟨by rw [if_pos h1], by simp [h1]⟩
    by_cases h2 : b < a
    · have hne : (a == b) = false := by
        rw [beq_eq_false_iff_ne]
        rintro rfl
        exact h1 h2
      exact .inr (.inr ⟨by rw [if_neg h1, if_pos h2], by simp [h1, hne], by simp [List.cons_beq_cons, hne]⟩)
    · have he : a = b := by
        rw [UInt8.lt_iff_toNat_lt] at h1 h2
        exact UInt8.toNat_inj.1 (by omega)
      subst he
      rw [if_neg h1, if_neg h1]
      have e1 : decide (a < a) = false := decide_eq_false h1
      rcases ih with ⟨c1, c2⟩ | ⟨c1, c2, c3⟩ | ⟨c1, c2, c3⟩
      · exact .inl ⟨c1, by simp [c2]⟩
      · exact .inr (.inl ⟨c1, by simp [e1, c2], by simp only [List.cons_beq_cons, c3]; simp⟩)
      · exact .inr (.inr ⟨c1, by simp [e1, c2], by simp only [List.cons_beq_cons, c3]; simp⟩)
theorem trich (x y : ByteArray) : (cmpT x y = -1 ∧ Op.bytesLess x.toList y.toList = true) ∨ (cmpT x y = 0 ∧ Op.bytesLess x.toList y.toList = false ∧ (x.toList == y.toList) = true) ∨ (cmpT x y = 1 ∧ Op.bytesLess x.toList y.toList = false ∧ (x.toList == y.toList) = false) := by
  unfold cmpT
  rw [ByteArray.toList_eq, ByteArray.toList_eq]
  exact less_cmp _ _

set_option maxHeartbeats 8000000 in
theorem refCompare6_any (x y : K4) (w : World) :
    Calls Try.prog 38 #[x.val, y.val] w fun e w' => e = .returned (.int .i64 (kcmp x y)) ∧ Below w.heap.size w w' := by
  have HK := Lib.hid (show kcmp x y = thenC (fun x y => cmpT x.g y.g) (thenC (fun x y => cmpT x.a y.a) (thenC (fun x y => cmpT x.t y.t) fun x y => cmpT x.c y.c)) x y from rfl)
  obtain ⟨x0, x1, x2, x3⟩ := x
  obtain ⟨y0, y1, y2, y3⟩ := y
  have t0 := trich x0 y0
  have t1 := trich x1 y1
  have t2 := trich x2 y2
  have t3 := trich x3 y3
  unfold thenC at HK
  simp only at HK
  generalize cmpT x0 y0 = c0 at *
  generalize cmpT x1 y1 = c1 at *
  generalize cmpT x2 y2 = c2 at *
  generalize cmpT x3 y3 = c3 at *
  unfold K4.val keyV
  rcases t0 with ⟨rfl, l0⟩ | ⟨rfl, l0, q0⟩ | ⟨rfl, l0, q0⟩
  case inl =>
    have HR := Lib.hid (HK.out.trans (by rw [if_pos (by omega)]))
    clear t1 t2 t3
    go_enter Try.func38, Try.ntmps38
    go_wp2
    refine wp_loop_rounds 5 ?_
    rw [rounds_succ]
    go_wp2
    go_quiet (fail)
    go_wp2
    go_ret
    exact ⟨ret_int HR.out.symm, by (repeat (refine below_drewN ?_ _)); exact (((((Below.refl _ _).alloc (Nat.le_refl _) _).alloc (by simp) _).alloc (by simp; omega) _).alloc (by simp; omega) _)⟩
  case inr.inr =>
    have HR := Lib.hid (HK.out.trans (by rw [if_pos (by omega)]))
    clear t1 t2 t3
    go_enter Try.func38, Try.ntmps38
    go_wp2
    refine wp_loop_rounds 5 ?_
    rw [rounds_succ]
    go_wp2
    go_quiet (fail)
    go_wp2
    go_quiet (fail)
    go_wp2
    go_ret
    exact ⟨ret_int HR.out.symm, by (repeat (refine below_drewN ?_ _)); exact (((((Below.refl _ _).alloc (Nat.le_refl _) _).alloc (by simp) _).alloc (by simp; omega) _).alloc (by simp; omega) _)⟩
  rcases t1 with ⟨rfl, l1⟩ | ⟨rfl, l1, q1⟩ | ⟨rfl, l1, q1⟩
  case inl =>
    have HR := Lib.hid (HK.out.trans (by rw [if_neg (by omega), if_pos (by omega)]))
    clear t2 t3
    go_enter Try.func38, Try.ntmps38
    go_wp2
    refine wp_loop_rounds 5 ?_
    rw [rounds_succ]
    go_wp2
    go_quiet (fail)
    go_wp2
    go_quiet (fail)
    go_wp2
    rw [rounds_succ]
    go_wp2
    go_quiet (fail)
    go_wp2
    go_ret
    exact ⟨ret_int HR.out.symm, by (repeat (refine below_drewN ?_ _)); exact (((((Below.refl _ _).alloc (Nat.le_refl _) _).alloc (by simp) _).alloc (by simp; omega) _).alloc (by simp; omega) _)⟩
  case inr.inr =>
    have HR := Lib.hid (HK.out.trans (by rw [if_neg (by omega), if_pos (by omega)]))
    clear t2 t3
    go_enter Try.func38, Try.ntmps38
    go_wp2
    refine wp_loop_rounds 5 ?_
    rw [rounds_succ]
    go_wp2
    go_quiet (fail)
    go_wp2
    go_quiet (fail)
    go_wp2
    rw [rounds_succ]
    go_wp2
    go_quiet (fail)
    go_wp2
    go_quiet (fail)
    go_wp2
    go_ret
    exact ⟨ret_int HR.out.symm, by (repeat (refine below_drewN ?_ _)); exact (((((Below.refl _ _).alloc (Nat.le_refl _) _).alloc (by simp) _).alloc (by simp; omega) _).alloc (by simp; omega) _)⟩
  rcases t2 with ⟨rfl, l2⟩ | ⟨rfl, l2, q2⟩ | ⟨rfl, l2, q2⟩
  case inl =>
    have HR := Lib.hid (HK.out.trans (by rw [if_neg (by omega), if_neg (by omega), if_pos (by omega)]))
    clear t3
    go_enter Try.func38, Try.ntmps38
    go_wp2
    refine wp_loop_rounds 5 ?_
    rw [rounds_succ]
    go_wp2
    go_quiet (fail)
    go_wp2
    go_quiet (fail)
    go_wp2
    rw [rounds_succ]
    go_wp2
    go_quiet (fail)
    go_wp2
    go_quiet (fail)
    go_wp2
    rw [rounds_succ]
    go_wp2
    go_quiet (fail)
    go_wp2
    go_ret
    exact ⟨ret_int HR.out.symm, by (repeat (refine below_drewN ?_ _)); exact (((((Below.refl _ _).alloc (Nat.le_refl _) _).alloc (by simp) _).alloc (by simp; omega) _).alloc (by simp; omega) _)⟩
  case inr.inr =>
    have HR := Lib.hid (HK.out.trans (by rw [if_neg (by omega), if_neg (by omega), if_pos (by omega)]))
    clear t3
    go_enter Try.func38, Try.ntmps38
    go_wp2
    refine wp_loop_rounds 5 ?_
    rw [rounds_succ]
    go_wp2
    go_quiet (fail)
    go_wp2
    go_quiet (fail)
    go_wp2
    rw [rounds_succ]
    go_wp2
    go_quiet (fail)
    go_wp2
    go_quiet (fail)
    go_wp2
    rw [rounds_succ]
    go_wp2
    go_quiet (fail)
    go_wp2
    go_quiet (fail)
    go_wp2
    go_ret
    exact ⟨ret_int HR.out.symm, by (repeat (refine below_drewN ?_ _)); exact (((((Below.refl _ _).alloc (Nat.le_refl _) _).alloc (by simp) _).alloc (by simp; omega) _).alloc (by simp; omega) _)⟩
  rcases t3 with ⟨rfl, l3⟩ | ⟨rfl, l3, q3⟩ | ⟨rfl, l3, q3⟩
  case inl =>
    have HR := Lib.hid (HK.out.trans (by rw [if_neg (by omega), if_neg (by omega), if_neg (by omega)]))
    go_enter Try.func38, Try.ntmps38
    go_wp2
    refine wp_loop_rounds 5 ?_
    rw [rounds_succ]
    go_wp2
    go_quiet (fail)
    go_wp2
    go_quiet (fail)
    go_wp2
    rw [rounds_succ]
    go_wp2
    go_quiet (fail)
    go_wp2
    go_quiet (fail)
    go_wp2
    rw [rounds_succ]
    go_wp2
    go_quiet (fail)
    go_wp2
    go_quiet (fail)
    go_wp2
    rw [rounds_succ]
    go_wp2
    go_quiet (fail)
    go_wp2
    go_ret
    exact ⟨ret_int HR.out.symm, by (repeat (refine below_drewN ?_ _)); exact (((((Below.refl _ _).alloc (Nat.le_refl _) _).alloc (by simp) _).alloc (by simp; omega) _).alloc (by simp; omega) _)⟩
  case inr.inr =>
    have HR := Lib.hid (HK.out.trans (by rw [if_neg (by omega), if_neg (by omega), if_neg (by omega)]))
    go_enter Try.func38, Try.ntmps38
    go_wp2
    refine wp_loop_rounds 5 ?_
    rw [rounds_succ]
    go_wp2
    go_quiet (fail)
    go_wp2
    go_quiet (fail)
    go_wp2
    rw [rounds_succ]
    go_wp2
    go_quiet (fail)
    go_wp2
    go_quiet (fail)
    go_wp2
    rw [rounds_succ]
    go_wp2
    go_quiet (fail)
    go_wp2
    go_quiet (fail)
    go_wp2
    rw [rounds_succ]
    go_wp2
    go_quiet (fail)
    go_wp2
    go_quiet (fail)
    go_wp2
    go_ret
    exact ⟨ret_int HR.out.symm, by (repeat (refine below_drewN ?_ _)); exact (((((Below.refl _ _).alloc (Nat.le_refl _) _).alloc (by simp) _).alloc (by simp; omega) _).alloc (by simp; omega) _)⟩
  have HR := Lib.hid (HK.out.trans (by rw [if_neg (by omega), if_neg (by omega), if_neg (by omega)]))
  go_enter Try.func38, Try.ntmps38
  go_wp2
  refine wp_loop_rounds 5 ?_
  rw [rounds_succ]
  go_wp2
  go_quiet (fail)
  go_wp2
  go_quiet (fail)
  go_wp2
  rw [rounds_succ]
  go_wp2
  go_quiet (fail)
  go_wp2
  go_quiet (fail)
  go_wp2
  rw [rounds_succ]
  go_wp2
  go_quiet (fail)
  go_wp2
  go_quiet (fail)
  go_wp2
  rw [rounds_succ]
  go_wp2
  go_quiet (fail)
  go_wp2
  go_quiet (fail)
  go_wp2
  rw [rounds_succ]
  go_wp2
  go_ret
  exact ⟨ret_int HR.out.symm, by (repeat (refine below_drewN ?_ _)); exact (((((Below.refl _ _).alloc (Nat.le_refl _) _).alloc (by simp) _).alloc (by simp; omega) _).alloc (by simp; omega) _)⟩
end Go.Proofs.Ytoibanffaebllaa
