/-
  Layer 6: the contracts of coord.Compare and of its answer. Own work.
-/
import Derived.Test.YtoibanffaebllaaVerMath
import Derived.Test.YtoibanffaebllaaPrint6
import Derived.Deep.QuietTactic
import Derived.BigQuiet
import Derived.WalkLawsBesides
namespace Go.Proofs.Ytoibanffaebllaa
set_option linter.unusedVariables false
set_option linter.unusedSimpArgs false
open Go.RowKit

theorem quiet_add_same {P : Program} {f : FuncId} {args : Array Value} {w : World} {a n : Nat} {v : Value}
    (h : Calls P f args (w.drewN (a + n)) fun e w' => e = .returned v ∧ w' = w.drewN (a + n)) :
    Calls P f args (w.drewN (a + n)) fun e w'' => e = .returned v ∧ ∃ m, w'' = w.drewN (a + m) :=
  h.mono fun _ _ ⟨he, hm⟩ => ⟨he, n, hm⟩
theorem below_drewN {B : Nat} {a w : World} (h : Below B a w) (n : Nat) : Below B a (w.drewN n) := ⟨h.os, h.tape, h.output, h.size, h.block⟩
structure K4 where
  g : ByteArray
  a : ByteArray
  t : ByteArray
  c : ByteArray
def K4.val (k : K4) : Value := keyV k.g k.a k.t k.c
def cmpT (x y : ByteArray) : Int := Lib.compareBytes x.data.toList y.data.toList
theorem cmpT_ord : Ord3 cmpT := cmpBytes_ord.pull fun x : ByteArray => x.data.toList
theorem cmpT_zero {x y : ByteArray} (h : cmpT x y = 0) : x = y := ByteArray.ext (Array.toList_inj.1 (cmpBytes_zero _ _ h))
def kcmp (x y : K4) : Int := thenC (fun x y => cmpT x.g y.g) (thenC (fun x y => cmpT x.a y.a) (thenC (fun x y => cmpT x.t y.t) fun x y => cmpT x.c y.c)) x y
theorem kcmp_ord : Ord3 kcmp := (cmpT_ord.pull K4.g).next ((cmpT_ord.pull K4.a).next ((cmpT_ord.pull K4.t).next (cmpT_ord.pull K4.c)))
theorem kcmp_zero {x y : K4} (h : kcmp x y = 0) : x = y := by
  unfold kcmp thenC at h
  obtain ⟨x0, x1, x2, x3⟩ := x
  obtain ⟨y0, y1, y2, y3⟩ := y
  simp only at h
  by_cases h0 : cmpT x0 y0 ≠ 0
  · rw [if_pos h0] at h; exact absurd h h0
  rw [if_neg h0] at h
  by_cases h1 : cmpT x1 y1 ≠ 0
  · rw [if_pos h1] at h; exact absurd h h1
  rw [if_neg h1] at h
  by_cases h2 : cmpT x2 y2 ≠ 0
  · rw [if_pos h2] at h; exact absurd h h2
  rw [if_neg h2] at h
  rw [cmpT_zero (by omega : cmpT x0 y0 = 0), cmpT_zero (by omega : cmpT x1 y1 = 0), cmpT_zero (by omega : cmpT x2 y2 = 0), cmpT_zero h]

set_option maxHeartbeats 4000000 in
theorem Compare6_any (x y : K4) (w : World) :
    Calls Try.prog 31 #[x.val, y.val] w fun e w' => e = .returned (.int .i64 (kcmp x y)) ∧ Below w.heap.size w w' := by
  have HK := Lib.hid (show kcmp x y = thenC (fun x y => cmpT x.g y.g) (thenC (fun x y => cmpT x.a y.a) (thenC (fun x y => cmpT x.t y.t) fun x y => cmpT x.c y.c)) x y from rfl)
  obtain ⟨x0, x1, x2, x3⟩ := x
  obtain ⟨y0, y1, y2, y3⟩ := y
  have s0 := fun w => Try.strings_Compare x0 y0 w
  have s1 := fun w => Try.strings_Compare x1 y1 w
  have s2 := fun w => Try.strings_Compare x2 y2 w
  have s3 := fun w => Try.strings_Compare x3 y3 w
  have e0 : Lib.compareBytes x0.data.toList y0.data.toList = cmpT x0 y0 := rfl
  have e1 : Lib.compareBytes x1.data.toList y1.data.toList = cmpT x1 y1 := rfl
  have e2 : Lib.compareBytes x2.data.toList y2.data.toList = cmpT x2 y2 := rfl
  have e3 : Lib.compareBytes x3.data.toList y3.data.toList = cmpT x3 y3 := rfl
  rw [e0] at s0
  rw [e1] at s1
  rw [e2] at s2
  rw [e3] at s3
  clear e0 e1 e2 e3
  unfold thenC at HK
  simp only at HK
  generalize cmpT x0 y0 = c0 at *
  generalize cmpT x1 y1 = c1 at *
  generalize cmpT x2 y2 = c2 at *
  generalize cmpT x3 y3 = c3 at *
  unfold K4.val keyV
--BEGIN
  by_cases h0 : c0 ≠ 0
  · have HR := Lib.hid (HK.out.trans (by rw [if_pos h0]))
    have hb : (c0 != 0) = true := by simpa using h0
    have S0 := Lib.hid s0
    clear h0 s0 s1 s2 s3
    go_enter Try.func31, Try.ntmps31
    go_wp2
    refine wp_loop_rounds 5 ?_
    rw [rounds_succ]
    go_wp2
    go_quiet ((first | (go_at_call 48; with_reducible exact Calls.quiet_of_same (S0.out _)) | (go_at_call 48; with_reducible exact quiet_add_same (S0.out _))))
    go_wp2
    go_ret
    exact ⟨ret_int HR.out.symm, below_drewN ((((Below.refl _ _).alloc (Nat.le_refl _) _).alloc (by simp) _).alloc (by simp; omega) _) _⟩
  have z0 : c0 = 0 := by omega
  subst z0
  clear h0
  by_cases h1 : c1 ≠ 0
  · have HR := Lib.hid (HK.out.trans (by rw [if_neg (by omega), if_pos h1]))
    have hb : (c1 != 0) = true := by simpa using h1
    have S0 := Lib.hid s0
    have S1 := Lib.hid s1
    clear h1 s0 s1 s2 s3
    go_enter Try.func31, Try.ntmps31
    go_wp2
    refine wp_loop_rounds 5 ?_
    rw [rounds_succ]
    go_wp2
    go_quiet ((first | (go_at_call 48; with_reducible exact Calls.quiet_of_same (S0.out _)) | (go_at_call 48; with_reducible exact quiet_add_same (S0.out _))))
    go_wp2
    rw [rounds_succ]
    go_wp2
    go_quiet ((first | (go_at_call 48; with_reducible exact Calls.quiet_of_same (S1.out _)) | (go_at_call 48; with_reducible exact quiet_add_same (S1.out _))))
    go_wp2
    go_ret
    exact ⟨ret_int HR.out.symm, below_drewN ((((Below.refl _ _).alloc (Nat.le_refl _) _).alloc (by simp) _).alloc (by simp; omega) _) _⟩
  have z1 : c1 = 0 := by omega
  subst z1
  clear h1
  by_cases h2 : c2 ≠ 0
  · have HR := Lib.hid (HK.out.trans (by rw [if_neg (by omega), if_neg (by omega), if_pos h2]))
    have hb : (c2 != 0) = true := by simpa using h2
    have S0 := Lib.hid s0
    have S1 := Lib.hid s1
    have S2 := Lib.hid s2
    clear h2 s0 s1 s2 s3
    go_enter Try.func31, Try.ntmps31
    go_wp2
    refine wp_loop_rounds 5 ?_
    rw [rounds_succ]
    go_wp2
    go_quiet ((first | (go_at_call 48; with_reducible exact Calls.quiet_of_same (S0.out _)) | (go_at_call 48; with_reducible exact quiet_add_same (S0.out _))))
    go_wp2
    rw [rounds_succ]
    go_wp2
    go_quiet ((first | (go_at_call 48; with_reducible exact Calls.quiet_of_same (S1.out _)) | (go_at_call 48; with_reducible exact quiet_add_same (S1.out _))))
    go_wp2
    rw [rounds_succ]
    go_wp2
    go_quiet ((first | (go_at_call 48; with_reducible exact Calls.quiet_of_same (S2.out _)) | (go_at_call 48; with_reducible exact quiet_add_same (S2.out _))))
    go_wp2
    go_ret
    exact ⟨ret_int HR.out.symm, below_drewN ((((Below.refl _ _).alloc (Nat.le_refl _) _).alloc (by simp) _).alloc (by simp; omega) _) _⟩
  have z2 : c2 = 0 := by omega
  subst z2
  clear h2
  by_cases h3 : c3 ≠ 0
  · have HR := Lib.hid (HK.out.trans (by rw [if_neg (by omega), if_neg (by omega), if_neg (by omega)]))
    have hb : (c3 != 0) = true := by simpa using h3
    have S0 := Lib.hid s0
    have S1 := Lib.hid s1
    have S2 := Lib.hid s2
    have S3 := Lib.hid s3
    clear h3 s0 s1 s2 s3
    go_enter Try.func31, Try.ntmps31
    go_wp2
    refine wp_loop_rounds 5 ?_
    rw [rounds_succ]
    go_wp2
    go_quiet ((first | (go_at_call 48; with_reducible exact Calls.quiet_of_same (S0.out _)) | (go_at_call 48; with_reducible exact quiet_add_same (S0.out _))))
    go_wp2
    rw [rounds_succ]
    go_wp2
    go_quiet ((first | (go_at_call 48; with_reducible exact Calls.quiet_of_same (S1.out _)) | (go_at_call 48; with_reducible exact quiet_add_same (S1.out _))))
    go_wp2
    rw [rounds_succ]
    go_wp2
    go_quiet ((first | (go_at_call 48; with_reducible exact Calls.quiet_of_same (S2.out _)) | (go_at_call 48; with_reducible exact quiet_add_same (S2.out _))))
    go_wp2
    rw [rounds_succ]
    go_wp2
    go_quiet ((first | (go_at_call 48; with_reducible exact Calls.quiet_of_same (S3.out _)) | (go_at_call 48; with_reducible exact quiet_add_same (S3.out _))))
    go_wp2
    go_ret
    exact ⟨ret_int HR.out.symm, below_drewN ((((Below.refl _ _).alloc (Nat.le_refl _) _).alloc (by simp) _).alloc (by simp; omega) _) _⟩
  have z3 : c3 = 0 := by omega
  subst z3
  clear h3
  have HR := Lib.hid (HK.out.trans (by rw [if_neg (by omega), if_neg (by omega), if_neg (by omega)]))
  have S0 := Lib.hid s0
  have S1 := Lib.hid s1
  have S2 := Lib.hid s2
  have S3 := Lib.hid s3
  clear s0 s1 s2 s3
  go_enter Try.func31, Try.ntmps31
  go_wp2
  refine wp_loop_rounds 5 ?_
  rw [rounds_succ]
  go_wp2
  go_quiet ((first | (go_at_call 48; with_reducible exact Calls.quiet_of_same (S0.out _)) | (go_at_call 48; with_reducible exact quiet_add_same (S0.out _))))
  go_wp2
  rw [rounds_succ]
  go_wp2
  go_quiet ((first | (go_at_call 48; with_reducible exact Calls.quiet_of_same (S1.out _)) | (go_at_call 48; with_reducible exact quiet_add_same (S1.out _))))
  go_wp2
  rw [rounds_succ]
  go_wp2
  go_quiet ((first | (go_at_call 48; with_reducible exact Calls.quiet_of_same (S2.out _)) | (go_at_call 48; with_reducible exact quiet_add_same (S2.out _))))
  go_wp2
  rw [rounds_succ]
  go_wp2
  go_quiet ((first | (go_at_call 48; with_reducible exact Calls.quiet_of_same (S3.out _)) | (go_at_call 48; with_reducible exact quiet_add_same (S3.out _))))
  go_wp2
  rw [rounds_succ]
  go_wp2
  go_ret
  exact ⟨ret_int HR.out.symm, below_drewN ((((Below.refl _ _).alloc (Nat.le_refl _) _).alloc (by simp) _).alloc (by simp; omega) _) _⟩

end Go.Proofs.Ytoibanffaebllaa
