/-
  Layer 8: the Table's lookup and counter. Own work.
-/
import Derived.Test.YthfholnnkdoagaaAtm8
namespace Go.Proofs.Ythfholnnkdoagaa
set_option linter.unusedVariables false
set_option linter.unusedSimpArgs false
open Go.RowKit

theorem lookup8_any (T N n : Nat) (f : ByteArray → Option Nat) (t : ByteArray) (w : World) (h : w.cell? ⟨T, 1, none⟩ = some (.map (some N))) (hp : Places w N n f) (ht : t.size ≤ maxLen) :
    Calls Try.prog 50 #[.pointer (some ⟨T, 0, none⟩), .string t] w fun e w' => e = .returned (.tuple #[.int .i64 (((f t).getD 0 : Nat) : Int), .bool (f t).isSome]) ∧ w' = w := by
  have hl := hp.look ht
  generalize (((f t).getD 0 : Nat) : Int) = x at hl ⊢
  generalize (f t).isSome = b at hl ⊢
  clear hp
  go_enter Try.func50, Try.ntmps50
  go_wp2
  go_ret2
  exact ⟨rfl, rfl⟩
theorem lookup8_nil (t : ByteArray) (w : World) :
    Calls Try.prog 50 #[.pointer none, .string t] w fun e w' => e = .returned (.tuple #[.int .i64 0, .bool false]) ∧ w' = w := by
  go_enter Try.func50, Try.ntmps50
  go_wp2
  go_ret2
  exact ⟨rfl, rfl⟩
theorem known8_any (T k : Nat) (w : World) (h : w.cell? ⟨T, 4, none⟩ = some (.int .i64 (k : Int))) (hk : k ≤ 1000000) :
    Calls Try.prog 25 #[.pointer (some ⟨T, 0, none⟩)] w fun e w' => e = .returned (.int .i64 (k : Int)) ∧ w' = w := by
  have HL := Lib.hid (load8 T 4 (k : Int) w h)
  have hw : IntKind.i64.wrap (k : Int) = (k : Int) := by rw [IntWalk.i64_in _ (by omega)]
  go_enter Try.func25, Try.ntmps25
  go_wp2_with (go_at_call 38; refine HL.out.mono ?_; rintro e w' ⟨rfl, rfl⟩)
  go_ret
  exact ⟨rfl, rfl⟩
end Go.Proofs.Ythfholnnkdoagaa
