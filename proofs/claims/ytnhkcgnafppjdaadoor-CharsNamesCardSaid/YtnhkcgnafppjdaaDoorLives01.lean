/-
  Layer 1: the document's examples hold. Own work.
-/
import Derived.Test.YtnhkcgnafppjdaaDoorRef
import Derived.Test.YtnhkcgnafppjdaaDoorEsc
import Derived.Test.YtnhkcgnafppjdaaDoorAt
namespace Go.Proofs.YtnhkcgnafppjdaaDoor
set_option linter.unusedVariables false
set_option linter.unusedSimpArgs false
open Go.RowKit

set_option maxHeartbeats 1000000 in
theorem lives01 (w : World) : Calls Tryd.prog 9 #[] w fun e w' => e = .returned (.bool true) ∧ Below w.heap.size w w' := by
  have r1 := fun w => Ref_any ⟨#[38, 35, 120, 52, 49, 59, 98]⟩ (by decide) w
  rw [show refS (⟨#[38, 35, 120, 52, 49, 59, 98]⟩ : ByteArray).data.toList = (⟨#[65]⟩, 6, 0) from by kernel_rfl] at r1
  have r2 := fun w => Ref_any ⟨#[38, 108, 116]⟩ (by decide) w
  rw [show refS (⟨#[38, 108, 116]⟩ : ByteArray).data.toList = (⟨#[]⟩, 0, 1) from by kernel_rfl] at r2
  have r3 := fun w => Ref_any ⟨#[38, 108, 84, 59]⟩ (by decide) w
  rw [show refS (⟨#[38, 108, 84, 59]⟩ : ByteArray).data.toList = (⟨#[]⟩, 0, 2) from by kernel_rfl] at r3
  have r4 := fun w => Escape_any false ⟨#[97, 60, 98]⟩ (by decide) w
  rw [show str (escS false (⟨#[97, 60, 98]⟩ : ByteArray).data.toList) = ⟨#[97, 38, 108, 116, 59, 98]⟩ from by kernel_rfl] at r4
  have r5 := fun w => At_any ⟨#[97, 10, 98, 99]⟩ (by decide) 3 3 (by decide) w
  rw [show placeV (⟨#[97, 10, 98, 99]⟩ : ByteArray).data.toList 3 = .agg #[.int .i64 3, .int .i64 2, .int .i64 2] from by kernel_rfl] at r5
  have R1 := Lib.hid r1; clear r1
  have R2 := Lib.hid r2; clear r2
  have R3 := Lib.hid r3; clear r3
  have R4 := Lib.hid r4; clear r4
  have R5 := Lib.hid r5; clear r5
  go_enter Tryd.func9, Tryd.ntmps9
  go_wp2_with fail
  refine (R1.out _).mono ?_
  unfold refV
  rintro e w' ⟨rfl, rfl⟩
  go_wp2_with fail
  refine (R2.out _).mono ?_
  unfold refV
  rintro e w' ⟨rfl, rfl⟩
  go_wp2_with fail
  refine (R3.out _).mono ?_
  unfold refV
  rintro e w' ⟨rfl, rfl⟩
  go_wp2_with fail
  refine (R4.out _).mono ?_
  rintro e w1 ⟨rfl, hb1⟩
  go_wp2_with fail
  refine (R5.out _).mono ?_
  rintro e w2 ⟨rfl, hb2⟩
  go_wp2
  go_ret
  go_goals
  exact ⟨rfl, hb1.trans (hb2.mono hb1.size)⟩
end Go.Proofs.YtnhkcgnafppjdaaDoor
