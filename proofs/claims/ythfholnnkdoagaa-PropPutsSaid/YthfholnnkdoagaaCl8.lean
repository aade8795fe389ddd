/-
  Layer 8: the law's cut. Own work.
-/
import Derived.Test.YthfholnnkdoagaaRfr8
import Derived.Test.YthfholnnkdoagaaGet8
namespace Go.Proofs.Ythfholnnkdoagaa
set_option linter.unusedVariables false
set_option linter.unusedSimpArgs false
open Go.RowKit

set_option maxHeartbeats 1000000 in
theorem cutL8_any (s : ByteArray) (hs : s.size ≤ 9223372036854775807) (w : World) :
    Calls Try.prog 11 #[.string s] w fun e w' => ∃ l : List UInt8, e = .returned (.string (str l)) ∧ l.length ≤ 1000 ∧ w' = w := by
  by_cases h : 1000 < s.size
  · have h1 : (1000 : Int) < s.size := by omega
    have H2 := Lib.hid (show ∃ l : List UInt8, s.extract 0 1000 = str l ∧ l.length ≤ 1000 from ⟨s.data.toList.take 1000, by rw [ext_str, List.drop_zero], by rw [List.length_take]; omega⟩)
    go_enter Try.func11, Try.ntmps11
    go_wp2
    go_ret
    obtain ⟨l, h3, h4⟩ := H2.out
    exact ⟨l, by rw [h3]; rfl, h4, rfl⟩
  · have h1 : (s.size : Int) ≤ 1000 := by omega
    have H2 := Lib.hid (show ∃ l : List UInt8, s = str l ∧ l.length ≤ 1000 from ⟨s.data.toList, by unfold str; rw [Array.toArray_toList], by simp; omega⟩)
    go_enter Try.func11, Try.ntmps11
    go_wp2
    go_ret
    obtain ⟨l, h3, h4⟩ := H2.out
    exact ⟨l, by rw [h3]; rfl, h4, rfl⟩
end Go.Proofs.Ythfholnnkdoagaa
