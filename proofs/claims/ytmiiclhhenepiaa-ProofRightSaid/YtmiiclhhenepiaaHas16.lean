/-
  Layer 16: the answer's has. Own work.
-/
import Derived.Test.YtmiiclhhenepiaaLiM16
namespace Go.Proofs.Ytmiiclhhenepiaa
set_option linter.unusedVariables false
set_option linter.unusedSimpArgs false
open Go.RowKit

set_option maxHeartbeats 2000000 in
theorem has16_any (vl : Value) (l : List Int) (n : Int) (w : World) (hl : Reads w iV vl l) :
    Calls Try.prog 23 #[vl, .int .i64 n] w fun e w' => e = .returned (.bool (decide (n ∈ l))) ∧ w' = w := by
  obtain ⟨la, lc, rfl, hlen, hcell⟩ := reads_shape hl
  have hlI : (l.length : Int) ≤ 9223372036854775807 := by omega
  have HL := Lib.hid hcell
  clear hl hlen hcell
  go_enter Try.func23, Try.ntmps23
  go_wp2_with fail
  go_loop [9] (fun i => ∃ k : Nat, k ≤ l.length ∧ i = .int .i64 k ∧ n ∉ l.take k) (fun i => l.length - (intOf i).toNat)
  case atStart => exact ⟨0, by omega, rfl, by simp⟩
  case round =>
    obtain ⟨k, hk, rfl, hno⟩ := hrel
    have HNO := Lib.hid hno
    clear hno
    by_cases hlt : k < l.length
    · obtain ⟨x, hx⟩ : ∃ x, l[k]? = some x := ⟨_, List.getElem?_eq_getElem hlt⟩
      obtain ⟨b, rfl, hc⟩ := HL.out k x hx
      have HX := Lib.hid hx
      have hc2 : w.cell? (b.add k) = some (.int .i64 x) := hc
      have hkI : (k : Int) < (l.length : Int) := by omega
      clear hc hx
      by_cases he : x = n
      · have HV := Lib.hid (show decide (n ∈ l) = true from decide_eq_true (by rw [← he]; exact List.mem_of_getElem? HX.out))
        have heq : (x == n) = true := by simpa using he
        clear he
        go_wp2
        go_ret
        exact ⟨ret_bool HV.out.symm, rfl⟩
      · have hne : (x == n) = false := by simpa using he
        have HN := Lib.hid (show n ∉ l.take (k + 1) from fun h => by
          rw [take_snoc _ k x HX.out] at h
          rcases List.mem_append.1 h with h | h
          · exact HNO.out h
          · exact he (List.mem_singleton.1 h).symm)
        clear he
        go_wp2
        go_round
        case rel => exact ⟨k + 1, by omega, by go_num, HN.out⟩
        case measure => simp [intOf]; omega
    · have hle : (l.length : Int) ≤ k := by omega
      have HV := Lib.hid (show decide (n ∈ l) = false from decide_eq_false (by have := HNO.out; rw [List.take_of_length_le (by omega)] at this; exact this))
      go_wp2
      go_ret
      exact ⟨ret_bool HV.out.symm, rfl⟩
/-- a row's beginning -/
theorem reads_take {w : World} {a : Option Addr} {n c k : Nat} {l : List Int} (h : Reads w iV (.slice a n c) l) (hk : k ≤ l.length) (ha : a.isSome = true) : Reads w iV (.slice a k c) (l.take k) := by
  rcases h with ⟨h, _⟩ | ⟨b, cap, h, h1, h2, h3⟩
  · cases h; cases ha
  · cases h
    refine .inr ⟨b, c, by rw [List.length_take]; congr 1; omega, by rw [List.length_take]; omega, h2, fun j m hj => ?_⟩
    rw [List.getElem?_take] at hj
    split at hj
    · exact h3 j m hj
    · cases hj
end Go.Proofs.Ytmiiclhhenepiaa
