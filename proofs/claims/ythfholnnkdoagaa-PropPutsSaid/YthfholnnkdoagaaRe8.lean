/-
  Layer 8: the contract of the answer's Ref. Own work.
-/
import Derived.Test.YthfholnnkdoagaaCu8
namespace Go.Proofs.Ythfholnnkdoagaa
set_option linter.unusedVariables false
set_option linter.unusedSimpArgs false
open Go.RowKit

theorem hidx8 (s : ByteArray) (k : Nat) (c : UInt8) (h : s.data.toList[k]? = some c) (w : World) :
    (Instr.index 9 (.string s) (.int .i64 (k : Int))).run Try.prog w = .ok (.int .u8 (c.toNat : Int)) w := by
  have hk : k < s.size := by have := (List.getElem?_eq_some_iff.1 h).1; simpa using this
  rw [run_index_string w 9 s _ _ Try.underlying9, dif_pos ⟨by omega, by omega⟩]
  have : s[(k : Int).toNat]'(by simpa using hk) = c := by
    have h2 : s.data[k] = c := by have := (List.getElem?_eq_some_iff.1 h).2; simpa using this
    exact h2
  rw [this]
def RefP8 (s : List UInt8) (w : World) (e : Ending) (w' : World) : Prop :=
  (∃ n, w' = w.drewN n) ∧ match refM8 s with
  | some (a, n, _) => e = .returned (.tuple #[.int .i64 (a.length : Int), .string (str n), .bool true])
  | none => e = .returned (.tuple #[.int .i64 0, .string ⟨#[]⟩, .bool false])
theorem byte_ne {c d : UInt8} (h : c ≠ d) : ((c.toNat : Int) != (d.toNat : Int)) = true := by
  rw [bne_iff_ne]
  intro e
  exact h (UInt8.toNat.inj (Int.ofNat.inj e))
set_option maxHeartbeats 2000000 in
theorem ref8_any (s : List UInt8) (hs : s.length ≤ 1000000) (w : World) : Calls Try.prog 30 #[.string (str s)] w (RefP8 s w) := by
  have hsz : (str s).size = s.length := size_str s
  have hll : (s.length : Int) ≤ 1000000 := by omega
  have ext8 : ∀ a b : Nat, (str s).extract a b = str ((s.drop a).take (b - a)) := fun a b => by rw [ext_str, show (str s).data.toList = s by simp [str], List.drop_take]
  go_enter Try.func30, Try.ntmps30
  go_wp2_with fail
  go_loop [5] (fun i => ∃ k : Nat, k ≤ s.length ∧ i = .int .i64 k ∧ Ahead s k) (fun i => s.length - (intOf i).toNat)
  case atStart => exact ⟨0, Nat.zero_le _, rfl, Ahead.zero s⟩
  case round =>
    obtain ⟨k, hk, rfl, hv⟩ := hrel
    have HV := Lib.hid hv
    clear hv
    by_cases hlt : k + 1 < s.length
    · have hltI : (k : Int) + 1 < (s.length : Int) := by omega
      obtain ⟨c, hc⟩ : ∃ c, s[k]? = some c := ⟨_, List.getElem?_eq_getElem (by omega)⟩
      obtain ⟨d, hd⟩ : ∃ d, s[k + 1]? = some d := ⟨_, List.getElem?_eq_getElem hlt⟩
      have hik := hidx8 (str s) k c (by simpa [str] using hc)
      have hid2 := hidx8 (str s) (k + 1) d (by simpa [str] using hd)
      rw [show ((k + 1 : Nat) : Int) = (k : Int) + 1 from rfl] at hid2
      have HC := Lib.hid hc
      have HD := Lib.hid hd
      have HLT := Lib.hid hlt
      clear hc hd
      by_cases hb : c = 36 ∧ d = 123
      · obtain ⟨rfl, rfl⟩ := hb
        have h36 : (((36 : UInt8).toNat : Int) != 36) = false := by decide
        have h123 : (((123 : UInt8).toNat : Int) != 123) = false := by decide
        have HAT := Lib.hid (HV.out.at HC.out HD.out)
        go_wp2_with fail
        go_loop [6] (fun i => ∃ j : Nat, k + 2 ≤ j ∧ j ≤ s.length ∧ i = .int .i64 j ∧ Open8 s (k + 2) j) (fun i => s.length - (intOf i).toNat)
        case atStart => exact ⟨k + 2, Nat.le_refl _, by omega, rfl, Open8.zero s (k + 2)⟩
        case round =>
          obtain ⟨j, hkj, hj, rfl, ho⟩ := hrel
          have HO := Lib.hid ho
          clear ho
          by_cases hjl : j < s.length
          · obtain ⟨x, hx⟩ : ∃ x, s[j]? = some x := ⟨_, List.getElem?_eq_getElem hjl⟩
            have hix := hidx8 (str s) j x (by simpa [str] using hx)
            have HXX := Lib.hid hx
            clear hx
            have hjlI : (j : Int) < (s.length : Int) := by omega
            by_cases hxb : x = 125
            · subst hxb
              have h125 : (((125 : UInt8).toNat : Int) == 125) = true := by decide
              have HH := Lib.hid (HO.out.hit hkj HXX.out)
              have hkjI : (k : Int) + 2 ≤ (j : Int) := by omega
              have hex := ext8 (k + 2) j
              have hjs : (j : Int) ≤ ((str s).size : Int) := by rw [hsz]; omega
              have htk : ((s.take k).length : Int) = (k : Int) := by rw [List.length_take]; omega
              have HTK := Lib.hid htk
              clear htk
              have hsl : ∀ w, (Instr.slice 9 (.string (str s)) (some (.int .i64 ((k : Int) + 2))) (some (.int .i64 (j : Int))) none).run Try.prog w = .ok (.string (str ((s.drop (k + 2)).take (j - (k + 2))))) w := fun w => by
                rw [run_slice_string w 9 (str s) _ _ _ _ Try.underlying9 (by omega) hkjI hjs]
                rw [show ((k : Int) + 2).toNat = k + 2 by omega, show (j : Int).toNat = j by omega, hex]
              have hw2 : IntKind.i64.wrap ((k : Int) + 2) = (k : Int) + 2 := by rw [IntWalk.i64_in _ (by omega)]
              clear hex
              go_upto_region 9 with fail
              go_region_law (fail)
              all_goals
                go_wp2_with fail
                go_ret3
                refine ⟨⟨1, rfl⟩, ?_⟩
                rw [HAT.out, HH.out]
                simp only [Option.map_some]
                rw [HTK.out]
                rfl
            · have h125 : ((x.toNat : Int) == 125) = false := by
                have := byte_ne hxb
                simpa [bne] using this
              have HN := Lib.hid (HO.out.next hkj HXX.out hxb)
              go_wp2_with fail
              go_round
              case rel => exact ⟨j + 1, by omega, by omega, by go_num, HN.out⟩
              case measure => simp [intOf]; omega
          · have hjlI : (s.length : Int) ≤ (j : Int) := by omega
            have HN := Lib.hid (HO.out.done (by omega))
            go_wp2_with fail
            go_ret3
            refine ⟨⟨0, rfl⟩, ?_⟩
            rw [HAT.out, HN.out]
            rfl
      · have HN := Lib.hid (HV.out.next HC.out (by rw [HD.out]; simpa using hb))
        by_cases hc36 : c = 36
        · subst hc36
          have hd123 : d ≠ 123 := fun h => hb ⟨rfl, h⟩
          have h36 : (((36 : UInt8).toNat : Int) != 36) = false := by decide
          have h123 : ((d.toNat : Int) != 123) = true := byte_ne hd123
          clear hb
          go_wp2_with fail
          go_round
          case rel => exact ⟨k + 1, by omega, by go_num, HN.out⟩
          case measure => simp [intOf]; omega
        · have h36 : ((c.toNat : Int) != 36) = true := byte_ne hc36
          clear hb
          go_wp2_with fail
          go_round
          case rel => exact ⟨k + 1, by omega, by go_num, HN.out⟩
          case measure => simp [intOf]; omega
    · have hltI : (s.length : Int) ≤ (k : Int) + 1 := by omega
      have HN := Lib.hid (HV.out.done (by omega))
      go_wp2_with fail
      go_ret3
      refine ⟨⟨0, rfl⟩, ?_⟩
      rw [HN.out]
      try rfl
end Go.Proofs.Ythfholnnkdoagaa
