/-
  Layer 16: the answer's Holds, over clauses that came in. Own work.
-/
import Derived.Test.YtmiiclhhenepiaaPHo16
namespace Go.Proofs.Ytmiiclhhenepiaa
set_option linter.unusedVariables false
set_option linter.unusedSimpArgs false
open Go.RowKit

set_option maxRecDepth 100000 in
set_option maxHeartbeats 4000000 in
theorem RHolds_any (cv tv : Value) (cs : List (List Int)) (ts : List Bool) (w : World) (hc : Reads2 w cv cs) (ht : Reads w bV tv ts) :
    Calls Try.prog 13 #[cv, tv] w fun e w' => e = .returned (.int .i64 (holdsI cs ts)) ∧ w' = w := by
  have HC := Lib.hid hc
  have HIT := Lib.hid (fun n => True_any n tv ts w ht)
  obtain ⟨a, cp, rfl, hlen, _⟩ := hc
  have hlI : (cs.length : Int) ≤ 9223372036854775807 := by omega
  clear hlen ht
  go_enter Try.func13, Try.ntmps13
  go_wp2_with fail
  go_loop [12] (fun i => ∃ j : Nat, j ≤ cs.length ∧ i = .int .i64 j ∧ ∀ d ∈ cs.take j, anyT ts d = true) (fun i => cs.length - (intOf i).toNat)
  case atStart => exact ⟨0, by omega, rfl, by simp⟩
  case round =>
    obtain ⟨j, hj, rfl, hh⟩ := hrel
    have HH := Lib.hid hh; clear hh
    by_cases hlt : j < cs.length
    · obtain ⟨c, hcj⟩ : ∃ c, cs[j]? = some c := ⟨_, List.getElem?_eq_getElem hlt⟩
      obtain ⟨a0, c0, e0, _, hcell⟩ := HC.out
      cases e0
      obtain ⟨b, r, rfl, hr, hrd⟩ := hcell j c hcj
      obtain ⟨ra, rc, rfl, hrl, hrc⟩ := reads_shape hrd
      have HRC := Lib.hid hrc
      have HCJ := Lib.hid hcj
      have hjI : (j : Int) < (cs.length : Int) := by omega
      have hrlI : (c.length : Int) ≤ 9223372036854775807 := by omega
      clear hcell hrd hrc hcj hrl
      go_wp2_with fail
      go_loop [7, 19] (fun ok i => ∃ q : Nat, q ≤ c.length ∧ i = .int .i64 q ∧ ok = .bool (anyT ts (c.take q))) (fun _ i => c.length - (intOf i).toNat)
      case atStart => exact ⟨0, by omega, rfl, rfl⟩
      case round =>
        obtain ⟨q, hq, rfl, rfl⟩ := hrel
        by_cases hlt2 : q < c.length
        · obtain ⟨n, hn⟩ : ∃ n, c[q]? = some n := ⟨_, List.getElem?_eq_getElem hlt2⟩
          obtain ⟨rb, rfl, hci⟩ := HRC.out q n hn
          have hci2 : w.cell? (rb.add q) = some (.int .i64 n) := hci
          have HS := Lib.hid (anyT_snoc ts c q n hn)
          have HTN := Lib.hid (HIT.out n)
          have hqI : (q : Int) < (c.length : Int) := by omega
          clear hn hci
          generalize anyT ts (c.take q) = ok at HS ⊢
          cases ok
          · generalize trueB n ts = t at HTN HS
            go_wp2_with fail
            refine HTN.out.mono ?_
            rintro e w2 ⟨rfl, rfl⟩
            go_wp2
            exact ⟨⟨q + 1, by omega, by go_num, by rw [HS.out]; rfl⟩, by simp [intOf]; omega⟩
          · go_wp2
            exact ⟨⟨q + 1, by omega, by go_num, by rw [HS.out]; rfl⟩, by simp [intOf]; omega⟩
        · have hql : (c.length : Int) ≤ q := by omega
          have htk : c.take q = c := List.take_of_length_le (by omega)
          rw [htk]
          generalize hok : anyT ts c = ok
          have HOK2 := Lib.hid hok; clear hok
          cases ok
          · have HV := Lib.hid (holdsI_at (ts := ts) HCJ.out HOK2.out HH.out)
            go_wp2
            go_ret
            exact ⟨by rw [HV.out]; rfl, rfl⟩
          · go_wp2
            go_roundw
            case rel => first | exact ⟨j + 1, by omega, by go_num, holds_step HCJ.out HOK2.out HH.out⟩ | ((repeat apply Exists.intro); exact ⟨⟨j + 1, by omega, by go_num, holds_step HCJ.out HOK2.out HH.out⟩, rfl⟩)
            case measure => simp [intOf]; omega
    · have hle : (cs.length : Int) ≤ j := by omega
      have HV := Lib.hid (holdsI_none (ts := ts) (cs := cs) (by have := HH.out; rw [List.take_of_length_le (by omega)] at this; exact this))
      go_wp2
      go_ret
      exact ⟨by rw [HV.out]; rfl, rfl⟩
end Go.Proofs.Ytmiiclhhenepiaa
