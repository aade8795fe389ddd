/-
  Layer 16: clauses that came in; the contract of proof's Holds. Own work.
-/
import Derived.Test.YtmiiclhhenepiaaIsT16
import Derived.Test.YtmiiclhhenepiaaHold21
import Derived.Deep.Cut
import Derived.Deep.CutRange
import Derived.WalkMore
namespace Go.Proofs.Ytmiiclhhenepiaa
set_option linter.unusedVariables false
set_option linter.unusedSimpArgs false
open Go.RowKit

/-- v is a slice of slices that came in and reads as cs -/
def Reads2 (w : World) (v : Value) (cs : List (List Int)) : Prop :=
  ∃ a c, v = .slice a cs.length c ∧ cs.length ≤ 9223372036854775807 ∧ ∀ (j : Nat) d, cs[j]? = some d → ∃ b r, a = some b ∧ w.cell? (b.add j) = some r ∧ Reads w iV r d
theorem Reads2.below {w w' : World} {v : Value} {cs : List (List Int)} {B : Nat} (h : Reads2 w v cs) (hb : Below B w w') (hB : w.heap.size ≤ B) : Reads2 w' v cs := by
  obtain ⟨a, c, h1, h2, h3⟩ := h
  refine ⟨a, c, h1, h2, fun j d hj => ?_⟩
  obtain ⟨b, r, e, hr, hd⟩ := h3 j d hj
  exact ⟨b, r, e, (hb.cell (Nat.lt_of_lt_of_le (World.block_lt_of_cell? w _ hr) hB)).trans hr, hd.below hb hB⟩
/-- the number of the first clause without a literal that is true -/
def holdsI (cs : List (List Int)) (ts : List Bool) : Int := match cs.findIdx? (fun c => !anyT ts c) with
  | some i => (i : Int)
  | none => -1
theorem holdsI_at {cs : List (List Int)} {ts : List Bool} {j : Nat} {c : List Int} (hc : cs[j]? = some c) (h : anyT ts c = false) (h0 : ∀ d ∈ cs.take j, anyT ts d = true) : holdsI cs ts = (j : Int) := by
  unfold holdsI
  have : cs.findIdx? (fun c => !anyT ts c) = some j := by
    rw [List.findIdx?_eq_some_iff_getElem]
    have hj := (List.getElem?_eq_some_iff.1 hc).1
    refine ⟨hj, by rw [(List.getElem?_eq_some_iff.1 hc).2, h]; rfl, fun i hi => ?_⟩
    have := h0 cs[i] (List.mem_take_iff_getElem.2 ⟨i, by omega, rfl⟩)
    simp [this]
  rw [this]
theorem holdsI_none {cs : List (List Int)} {ts : List Bool} (h0 : ∀ d ∈ cs, anyT ts d = true) : holdsI cs ts = -1 := by
  unfold holdsI
  rw [List.findIdx?_eq_none_iff.2 (fun c hc => by simp [h0 c hc])]
def Mild16 (cs : List (List Int)) : Prop := ∀ c ∈ cs, ∀ n ∈ c, -9223372036854775808 < n ∧ n ≤ 9223372036854775807
set_option maxRecDepth 100000 in
set_option maxHeartbeats 4000000 in
theorem PHolds_any (vars : Int) (cv tv : Value) (cs : List (List Int)) (ts : List Bool) (w : World) (hc : Reads2 w cv cs) (ht : Reads w bV tv ts) (hm : Mild16 cs) :
    Calls Try.prog 12 #[.agg #[.int .i64 vars, cv], tv] w fun e w' => e = .returned (.int .i64 (holdsI cs ts)) ∧ Below w.heap.size w w' := by
  have hba : Below w.heap.size w (w.alloc (.cells #[.int .i64 vars, cv] 28)) := (Below.refl _ _).alloc (Nat.le_refl _) _
  have HC := Lib.hid (hc.below hba (Nat.le_refl _))
  have HT := Lib.hid (ht.below hba (Nat.le_refl _))
  have hnew := heap_alloc_new w (.cells #[.int .i64 vars, cv] 28)
  have HBA := Lib.hid hba
  have HM := Lib.hid hm
  obtain ⟨a, cp, rfl, hlen, _⟩ := hc
  have hlI : (cs.length : Int) ≤ 9223372036854775807 := by omega
  clear ht hm hba hlen
  go_enter Try.func12, Try.ntmps12
  go_upto_region 1 with fail
  generalize w.alloc (.cells #[.int .i64 vars, .slice a cs.length cp] 28) = w1 at HC HT hnew HBA ⊢
  generalize w.heap.size = Q0 at hnew ⊢
  have c1 : w1.cell? ⟨Q0, 1, none⟩ = some (.slice a cs.length cp) := by rw [cell_of_row w1 Q0 1 _ _ (0, 0) hnew]; rfl
  have HIT := Lib.hid (fun n hn => isTrue_any n hn tv ts w1 HT.out)
  clear hnew
  go_step3
  go_step
  go_step3
  go_wp2_with fail
  go_loop [12] (fun i => ∃ j : Nat, j ≤ cs.length ∧ i = .int .i64 j ∧ ∀ d ∈ cs.take j, anyT ts d = true) (fun i => cs.length - (intOf i).toNat)
  case atStart => exact ⟨0, by omega, rfl, by simp⟩
  case round =>
    obtain ⟨j, hj, rfl, hh⟩ := hrel
    have HH := Lib.hid hh; clear hh
    by_cases hlt : j < cs.length
    · obtain ⟨c, hcj⟩ : ∃ c, cs[j]? = some c := ⟨_, List.getElem?_eq_getElem hlt⟩
      obtain ⟨a0, c0, e0, _, hcell⟩ := HC.out
      cases e0
      obtain ⟨b, r, rfl, hr, hrd⟩ := hcell j c hcj
      obtain ⟨ra, rc, rfl, hrl, hrc⟩ := reads_shape hrd
      have HRC := Lib.hid hrc
      have HMC := Lib.hid (HM.out c (List.mem_of_getElem? hcj))
      have HCJ := Lib.hid hcj
      have hjI : (j : Int) < (cs.length : Int) := by omega
      have hrlI : (c.length : Int) ≤ 9223372036854775807 := by omega
      clear hcell hrd hrc hcj hrl
      go_wp2_with fail
      go_loop [19] (fun i => ∃ q : Nat, q ≤ c.length ∧ i = .int .i64 q ∧ anyT ts (c.take q) = false) (fun i => c.length - (intOf i).toNat)
      case atStart => exact ⟨0, by omega, rfl, rfl⟩
      case round =>
        obtain ⟨q, hq, rfl, hno⟩ := hrel
        have HNO := Lib.hid hno; clear hno
        by_cases hlt2 : q < c.length
        · obtain ⟨n, hn⟩ : ∃ n, c[q]? = some n := ⟨_, List.getElem?_eq_getElem hlt2⟩
          obtain ⟨rb, rfl, hci⟩ := HRC.out q n hn
          have hci2 : w1.cell? (rb.add q) = some (.int .i64 n) := hci
          have HS := Lib.hid (anyT_snoc ts c q n hn)
          have HTN := Lib.hid (HIT.out n (HMC.out n (List.mem_of_getElem? hn)))
          have hqI : (q : Int) < (c.length : Int) := by omega
          have HMEM := Lib.hid (List.mem_of_getElem? hn)
          clear hn hci
          cases htb : trueB n ts with
          | true =>
            have HYES := Lib.hid (show anyT ts c = true from by unfold anyT; exact List.any_eq_true.2 ⟨n, HMEM.out, htb⟩)
            rw [htb] at HTN
            clear htb
            go_wp2_with fail
            refine HTN.out.mono ?_
            rintro e w2 ⟨rfl, hw2⟩
            obtain rfl : w1 = w2 := hw2.symm
            clear hw2
            go_wp2
            go_round
            case rel => exact ⟨j + 1, by omega, by go_num, holds_step HCJ.out HYES.out HH.out⟩
            case measure => simp [intOf]; omega
          | false =>
            have HNO2 := Lib.hid (show anyT ts (c.take (q + 1)) = false from by rw [HS.out, HNO.out, htb]; rfl)
            rw [htb] at HTN
            clear htb
            go_wp2_with fail
            refine HTN.out.mono ?_
            rintro e w2 ⟨rfl, hw2⟩
            obtain rfl : w1 = w2 := hw2.symm
            clear hw2
            go_wp2
            go_round
            case rel => exact ⟨q + 1, by omega, by go_num, HNO2.out⟩
            case measure => simp [intOf]; omega
        · have hqle : (c.length : Int) ≤ q := by omega
          have HV := Lib.hid (holdsI_at (ts := ts) HCJ.out (by have := HNO.out; rw [List.take_of_length_le (by omega)] at this; exact this) HH.out)
          go_wp2
          go_ret
          exact ⟨by rw [HV.out]; rfl, HBA.out⟩
    · have hle : (cs.length : Int) ≤ j := by omega
      have HV := Lib.hid (holdsI_none (ts := ts) (cs := cs) (by have := HH.out; rw [List.take_of_length_le (by omega)] at this; exact this))
      go_wp2
      go_ret
      exact ⟨by rw [HV.out]; rfl, HBA.out⟩
end Go.Proofs.Ytmiiclhhenepiaa
