/-
  Layer 29: the answer's Holds and Some, over clauses that came in. Own work.
-/
import Derived.Test.YtlcbfahaapodmaaMe29
import Derived.Test.YtlcbfahaapodmaaSa29
namespace Go.Proofs.Ytlcbfahaapodmaa
set_option linter.unusedVariables false
set_option linter.unusedSimpArgs false
open Go.RowKit

/-- the number of the first clause without a literal that is true -/
def holdsI (cs : List (List Int)) (ts : List Bool) : Int := match cs.findIdx? (fun c => !anyT ts c) with
  | some i => (i : Int)
  | none => -1
theorem holdsI_at {cs : List (List Int)} {ts : List Bool} {j : Nat} {c : List Int} (hc : cs[j]? = some c) (h : anyT ts c = false) (h0 : ∀ d ∈ cs.take j, anyT ts d = true) : holdsI cs ts = (j : Int) := by
  unfold holdsI
  have : cs.findIdx? (fun c => !anyT ts c) = some j := by
    rw [List.findIdx?_eq_some_iff_getElem]
    have hj := (List.getElem?_eq_some_iff.1 hc).1
    refine ⟨hj, by rw [(List.getElem?_eq_some_iff.1 hc).2, h]; rfl, fun i hi => ?_⟩
    have := h0 cs[i] (List.mem_take_iff_getElem.2 ⟨i, by omega, rfl⟩)
    simp [this]
  rw [this]
theorem holdsI_none {cs : List (List Int)} {ts : List Bool} (h0 : ∀ d ∈ cs, anyT ts d = true) : holdsI cs ts = -1 := by
  unfold holdsI
  rw [List.findIdx?_eq_none_iff.2 (fun c hc => by simp [h0 c hc])]
theorem holds_iff (cs : List (List Int)) (ts : List Bool) : holdsI cs ts < 0 ↔ ∀ c ∈ cs, anyT ts c = true := by
  by_cases h : ∀ c ∈ cs, anyT ts c = true
  · rw [holdsI_none h]; exact ⟨fun _ => h, fun _ => by omega⟩
  · unfold holdsI
    cases hf : cs.findIdx? (fun c => !anyT ts c) with
    | some i => exact ⟨fun h2 => by simp only at h2; omega, fun h2 => absurd h2 h⟩
    | none =>
      rw [List.findIdx?_eq_none_iff] at hf
      exact absurd (fun c hc => by simpa using hf c hc) h
theorem holdsI_one (cs : List (List Int)) (ts : List Bool) : holdsI cs ts = -1 ↔ ∀ c ∈ cs, anyT ts c = true := by
  constructor
  · intro h; exact (holds_iff cs ts).1 (by omega)
  · exact holdsI_none
set_option maxRecDepth 100000 in
set_option maxHeartbeats 4000000 in
theorem RHolds_any (cv tv : Value) (cs : List (List Int)) (ts : List Bool) (w : World) (hc : Reads2 w cv cs) (ht : Reads w bV tv ts) :
    Calls Try.prog 15 #[cv, tv] w fun e w' => e = .returned (.int .i64 (holdsI cs ts)) ∧ w' = w := by
  have HC := Lib.hid hc
  have HIT := Lib.hid (fun n => True_any n tv ts w ht)
  obtain ⟨a, cp, rfl, hlen, _⟩ := hc
  have hlI : (cs.length : Int) ≤ 9223372036854775807 := by omega
  clear hlen ht
  go_enter Try.func15, Try.ntmps15
  go_wp2_with fail
  go_loop [12] (fun i => ∃ j : Nat, j ≤ cs.length ∧ i = .int .i64 j ∧ ∀ d ∈ cs.take j, anyT ts d = true) (fun i => cs.length - (intOf i).toNat)
  case atStart => exact ⟨0, by omega, rfl, by simp⟩
  case round =>
    obtain ⟨j, hj, rfl, hh⟩ := hrel
    have HH := Lib.hid hh; clear hh
    by_cases hlt : j < cs.length
    · obtain ⟨c, hcj⟩ : ∃ c, cs[j]? = some c := ⟨_, List.getElem?_eq_getElem hlt⟩
      obtain ⟨a0, c0, e0, _, hcell⟩ := HC.out
      cases e0
      obtain ⟨b, r, rfl, hr, hrd⟩ := hcell j c hcj
      obtain ⟨ra, rc, rfl, hrl, hrc⟩ := reads_shape hrd
      have HRC := Lib.hid hrc
      have HCJ := Lib.hid hcj
      have hjI : (j : Int) < (cs.length : Int) := by omega
      have hrlI : (c.length : Int) ≤ 9223372036854775807 := by omega
      clear hcell hrd hrc hcj hrl
      go_wp2_with fail
      go_loop [7, 19] (fun ok i => ∃ q : Nat, q ≤ c.length ∧ i = .int .i64 q ∧ ok = .bool (anyT ts (c.take q))) (fun _ i => c.length - (intOf i).toNat)
      case atStart => exact ⟨0, by omega, rfl, rfl⟩
      case round =>
        obtain ⟨q, hq, rfl, rfl⟩ := hrel
        by_cases hlt2 : q < c.length
        · obtain ⟨n, hn⟩ : ∃ n, c[q]? = some n := ⟨_, List.getElem?_eq_getElem hlt2⟩
          obtain ⟨rb, rfl, hci⟩ := HRC.out q n hn
          have hci2 : w.cell? (rb.add q) = some (.int .i64 n) := hci
          have HS := Lib.hid (anyT_snoc ts c q n hn)
          have HTN := Lib.hid (HIT.out n)
          have hqI : (q : Int) < (c.length : Int) := by omega
          clear hn hci
          generalize anyT ts (c.take q) = ok at HS ⊢
          cases ok
          · generalize trueB n ts = t at HTN HS
            go_wp2_with fail
            refine HTN.out.mono ?_
            rintro e w2 ⟨rfl, rfl⟩
            go_wp2
            exact ⟨⟨q + 1, by omega, by go_num, by rw [HS.out]; rfl⟩, by simp [intOf]; omega⟩
          · go_wp2
            exact ⟨⟨q + 1, by omega, by go_num, by rw [HS.out]; rfl⟩, by simp [intOf]; omega⟩
        · have hql : (c.length : Int) ≤ q := by omega
          have htk : c.take q = c := List.take_of_length_le (by omega)
          rw [htk]
          generalize hok : anyT ts c = ok
          have HOK2 := Lib.hid hok; clear hok
          cases ok
          · have HV := Lib.hid (holdsI_at (ts := ts) HCJ.out HOK2.out HH.out)
            go_wp2
            go_ret
            exact ⟨by rw [HV.out]; rfl, rfl⟩
          · go_wp2
            go_roundw
            case rel => first | exact ⟨j + 1, by omega, by go_num, holds_step HCJ.out HOK2.out HH.out⟩ | ((repeat apply Exists.intro); exact ⟨⟨j + 1, by omega, by go_num, holds_step HCJ.out HOK2.out HH.out⟩, rfl⟩)
            case measure => simp [intOf]; omega
    · have hle : (cs.length : Int) ≤ j := by omega
      have HV := Lib.hid (holdsI_none (ts := ts) (cs := cs) (by have := HH.out; rw [List.take_of_length_le (by omega)] at this; exact this))
      go_wp2
      go_ret
      exact ⟨by rw [HV.out]; rfl, rfl⟩
set_option maxHeartbeats 2000000 in
theorem Some29_any (cv : Value) (cs : List (List Int)) (vars : Nat) (hv : vars ≤ 13) (w : World) (hc : Reads2 w cv cs) :
    Calls Try.prog 14 #[cv, .int .i64 vars] w fun e w' => e = .returned (.bool (decide (∃ m, m < 2 ^ vars ∧ ∀ c ∈ cs, anyT (bitsN vars m) c = true))) ∧ Below w.heap.size w w' := by
  have HC := Lib.hid hc
  obtain ⟨ca, cc, rfl, hlc, _⟩ := hc
  clear hlc
  have hpw : (2 : Nat) ^ vars ≤ 8192 := Nat.le_trans (Nat.pow_le_pow_right (by omega) hv) (by decide)
  have hpw1 : 1 ≤ (2 : Nat) ^ vars := Nat.one_le_two_pow
  have hvi : (vars : Int) ≤ 13 := by omega
  obtain ⟨P, hP⟩ : ∃ P : Nat, 2 ^ vars = P := ⟨_, rfl⟩
  have hw : wrap64 ((2 : Int) ^ vars) = (P : Int) := by
    have h2 : ((2 : Int) ^ vars) = ((2 ^ vars : Nat) : Int) := by simp
    rw [h2, hP]
    unfold wrap64
    omega
  rw [hP] at hpw hpw1 ⊢
  clear hP
  go_enter Try.func14, Try.ntmps14
  go_wp2_with fail
  go_loopw [5] (fun i wr => ∃ k : Nat, k ≤ P ∧ i = .int .i64 k ∧ Below w.heap.size w wr ∧ ∀ m, m < k → ¬ ∀ c ∈ cs, anyT (bitsN vars m) c = true) (fun i _ => P - (intOf i).toNat)
  case atStart => exact ⟨0, by omega, rfl, Below.refl _ _, fun m h => by omega⟩
  case round =>
    rename World => W1
    obtain ⟨k, hk, rfl, hb, hno⟩ := hrel
    have HNO := Lib.hid hno; clear hno
    have HB := Lib.hid hb; clear hb
    by_cases hlt : k < P
    · have hlt' : (k : Int) < P := by omega
      go_wp2_with fail
      go_loopw [6, 7] (fun v i wr2 => SRel vars k W1 wr2 v i) (fun _ i _ => vars - (intOf i).toNat)
      case atStart => exact ⟨0, _, rfl, by omega, rfl, World.ownsRow_nil _ _ _ _, Below.refl _ _⟩
      case round =>
        obtain ⟨q, v, rfl, hq, rfl, hown, hb2⟩ := hrel
        by_cases hlt2 : q < vars
        · have hlt2' : (q : Int) < vars := by omega
          have HSN := Lib.hid (bitsN_snoc q k)
          have hbit := bit_at k q (by omega)
          go_wp2_with (at_builtin
                       refine app1 rfl _ _ 40 4 rfl (.bool false) 1 W1.heap.size q Try.underlying40 bool_info rfl v _ rfl hown rfl rfl (by omega) (by omega) hb2.size ?_)
          intro v' w' ho' hg' hb'
          go_wp2
          go_roundw
          case rel => (repeat apply Exists.intro); exact ⟨⟨q + 1, _, rfl, by omega, by go_num, by rw [HSN.out]; exact ho', hb2.trans hb'⟩, by rw [hw]; rfl⟩
          case measure => simp [intOf]; omega
        · have hql : q = vars := by omega
          have hvl : (vars : Int) ≤ q := by omega
          have hr : Reads wr bV v (bitsN vars k) := reads_own (base := W1.heap.size) (e := 4) (by rw [bitsN_len]; rw [← hql]; exact hown)
          have hB2 := HB.out.trans (hb2.mono HB.out.size)
          have hcall := RHolds_any _ v cs (bitsN vars k) wr (HC.out.below29 hB2 (Nat.le_refl _)) hr
          have HCALL := Lib.hid hcall
          have HB2 := Lib.hid hB2
          obtain ⟨va, vc, rfl⟩ : ∃ a c, v = .slice a q c := by
            rcases hown.2 with ⟨h, h0⟩ | ⟨g, cap, cur, h, _⟩
            · exact ⟨none, 0, by rw [h, h0]⟩
            · exact ⟨_, _, h⟩
          clear hcall hB2 hown hb2 hr hql
          go_wp2_with fail
          refine HCALL.out.mono ?_
          rintro e w2 ⟨rfl, hw2⟩
          obtain rfl : wr = w2 := hw2.symm
          have hr := holds_iff cs (bitsN vars k)
          generalize holdsI cs (bitsN vars k) = r at hr ⊢
          by_cases hr0 : r < 0
          · have hall := hr.1 hr0
            have HALL := Lib.hid hall
            clear hall hr
            have hkP : k < P := hlt
            have HK := Lib.hid hkP
            go_wp2
            go_ret
            exact ⟨ret_bool (decide_eq_true ⟨k, HK.out, HALL.out⟩).symm, HB2.out⟩
          · have hall := fun h => hr0 (hr.2 h)
            have HALL := Lib.hid hall
            clear hall hr
            have hr1 : 0 ≤ r := by omega
            go_wp2
            go_roundw
            case rel => exact ⟨k + 1, by omega, by go_num, HB2.out, fun m hm => if h : m < k then HNO.out m h else by rw [show m = k by omega]; exact HALL.out⟩
            case measure => simp [intOf]; omega
    · have hPk : (P : Int) ≤ k := by omega
      have hno : ¬ ∃ m, m < P ∧ ∀ c ∈ cs, anyT (bitsN vars m) c = true := fun ⟨m, h1, h2⟩ => HNO.out m (by omega) h2
      have HN := Lib.hid (decide_eq_false hno)
      clear hno
      go_wp2
      go_ret
      exact ⟨ret_bool HN.out.symm, HB.out⟩
end Go.Proofs.Ytlcbfahaapodmaa
