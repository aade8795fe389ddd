/-
  Layer 16: the law's Light and mild. Own work.
-/
import Derived.Test.YtmiiclhhenepiaaPHo16
namespace Go.Proofs.Ytmiiclhhenepiaa
set_option linter.unusedVariables false
set_option linter.unusedSimpArgs false
open Go.RowKit

def lightB (cs : List (List Int)) : Bool := decide (cs.length ≤ 80) && cs.all fun c => decide (c.length ≤ 20)
def mildB (cs : List (List Int)) : Bool := cs.all fun c => c.all fun n => n != -9223372036854775808
def Fit64 (cs : List (List Int)) : Prop := ∀ c ∈ cs, ∀ n ∈ c, -9223372036854775808 ≤ n ∧ n ≤ 9223372036854775807
theorem mild_of {cs : List (List Int)} (hf : Fit64 cs) (h : mildB cs = true) : Mild16 cs := fun c hc n hn => by
  unfold mildB at h
  rw [List.all_eq_true] at h
  have h1 := h c hc
  rw [List.all_eq_true] at h1
  have h2 := h1 n hn
  have h3 := hf c hc n hn
  simp at h2
  omega
theorem light_of {cs : List (List Int)} (h : lightB cs = true) : cs.length ≤ 80 ∧ ∀ c ∈ cs, c.length ≤ 20 := by
  unfold lightB at h
  rw [Bool.and_eq_true, List.all_eq_true] at h
  exact ⟨by simpa using h.1, fun c hc => by simpa using h.2 c hc⟩
theorem light_no {cs : List (List Int)} {c : List Int} (hc : c ∈ cs) (h : 20 < c.length) : lightB cs = false := by
  cases hb : lightB cs with
  | false => rfl
  | true =>
    have := (light_of hb).2 c hc
    omega
theorem light_big {cs : List (List Int)} (h : 80 < cs.length) : lightB cs = false := by
  cases hb : lightB cs with
  | false => rfl
  | true =>
    have := (light_of hb).1
    omega
theorem light_yes {cs : List (List Int)} (h : cs.length ≤ 80) (h2 : ∀ c ∈ cs, c.length ≤ 20) : lightB cs = true := by
  unfold lightB
  rw [Bool.and_eq_true, List.all_eq_true]
  exact ⟨by simpa using h, fun c hc => by simpa using h2 c hc⟩
set_option maxRecDepth 100000 in
set_option maxHeartbeats 2000000 in
theorem Light_any (cv : Value) (cs : List (List Int)) (w : World) (hc : Reads2 w cv cs) :
    Calls Try.prog 9 #[cv] w fun e w' => e = .returned (.bool (lightB cs)) ∧ w' = w := by
  have HC := Lib.hid hc
  obtain ⟨a, cp, rfl, hlen, _⟩ := hc
  have hlI : (cs.length : Int) ≤ 9223372036854775807 := by omega
  clear hlen
  by_cases hbig : 80 < cs.length
  · have hbI : (80 : Int) < (cs.length : Int) := by omega
    have HV := Lib.hid (light_big hbig)
    go_enter Try.func9, Try.ntmps9
    go_wp2
    go_ret
    exact ⟨ret_bool HV.out.symm, rfl⟩
  have hbI : ¬ (80 : Int) < (cs.length : Int) := by omega
  go_enter Try.func9, Try.ntmps9
  go_wp2_with fail
  go_loop [10] (fun i => ∃ j : Nat, j ≤ cs.length ∧ i = .int .i64 j ∧ ∀ d ∈ cs.take j, d.length ≤ 20) (fun i => cs.length - (intOf i).toNat)
  case atStart => exact ⟨0, by omega, rfl, by simp⟩
  case round =>
    obtain ⟨j, hj, rfl, hh⟩ := hrel
    have HH := Lib.hid hh; clear hh
    by_cases hlt : j < cs.length
    · obtain ⟨c, hcj⟩ : ∃ c, cs[j]? = some c := ⟨_, List.getElem?_eq_getElem hlt⟩
      obtain ⟨a0, c0, e0, _, hcell⟩ := HC.out
      cases e0
      obtain ⟨b, r, rfl, hr, hrd⟩ := hcell j c hcj
      obtain ⟨ra, rc, rfl, hrl, hrc⟩ := reads_shape hrd
      have HCJ := Lib.hid hcj
      have hjI : (j : Int) < (cs.length : Int) := by omega
      have hrlI : (c.length : Int) ≤ 9223372036854775807 := by omega
      clear hcell hrd hrc hcj hrl
      by_cases h20 : 20 < c.length
      · have h20I : (20 : Int) < (c.length : Int) := by omega
        have HV := Lib.hid (light_no (List.mem_of_getElem? HCJ.out) h20)
        go_wp2
        go_ret
        exact ⟨ret_bool HV.out.symm, rfl⟩
      · have h20I : ¬ (20 : Int) < (c.length : Int) := by omega
        have HN := Lib.hid (show ∀ d ∈ cs.take (j + 1), d.length ≤ 20 from fun d hd => by
          rw [take_snoc _ j c HCJ.out] at hd
          rcases List.mem_append.1 hd with hd | hd
          · exact HH.out d hd
          · rw [List.mem_singleton.1 hd]; omega)
        go_wp2
        go_round
        case rel => exact ⟨j + 1, by omega, by go_num, HN.out⟩
        case measure => simp [intOf]; omega
    · have hle : (cs.length : Int) ≤ j := by omega
      have HV := Lib.hid (light_yes (cs := cs) (by omega) (by have := HH.out; rw [List.take_of_length_le (by omega)] at this; exact this))
      go_wp2
      go_ret
      exact ⟨ret_bool HV.out.symm, rfl⟩
theorem mild_no {cs : List (List Int)} {c : List Int} {n : Int} (hc : c ∈ cs) (hn : n ∈ c) (h : n = -9223372036854775808) : mildB cs = false := by
  cases hb : mildB cs with
  | false => rfl
  | true =>
    unfold mildB at hb
    rw [List.all_eq_true] at hb
    have h1 := hb c hc
    rw [List.all_eq_true] at h1
    have h2 := h1 n hn
    simp at h2
    exact absurd h h2
theorem mild_yes {cs : List (List Int)} (h : ∀ c ∈ cs, ∀ n ∈ c, n ≠ -9223372036854775808) : mildB cs = true := by
  unfold mildB
  rw [List.all_eq_true]
  intro c hc
  rw [List.all_eq_true]
  intro n hn
  simpa using h c hc n hn
set_option maxRecDepth 100000 in
set_option maxHeartbeats 2000000 in
theorem mild_any (cv : Value) (cs : List (List Int)) (w : World) (hc : Reads2 w cv cs) (hf : Fit64 cs) :
    Calls Try.prog 10 #[cv] w fun e w' => e = .returned (.bool (mildB cs)) ∧ w' = w := by
  have HC := Lib.hid hc
  have HF := Lib.hid hf
  obtain ⟨a, cp, rfl, hlen, _⟩ := hc
  have hlI : (cs.length : Int) ≤ 9223372036854775807 := by omega
  clear hlen hf
  go_enter Try.func10, Try.ntmps10
  go_wp2_with fail
  go_loop [9] (fun i => ∃ j : Nat, j ≤ cs.length ∧ i = .int .i64 j ∧ ∀ d ∈ cs.take j, ∀ n ∈ d, n ≠ -9223372036854775808) (fun i => cs.length - (intOf i).toNat)
  case atStart => exact ⟨0, by omega, rfl, by simp⟩
  case round =>
    obtain ⟨j, hj, rfl, hh⟩ := hrel
    have HH := Lib.hid hh; clear hh
    by_cases hlt : j < cs.length
    · obtain ⟨c, hcj⟩ : ∃ c, cs[j]? = some c := ⟨_, List.getElem?_eq_getElem hlt⟩
      obtain ⟨a0, c0, e0, _, hcell⟩ := HC.out
      cases e0
      obtain ⟨b, r, rfl, hr, hrd⟩ := hcell j c hcj
      obtain ⟨ra, rc, rfl, hrl, hrc⟩ := reads_shape hrd
      have HRC := Lib.hid hrc
      have HCJ := Lib.hid hcj
      have HFC := Lib.hid (HF.out c (List.mem_of_getElem? hcj))
      have hjI : (j : Int) < (cs.length : Int) := by omega
      have hrlI : (c.length : Int) ≤ 9223372036854775807 := by omega
      clear hcell hrd hrc hcj hrl
      go_wp2_with fail
      go_loop [15] (fun i => ∃ q : Nat, q ≤ c.length ∧ i = .int .i64 q ∧ ∀ n ∈ c.take q, n ≠ -9223372036854775808) (fun i => c.length - (intOf i).toNat)
      case atStart => exact ⟨0, by omega, rfl, by simp⟩
      case round =>
        obtain ⟨q, hq, rfl, hno⟩ := hrel
        have HNO := Lib.hid hno; clear hno
        by_cases hlt2 : q < c.length
        · obtain ⟨n, hn⟩ : ∃ n, c[q]? = some n := ⟨_, List.getElem?_eq_getElem hlt2⟩
          obtain ⟨rb, rfl, hci⟩ := HRC.out q n hn
          have hci2 : w.cell? (rb.add q) = some (.int .i64 n) := hci
          have hnf := HFC.out n (List.mem_of_getElem? hn)
          have HMEM := Lib.hid hn
          have hqI : (q : Int) < (c.length : Int) := by omega
          clear hn hci
          by_cases hmin : n = -9223372036854775808
          · have HV := Lib.hid (mild_no (List.mem_of_getElem? HCJ.out) (List.mem_of_getElem? HMEM.out) hmin)
            subst hmin
            have hwn : IntKind.i64.wrap (9223372036854775808 : Int) = -9223372036854775808 := by decide
            clear hnf
            go_wp2
            go_ret
            exact ⟨ret_bool HV.out.symm, rfl⟩
          · have hwn : IntKind.i64.wrap (-n) = -n := by rw [IntWalk.i64_in _ (by omega)]
            have HNO2 := Lib.hid (show ∀ k ∈ c.take (q + 1), k ≠ -9223372036854775808 from fun k hk => by
              rw [take_snoc _ q n HMEM.out] at hk
              rcases List.mem_append.1 hk with hk | hk
              · exact HNO.out k hk
              · rw [List.mem_singleton.1 hk]; exact hmin)
            by_cases hz : n = 0
            · subst hz
              clear hmin hwn hnf
              go_wp2
              go_round
              case rel => exact ⟨q + 1, by omega, by go_num, HNO2.out⟩
              case measure => simp [intOf]; omega
            · have hne : (n == -n) = false := by rw [beq_eq_false_iff_ne]; omega
              clear hmin
              go_wp2
              go_round
              case rel => exact ⟨q + 1, by omega, by go_num, HNO2.out⟩
              case measure => simp [intOf]; omega
        · have hqle : (c.length : Int) ≤ q := by omega
          have HN := Lib.hid (show ∀ d ∈ cs.take (j + 1), ∀ n ∈ d, n ≠ -9223372036854775808 from fun d hd => by
            rw [take_snoc _ j c HCJ.out] at hd
            rcases List.mem_append.1 hd with hd | hd
            · exact HH.out d hd
            · rw [List.mem_singleton.1 hd]
              have := HNO.out
              rw [List.take_of_length_le (by omega)] at this
              exact this)
          go_wp2
          go_round
          case rel => exact ⟨j + 1, by omega, by go_num, HN.out⟩
          case measure => simp [intOf]; omega
    · have hle : (cs.length : Int) ≤ j := by omega
      have HV := Lib.hid (mild_yes (cs := cs) (by have := HH.out; rw [List.take_of_length_le (by omega)] at this; exact this))
      go_wp2
      go_ret
      exact ⟨ret_bool HV.out.symm, rfl⟩
end Go.Proofs.Ytmiiclhhenepiaa
