/-
  Layer 29: the law's light, the answer's May. Own work.
-/
import Derived.Test.YtlcbfahaapodmaaOp29
namespace Go.Proofs.Ytlcbfahaapodmaa
set_option linter.unusedVariables false
set_option linter.unusedSimpArgs false
open Go.RowKit

def lightQ (vars : Int) (cs : List (List Int)) : Bool := decide (vars ≤ 30) && (decide (cs.length ≤ 60) && cs.all fun c => decide (c.length ≤ 20))
theorem lightQ_of {vars : Int} {cs : List (List Int)} (h : lightQ vars cs = true) : vars ≤ 30 ∧ cs.length ≤ 60 ∧ ∀ c ∈ cs, c.length ≤ 20 := by
  unfold lightQ at h
  rw [Bool.and_eq_true, Bool.and_eq_true, List.all_eq_true] at h
  exact ⟨by simpa using h.1, by simpa using h.2.1, fun c hc => by simpa using h.2.2 c hc⟩
theorem lightQ_no {vars : Int} {cs : List (List Int)} (h : ¬ (vars ≤ 30 ∧ cs.length ≤ 60 ∧ ∀ c ∈ cs, c.length ≤ 20)) : lightQ vars cs = false := by
  cases hb : lightQ vars cs with
  | false => rfl
  | true => exact absurd (lightQ_of hb) h
theorem lightQ_yes {vars : Int} {cs : List (List Int)} (h1 : vars ≤ 30) (h2 : cs.length ≤ 60) (h3 : ∀ c ∈ cs, c.length ≤ 20) : lightQ vars cs = true := by
  unfold lightQ
  rw [Bool.and_eq_true, Bool.and_eq_true, List.all_eq_true]
  exact ⟨by simpa using h1, by simpa using h2, fun c hc => by simpa using h3 c hc⟩
theorem light_size {cs : List (List Int)} (h1 : cs.length ≤ 60) (h2 : ∀ c ∈ cs, c.length ≤ 20) : sizeC cs ≤ 1260 := by
  have : ∀ (cs : List (List Int)), (∀ c ∈ cs, c.length ≤ 20) → sizeC cs ≤ 21 * cs.length := by
    intro cs
    induction cs with
    | nil => intro _; simp [sizeC]
    | cons c cs ih =>
      intro h
      rw [sizeC_cons, List.length_cons]
      have h3 := ih fun d hd => h d (by simp [hd])
      have h4 := h c (by simp)
      omega
  have := this cs h2
  omega
section
variable {w : World}
set_option maxRecDepth 100000 in
set_option maxHeartbeats 2000000 in
theorem light29_any {vars : Int} {cs : List (List Int)} (cv : Value) (w : World) (hc : Reads2 w cv cs) :
    Calls Try.prog 7 #[.agg #[.int .i64 vars, cv]] w fun e w' => e = .returned (.bool (lightQ vars cs)) ∧ Below w.heap.size w w' := by
  obtain ⟨a, cp, rfl, hlen, hrow⟩ := hc
  have hlI : (cs.length : Int) ≤ 9223372036854775807 := by omega
  have hb : Below w.heap.size w (w.alloc (.cells #[.int .i64 vars, .slice a cs.length cp] 24)) := (Below.refl _ _).alloc (Nat.le_refl _) _
  have HC := Lib.hid ((show Reads2 w (.slice a cs.length cp) cs from ⟨a, cp, rfl, hlen, hrow⟩).below29 hb (Nat.le_refl _))
  have HB := Lib.hid hb
  have hR := heap_alloc_new w (.cells #[.int .i64 vars, .slice a cs.length cp] 24)
  clear hlen hrow hb
  go_enter Try.func7, Try.ntmps7
  go_upto_region 1 with fail
  generalize w.alloc (.cells #[.int .i64 vars, .slice a cs.length cp] 24) = W at HC HB hR ⊢
  have hc0 : W.cell? ⟨w.heap.size, 0, none⟩ = some (.int .i64 vars) := cell_of_row _ _ 0 _ _ (0, 0) hR
  have hc1 : W.cell? ⟨w.heap.size, 1, none⟩ = some (.slice a cs.length cp) := cell_of_row _ _ 1 _ _ (0, 0) hR
  clear hR
  by_cases h1 : 30 < vars
  · have HV := Lib.hid (lightQ_no (vars := vars) (cs := cs) (fun h => by omega))
    go_wp2
    go_ret
    exact ⟨ret_bool HV.out.symm, HB.out⟩
  by_cases h2 : 60 < cs.length
  · have HV := Lib.hid (lightQ_no (vars := vars) (cs := cs) (fun h => by omega))
    have h2I : (60 : Int) < (cs.length : Int) := by omega
    go_wp2
    go_ret
    exact ⟨ret_bool HV.out.symm, HB.out⟩
  have h2I : ¬ (60 : Int) < (cs.length : Int) := by omega
  go_wp2_with fail
  go_loop [17] (fun i => ∃ j : Nat, j ≤ cs.length ∧ i = .int .i64 j ∧ ∀ d ∈ cs.take j, d.length ≤ 20) (fun i => cs.length - (intOf i).toNat)
  case atStart => exact ⟨0, by omega, rfl, by simp⟩
  case round =>
    obtain ⟨j, hj, rfl, hh⟩ := hrel
    have HH := Lib.hid hh; clear hh
    by_cases hlt : j < cs.length
    · obtain ⟨c, hcj⟩ : ∃ c, cs[j]? = some c := ⟨_, List.getElem?_eq_getElem hlt⟩
      obtain ⟨a0, c0, e0, _, hcell⟩ := HC.out
      cases e0
      obtain ⟨b, r, rfl, hr, hrd⟩ := hcell j c hcj
      obtain ⟨ra, rc, rfl, hrl, hrc⟩ := reads_shape hrd
      have HCJ := Lib.hid hcj
      have hjI : (j : Int) < (cs.length : Int) := by omega
      have hrlI : (c.length : Int) ≤ 9223372036854775807 := by omega
      clear hcell hrd hrc hcj hrl
      by_cases h20 : 20 < c.length
      · have h20I : (20 : Int) < (c.length : Int) := by omega
        have HV := Lib.hid (lightQ_no (vars := vars) (cs := cs) (fun h => by have := h.2.2 c (List.mem_of_getElem? HCJ.out); omega))
        go_wp2
        go_ret
        exact ⟨ret_bool HV.out.symm, HB.out⟩
      · have h20I : ¬ (20 : Int) < (c.length : Int) := by omega
        have HN := Lib.hid (show ∀ d ∈ cs.take (j + 1), d.length ≤ 20 from fun d hd => by
          rw [take_snoc _ j c HCJ.out] at hd
          rcases List.mem_append.1 hd with hd | hd
          · exact HH.out d hd
          · rw [List.mem_singleton.1 hd]; omega)
        go_wp2
        go_round
        case rel => exact ⟨j + 1, by omega, by go_num, HN.out⟩
        case measure => simp [intOf]; omega
    · have hle : (cs.length : Int) ≤ j := by omega
      have HV := Lib.hid (lightQ_yes (vars := vars) (cs := cs) (by omega) (by omega) (by have := HH.out; rw [List.take_of_length_le (by omega)] at this; exact this))
      go_wp2
      go_ret
      exact ⟨ret_bool HV.out.symm, HB.out⟩
end
def badL (vars : Int) (c : List Int) : Bool := c.any fun n => !okL vars n
def badC (vars : Int) (cs : List (List Int)) : Bool := decide (vars < 0) || cs.any (badL vars)
theorem mayQ_bad2 {vars : Int} {cs : List (List Int)} (h1 : ¬ (1024 < vars ∨ 16384 < cs.length)) (h2 : ∀ c ∈ cs, c.length ≤ 2048) (h : badC vars cs = true) : mayQ vars cs = 1 := by
  unfold badC at h
  rw [Bool.or_eq_true] at h
  by_cases hv : vars < 0
  · exact mayQ_neg h1 h2 hv
  · rcases h with h | h
    · exact absurd (by simpa using h) hv
    · obtain ⟨c, hc, hb⟩ := List.any_eq_true.1 h
      obtain ⟨n, hn, hk⟩ := List.any_eq_true.1 hb
      exact mayQ_bad h1 h2 hc hn (by simpa using hk)
theorem mayQ_good2 {vars : Int} {cs : List (List Int)} (h1 : ¬ (1024 < vars ∨ 16384 < cs.length)) (h2 : ∀ c ∈ cs, c.length ≤ 2048) (h : badC vars cs = false) : mayQ vars cs = 0 := by
  unfold badC at h
  rw [Bool.or_eq_false_iff] at h
  refine mayQ_ok h1 h2 (by simpa using h.1) (fun c hc n hn => ?_)
  have h3 := List.any_eq_false.1 h.2 c hc
  cases hk : okL vars n with
  | true => rfl
  | false => exact absurd (List.any_eq_true.2 ⟨n, hn, by simp [hk]⟩) h3
section
set_option maxRecDepth 100000 in
set_option maxHeartbeats 2000000 in
theorem RMay29_any {vars : Int} {cs : List (List Int)} (cv : Value) (w : World) (hv : -9223372036854775808 ≤ vars ∧ vars ≤ 9223372036854775807) (hc : Reads2 w cv cs) :
    Calls Try.prog 10 #[.agg #[.int .i64 vars, cv]] w fun e w' => e = .returned (.int .i64 (mayQ vars cs)) ∧ Below w.heap.size w w' := by
  obtain ⟨a, cp, rfl, hlen, hrow⟩ := hc
  have hlI : (cs.length : Int) ≤ 9223372036854775807 := by omega
  have hb : Below w.heap.size w (w.alloc (.cells #[.int .i64 vars, .slice a cs.length cp] 24)) := (Below.refl _ _).alloc (Nat.le_refl _) _
  have HC := Lib.hid ((show Reads2 w (.slice a cs.length cp) cs from ⟨a, cp, rfl, hlen, hrow⟩).below29 hb (Nat.le_refl _))
  have HB := Lib.hid hb
  have hR := heap_alloc_new w (.cells #[.int .i64 vars, .slice a cs.length cp] 24)
  clear hlen hrow hb
  go_enter Try.func10, Try.ntmps10
  go_upto_region 1 with fail
  generalize w.alloc (.cells #[.int .i64 vars, .slice a cs.length cp] 24) = W at HC HB hR ⊢
  have hc0 : W.cell? ⟨w.heap.size, 0, none⟩ = some (.int .i64 vars) := cell_of_row _ _ 0 _ _ (0, 0) hR
  have hc1 : W.cell? ⟨w.heap.size, 1, none⟩ = some (.slice a cs.length cp) := cell_of_row _ _ 1 _ _ (0, 0) hR
  clear hR
  by_cases hb1 : 1024 < vars
  · have HV := Lib.hid (mayQ_big (cs := cs) (.inl hb1))
    go_wp2
    go_ret
    exact ⟨ret_int HV.out.symm, HB.out⟩
  by_cases hb2 : 16384 < cs.length
  · have HV := Lib.hid (mayQ_big (vars := vars) (.inr hb2))
    have hb2I : (16384 : Int) < (cs.length : Int) := by omega
    go_wp2
    go_ret
    exact ⟨ret_int HV.out.symm, HB.out⟩
  have hb2I : ¬ (16384 : Int) < (cs.length : Int) := by omega
  have HBG := Lib.hid (show ¬ (1024 < vars ∨ 16384 < cs.length) from fun h => h.elim hb1 hb2)
  clear hb2
  obtain ⟨b0, hb0⟩ : ∃ b0, b0 = decide (vars < 0) := ⟨_, rfl⟩
  have HB0 := Lib.hid hb0
  go_upto_region 4 with fail
  rw [← hb0]
  clear hb0
  go_wp2_with fail
  go_loop [3, 23] (fun p q => ∃ (k : Nat) (b : Bool), k ≤ cs.length ∧ q = .int .i64 k ∧ p = .bool b ∧ b = badC vars (cs.take k) ∧ ∀ c ∈ cs.take k, c.length ≤ 2048) (fun _ q => cs.length - (intOf q).toNat)
  case atStart => exact ⟨0, b0, by omega, rfl, rfl, by rw [HB0.out]; simp [badC], by simp⟩
  case round =>
    obtain ⟨k, b, hk, rfl, rfl, hbk, hno⟩ := hrel
    have HBK := Lib.hid hbk
    have HNO := Lib.hid hno
    clear hno hbk
    by_cases hlt : k < cs.length
    · obtain ⟨c, hc⟩ : ∃ c, cs[k]? = some c := ⟨_, List.getElem?_eq_getElem hlt⟩
      obtain ⟨_, _, e0, _, hrw⟩ := HC.out
      cases e0
      obtain ⟨b2, r, rfl, hrc, hrd⟩ := hrw k c hc
      obtain ⟨ra, rc, rfl, hrl, hel⟩ := reads_shape hrd
      have hkI : (k : Int) < (cs.length : Int) := by omega
      have HCK := Lib.hid hc
      have HEL := Lib.hid hel
      clear hrw hrd hc hel
      by_cases hlg : 2048 < c.length
      · have hlgI : (2048 : Int) < (c.length : Int) := by omega
        have hcI : (c.length : Int) ≤ 9223372036854775807 := by omega
        have HV := Lib.hid (mayQ_long (vars := vars) (List.mem_of_getElem? HCK.out) hlg)
        clear hlg
        go_wp2
        go_ret
        exact ⟨ret_int HV.out.symm, HB.out⟩
      · have hlgI : ¬ (2048 : Int) < (c.length : Int) := by omega
        have HN := Lib.hid (show ∀ c ∈ cs.take (k + 1), c.length ≤ 2048 from fun d hd => by
          rw [take_snoc _ k c HCK.out] at hd
          rcases List.mem_append.1 hd with hd | hd
          · exact HNO.out d hd
          · rw [List.mem_singleton.1 hd]; omega)
        have hlgN : c.length ≤ 2048 := by omega
        clear hlg hrl
        go_wp2_with fail
        go_loop [3, 32] (fun p q => ∃ (j : Nat) (b2 : Bool), j ≤ c.length ∧ q = .int .i64 j ∧ p = .bool b2 ∧ b2 = (b || badL vars (c.take j))) (fun _ q => c.length - (intOf q).toNat)
        case atStart => exact ⟨0, b, by omega, rfl, rfl, by simp [badL]⟩
        case round =>
          obtain ⟨j, b3, hj, rfl, rfl, hbj⟩ := hrel
          have HBJ := Lib.hid hbj
          clear hbj
          by_cases hlt3 : j < c.length
          · obtain ⟨n, hn⟩ : ∃ n, c[j]? = some n := ⟨_, List.getElem?_eq_getElem hlt3⟩
            obtain ⟨b4, rfl, hnc⟩ := HEL.out j n hn
            have hnc' : W.cell? (b4.add j) = some (.int .i64 n) := hnc
            have hjI : (j : Int) < (c.length : Int) := by omega
            have HX := Lib.hid (show (b || badL vars (c.take (j + 1))) = (b3 || !okL vars n) from by
              rw [HBJ.out, take_snoc _ j n hn]
              unfold badL
              rw [List.any_append]
              simp [Bool.or_assoc])
            have HV0 := Lib.hid (show b3 = false → 0 ≤ vars from fun h => by
              have h1 := HBJ.out
              rw [h] at h1
              have h2 : b = false := (Bool.or_eq_false_iff.1 h1.symm).1
              have h3 := HBK.out
              rw [h2] at h3
              unfold badC at h3
              have h4 := (Bool.or_eq_false_iff.1 h3.symm).1
              simpa using h4)
            clear hn hnc
            cases b3 with
            | true =>
              go_wp2
              go_round
              case rel => exact ⟨j + 1, true, by omega, by go_num, rfl, by rw [HX.out]; rfl⟩
              case measure => simp [intOf]; omega
            | false =>
              have hv0 := HV0.out rfl
              have hnw : IntKind.i64.wrap (-vars) = -vars := IntWalk.i64_in _ ⟨by omega, by omega⟩
              by_cases hz : n = 0
              · have hk : okL vars n = false := by simp [okL, hz]
                have HX2 := Lib.hid (HX.out.trans (by rw [hk]; rfl : _ = true))
                have hzb : (n == 0) = true := by simp [hz]
                clear hz hk
                go_wp2
                go_round
                case rel => exact ⟨j + 1, true, by omega, by go_num, rfl, HX2.out.symm⟩
                case measure => simp [intOf]; omega
              have hzb : (n == 0) = false := by simpa using hz
              by_cases hg1 : vars < n
              · have hk : okL vars n = false := by simp [okL, hg1]
                have HX2 := Lib.hid (HX.out.trans (by rw [hk]; rfl : _ = true))
                clear hz hk
                go_wp2
                go_round
                case rel => exact ⟨j + 1, true, by omega, by go_num, rfl, HX2.out.symm⟩
                case measure => simp [intOf]; omega
              by_cases hg2 : n < -vars
              · have hk : okL vars n = false := by simp [okL, hg2]
                have HX2 := Lib.hid (HX.out.trans (by rw [hk]; rfl : _ = true))
                clear hz hk
                go_wp2
                go_round
                case rel => exact ⟨j + 1, true, by omega, by go_num, rfl, HX2.out.symm⟩
                case measure => simp [intOf]; omega
              have hk : okL vars n = true := by simp [okL, hz, hg1, hg2]
              have HX2 := Lib.hid (HX.out.trans (by rw [hk]; rfl : _ = false))
              clear hz hk
              go_wp2
              go_round
              case rel => exact ⟨j + 1, false, by omega, by go_num, rfl, HX2.out.symm⟩
              case measure => simp [intOf]; omega
          · have hle3 : (c.length : Int) ≤ j := by omega
            have HX := Lib.hid (show b3 = badC vars (cs.take (k + 1)) from by
              rw [HBJ.out, HBK.out, take_snoc _ k c HCK.out, show c.take j = c from List.take_of_length_le (by omega)]
              unfold badC
              rw [List.any_append]
              simp [Bool.or_assoc])
            go_wp2
            go_round
            case rel => exact ⟨k + 1, b3, by omega, by go_num, rfl, HX.out, HN.out⟩
            case measure => simp [intOf]; omega
    · have hle2 : (cs.length : Int) ≤ k := by omega
      have hall : cs.take k = cs := List.take_of_length_le (by omega)
      have HB2 := Lib.hid (HBK.out.trans (by rw [hall]))
      have HN2 := Lib.hid (show ∀ c ∈ cs, c.length ≤ 2048 from by have := HNO.out; rw [hall] at this; exact this)
      clear hall
      cases b with
      | true =>
        have HV := Lib.hid (mayQ_bad2 HBG.out HN2.out HB2.out.symm)
        go_wp2
        go_ret
        exact ⟨ret_int HV.out.symm, HB.out⟩
      | false =>
        have HV := Lib.hid (mayQ_good2 HBG.out HN2.out HB2.out.symm)
        go_wp2
        go_ret
        exact ⟨ret_int HV.out.symm, HB.out⟩
end
end Go.Proofs.Ytlcbfahaapodmaa
