/-
  Layer 29: sat.May. Own work.
-/
import Derived.Test.YtlcbfahaapodmaaWo29
namespace Go.Proofs.Ytlcbfahaapodmaa
set_option linter.unusedVariables false
set_option linter.unusedSimpArgs false
open Go.RowKit

/-- v is a slice of slices that came in and reads as cs -/
def Reads2 (w : World) (v : Value) (cs : List (List Int)) : Prop :=
  ∃ a c, v = .slice a cs.length c ∧ cs.length ≤ 9223372036854775807 ∧ ∀ (j : Nat) d, cs[j]? = some d → ∃ b r, a = some b ∧ w.cell? (b.add j) = some r ∧ Reads w iV r d
theorem Reads2.kept {w w' : World} {v : Value} {cs : List (List Int)} (h : Reads2 w v cs) (hg : w.grownBy w' none) : Reads2 w' v cs := by
  obtain ⟨a, c, h1, h2, h3⟩ := h
  refine ⟨a, c, h1, h2, fun j d hj => ?_⟩
  obtain ⟨b, r, e, hr, hd⟩ := h3 j d hj
  refine ⟨b, r, e, hg.cell hr (by simp), ?_⟩
  rcases hd with hd | ⟨x, cp, e1, e2, e3, e4⟩
  · exact .inl hd
  · exact .inr ⟨x, cp, e1, e2, e3, fun j y hy => hg.cell (e4 j y hy) (by simp)⟩
def okL (vars : Int) (n : Int) : Bool := !(n == 0) && !decide (vars < n) && !decide (n < -vars)
/-- 0, 1 (ErrArg) or 2 (ErrBig) -/
def mayQ (vars : Int) (cs : List (List Int)) : Int :=
  if 1024 < vars ∨ 16384 < cs.length then 2 else if cs.any (fun c => decide (2048 < c.length)) then 2 else if vars < 0 then 1 else if cs.all (fun c => c.all fun n => okL vars n) then 0 else 1
section
variable {vars : Int} {cs : List (List Int)}
theorem mayQ_big (h : 1024 < vars ∨ 16384 < cs.length) : mayQ vars cs = 2 := by unfold mayQ; rw [if_pos h]
theorem mayQ_long {c : List Int} (hc : c ∈ cs) (h : 2048 < c.length) : mayQ vars cs = 2 := by
  unfold mayQ
  split
  · rfl
  · rw [if_pos (List.any_eq_true.2 ⟨c, hc, by simpa using h⟩)]
theorem short_any (h : ∀ c ∈ cs, c.length ≤ 2048) : ¬ (cs.any (fun c => decide (2048 < c.length)) = true) := by
  intro h1
  obtain ⟨c, hc, h2⟩ := List.any_eq_true.1 h1
  have := h c hc
  simp at h2
  omega
theorem mayQ_neg (h1 : ¬ (1024 < vars ∨ 16384 < cs.length)) (h2 : ∀ c ∈ cs, c.length ≤ 2048) (h : vars < 0) : mayQ vars cs = 1 := by
  unfold mayQ
  rw [if_neg h1, if_neg (short_any h2), if_pos h]
theorem mayQ_bad {c : List Int} {n : Int} (h1 : ¬ (1024 < vars ∨ 16384 < cs.length)) (h2 : ∀ c ∈ cs, c.length ≤ 2048) (hc : c ∈ cs) (hn : n ∈ c) (h : okL vars n = false) : mayQ vars cs = 1 := by
  unfold mayQ
  rw [if_neg h1, if_neg (short_any h2)]
  split
  · rfl
  · rw [if_neg]
    intro h3
    have := List.all_eq_true.1 (List.all_eq_true.1 h3 c hc) n hn
    rw [h] at this
    cases this
theorem mayQ_ok (h1 : ¬ (1024 < vars ∨ 16384 < cs.length)) (h2 : ∀ c ∈ cs, c.length ≤ 2048) (h3 : ¬ vars < 0) (h : ∀ c ∈ cs, ∀ n ∈ c, okL vars n = true) : mayQ vars cs = 0 := by
  unfold mayQ
  rw [if_neg h1, if_neg (short_any h2), if_neg h3, if_pos (List.all_eq_true.2 fun c hc => List.all_eq_true.2 fun n hn => h c hc n hn)]
end
set_option maxHeartbeats 4000000 in
set_option maxRecDepth 100000 in
theorem May29_any {vars : Int} {cs : List (List Int)} (cv : Value) (w : World) (hv : -9223372036854775808 ≤ vars ∧ vars ≤ 9223372036854775807) (hc : Reads2 w cv cs) :
    Calls Try.prog 16 #[.agg #[.int .i64 vars, cv]] w fun e w' => e = .returned (.int .i64 (mayQ vars cs)) ∧ w.grownBy w' none := by
  obtain ⟨a, cp, rfl, hlen, hrow⟩ := hc
  have hlI : (cs.length : Int) ≤ 9223372036854775807 := by omega
  have hg : w.grownBy (w.alloc (.cells #[.int .i64 vars, .slice a cs.length cp] 24)) none := World.grownBy_alloc _ _ _
  have hr : Reads2 (w.alloc (.cells #[.int .i64 vars, .slice a cs.length cp] 24)) (.slice a cs.length cp) cs := Reads2.kept ⟨a, cp, rfl, hlen, hrow⟩ hg
  obtain ⟨_, _, e0, _, hrow2⟩ := hr
  cases e0
  have HG := Lib.hid hg
  have HR := Lib.hid hrow2
  clear hg hrow hlen hrow2
  by_cases hb1 : 1024 < vars
  · have HV := Lib.hid (mayQ_big (cs := cs) (.inl hb1))
    go_enter Try.func16, Try.ntmps16
    go_wp2_with fail
    go_ret
    exact ⟨ret_int HV.out.symm, HG.out⟩
  by_cases hb2 : 16384 < cs.length
  · have HV := Lib.hid (mayQ_big (vars := vars) (.inr hb2))
    have hb2I : (16384 : Int) < (cs.length : Int) := by omega
    clear hb2
    go_enter Try.func16, Try.ntmps16
    go_wp2_with fail
    go_ret
    exact ⟨ret_int HV.out.symm, HG.out⟩
  have HB := Lib.hid (show ¬ (1024 < vars ∨ 16384 < cs.length) from fun h => h.elim hb1 hb2)
  have hb2I : ¬ (16384 : Int) < (cs.length : Int) := by omega
  have hb3I : (cs.length : Int) ≤ 16384 := by omega
  clear hb2
  generalize hW : w.alloc (.cells #[.int .i64 vars, .slice a cs.length cp] 24) = W at HG HR
  have hc0 : W.cell? ⟨w.heap.size, 0, none⟩ = some (.int .i64 vars) := by rw [← hW, cell_of_row _ _ 0 _ _ (0, 0) (heap_alloc_new w _)]; rfl
  have hc1 : W.cell? ⟨w.heap.size, 1, none⟩ = some (.slice a cs.length cp) := by rw [← hW, cell_of_row _ _ 1 _ _ (0, 0) (heap_alloc_new w _)]; rfl
  go_enter Try.func16, Try.ntmps16
  go_upto_region 1 with fail

  clear hW
  go_wp2_with fail
  go_loop [21] (fun i => ∃ k : Nat, k ≤ cs.length ∧ i = .int .i64 k ∧ ∀ c ∈ cs.take k, c.length ≤ 2048) (fun i => cs.length - (intOf i).toNat)
  case atStart => exact ⟨0, by omega, rfl, by simp⟩
  case round =>
    obtain ⟨k, hk, rfl, hno⟩ := hrel
    have HNO := Lib.hid hno
    clear hno
    by_cases hlt : k < cs.length
    · obtain ⟨c, hc⟩ : ∃ c, cs[k]? = some c := ⟨_, List.getElem?_eq_getElem hlt⟩
      obtain ⟨b, r, rfl, hrc, hrd⟩ := HR.out k c hc
      obtain ⟨ra, rc, rfl, hrl, _⟩ := reads_shape hrd
      have hkI : (k : Int) < (cs.length : Int) := by omega
      have HC := Lib.hid hc
      clear hrd hc
      by_cases hlg : 2048 < c.length
      · have hlgI : (2048 : Int) < (c.length : Int) := by omega
        have HV := Lib.hid (mayQ_long (vars := vars) (List.mem_of_getElem? HC.out) hlg)
        clear hlg
        go_wp2
        go_ret
        exact ⟨ret_int HV.out.symm, HG.out⟩
      · have hlgI : ¬ (2048 : Int) < (c.length : Int) := by omega
        have HN := Lib.hid (show ∀ c ∈ cs.take (k + 1), c.length ≤ 2048 from fun d hd => by
          rw [take_snoc _ k c HC.out] at hd
          rcases List.mem_append.1 hd with hd | hd
          · exact HNO.out d hd
          · rw [List.mem_singleton.1 hd]; omega)
        clear hlg
        go_wp2
        go_round
        case rel => exact ⟨k + 1, by omega, by go_num, HN.out⟩
        case measure => simp [intOf]; omega
    · have hle : (cs.length : Int) ≤ k := by omega
      have HSH := Lib.hid (show ∀ c ∈ cs, c.length ≤ 2048 from fun c hc => HNO.out c (by rw [List.take_of_length_le (by omega)]; exact hc))
      by_cases hneg : vars < 0
      · have HV := Lib.hid (mayQ_neg HB.out HSH.out hneg)
        go_wp2
        go_ret
        exact ⟨ret_int HV.out.symm, HG.out⟩
      have hnw : IntKind.i64.wrap (-vars) = -vars := IntWalk.i64_in _ ⟨by omega, by omega⟩
      go_wp2_with fail
      go_loop [35] (fun i => ∃ k : Nat, k ≤ cs.length ∧ i = .int .i64 k ∧ ∀ c ∈ cs.take k, ∀ n ∈ c, okL vars n = true) (fun i => cs.length - (intOf i).toNat)
      case atStart => exact ⟨0, by omega, rfl, by simp⟩
      case round =>
        obtain ⟨q, hq, rfl, hno⟩ := hrel
        have HNO2 := Lib.hid hno
        clear hno
        by_cases hlt2 : q < cs.length
        · obtain ⟨c, hc⟩ : ∃ c, cs[q]? = some c := ⟨_, List.getElem?_eq_getElem hlt2⟩
          obtain ⟨b, r, rfl, hrc, hrd⟩ := HR.out q c hc
          obtain ⟨ra, rc, rfl, hrl, hel⟩ := reads_shape hrd
          have hqI : (q : Int) < (cs.length : Int) := by omega
          have hclI : (c.length : Int) ≤ 9223372036854775807 := by omega
          have HC := Lib.hid hc
          have HE := Lib.hid hel
          clear hrd hc hel hrl
          go_wp2_with fail
          go_loop [41] (fun i => ∃ j : Nat, j ≤ c.length ∧ i = .int .i64 j ∧ ∀ n ∈ c.take j, okL vars n = true) (fun i => c.length - (intOf i).toNat)
          case atStart => exact ⟨0, by omega, rfl, by simp⟩
          case round =>
            obtain ⟨j, hj, rfl, hno⟩ := hrel
            have HNO3 := Lib.hid hno
            clear hno
            by_cases hlt3 : j < c.length
            · obtain ⟨n, hn⟩ : ∃ n, c[j]? = some n := ⟨_, List.getElem?_eq_getElem hlt3⟩
              obtain ⟨b2, rfl, hnc⟩ := HE.out j n hn
              have hnc' : W.cell? (b2.add j) = some (.int .i64 n) := hnc
              have hjI : (j : Int) < (c.length : Int) := by omega
              have HN := Lib.hid hn
              clear hn hnc
              have HBAD := Lib.hid (fun h : okL vars n = false => mayQ_bad HB.out HSH.out (List.mem_of_getElem? HC.out) (List.mem_of_getElem? HN.out) h)
              by_cases hz : n = 0
              · have HV := Lib.hid (HBAD.out (by simp [okL, hz]))
                have hzb : (n == 0) = true := by simp [hz]
                clear hz
                go_wp2
                go_ret
                exact ⟨ret_int HV.out.symm, HG.out⟩
              have hzb : (n == 0) = false := by simpa using hz
              by_cases hg1 : vars < n
              · have HV := Lib.hid (HBAD.out (by simp [okL, hg1]))
                clear hz
                go_wp2
                go_ret
                exact ⟨ret_int HV.out.symm, HG.out⟩
              by_cases hg2 : n < -vars
              · have HV := Lib.hid (HBAD.out (by simp [okL, hg2]))
                clear hz
                go_wp2
                go_ret
                exact ⟨ret_int HV.out.symm, HG.out⟩
              have HO := Lib.hid (show ∀ m ∈ c.take (j + 1), okL vars m = true from fun m hm => by
                rw [take_snoc _ j n HN.out] at hm
                rcases List.mem_append.1 hm with hm | hm
                · exact HNO3.out m hm
                · rw [List.mem_singleton.1 hm]; simp [okL, hz, hg1, hg2])
              clear hz
              go_wp2
              go_round
              case rel => exact ⟨j + 1, by omega, by go_num, HO.out⟩
              case measure => simp [intOf]; omega
            · have hle3 : (c.length : Int) ≤ j := by omega
              have HO := Lib.hid (show ∀ d ∈ cs.take (q + 1), ∀ n ∈ d, okL vars n = true from fun d hd => by
                rw [take_snoc _ q c HC.out] at hd
                rcases List.mem_append.1 hd with hd | hd
                · exact HNO2.out d hd
                · rw [List.mem_singleton.1 hd]
                  have := HNO3.out
                  rw [List.take_of_length_le (by omega)] at this
                  exact this)
              go_wp2
              go_round
              case rel => exact ⟨q + 1, by omega, by go_num, HO.out⟩
              case measure => simp [intOf]; omega
        · have hle2 : (cs.length : Int) ≤ q := by omega
          have HV := Lib.hid (mayQ_ok HB.out HSH.out (by omega) (fun c hc => HNO2.out c (by rw [List.take_of_length_le (by omega)]; exact hc)))
          go_wp2
          go_ret
          exact ⟨ret_int HV.out.symm, HG.out⟩
end Go.Proofs.Ytlcbfahaapodmaa
