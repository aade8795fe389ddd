/-
  Layer 16: the statement ProofRight: whether any answer is right for any question. For every input. Own work.
-/
import Derived.Test.YtmiiclhhenepiaaRg16
import Derived.Deep.Grids
import Derived.ChangeSlices
namespace Go.Proofs.Ytmiiclhhenepiaa
set_option linter.unusedVariables false
set_option linter.unusedSimpArgs false
open Go.ChangeShapes Go.WideShapes Go.ChangeAt Go.RowKit

set_option maxRecDepth 100000 in
set_option maxHeartbeats 4000000 in
theorem walk_ProofRight (vars : Int) (cv : Value) (cs : List (List Int)) (f0 : Fit64 cs) (en : Int) (tv pv : Value) (cf : Int) (ts : List Bool) (ps : List (List Int)) (f1 : Fit64 ps) (W : World) (g0 : Reads2 W cv cs) (g1 : Reads W bV tv ts) (g2 : Reads2 W pv ps) :
    Calls Try.prog 8 #[.agg #[.int .i64 vars, cv], .agg #[.int .i64 en, tv, pv, .int .i64 cf]] W fun e W' => e = .returned (.bool true) ∧ Below W.heap.size W W' := by
  have HC := Lib.hid g0
  have HT := Lib.hid g1
  have HP := Lib.hid g2
  have HLV := Lib.hid lives_any
  obtain ⟨a, cp, rfl, hlen, _⟩ := g0
  obtain ⟨ta, tc, rfl, htlen, _⟩ := reads_shape g1
  obtain ⟨pa, pc, rfl, hplen, _⟩ := g2
  obtain ⟨T, hT⟩ : ∃ T, T = ts.length := ⟨_, rfl⟩
  obtain ⟨L, hL⟩ : ∃ L, L = ps.length := ⟨_, rfl⟩
  have hTI : (T : Int) ≤ 9223372036854775807 := by omega
  have hLI : (L : Int) ≤ 9223372036854775807 := by omega
  have HRR := Lib.hid (show RightR vars cs en ts ps ↔ ((en = 1 ∧ (T : Int) = vars ∧ L = 0 ∧ holdsI cs ts = -1) ∨ (en = 2 ∧ T = 0 ∧ CheckR cs ps (-1)) ∨ (en = 3 ∧ T = 0 ∧ L = 0)) by unfold RightR; rw [hT, hL])
  rw [← hT] at HT ⊢
  rw [← hL] at HP ⊢
  have HQ := Lib.hid (QA.new W vars (.slice a cs.length cp) en (.slice ta T tc) (.slice pa L pc) cf)
  have HLe := Lib.hid hL
  have HTe := Lib.hid hT
  clear g1 hlen htlen hplen hT hL
  go_enter Try.func8, Try.ntmps8
  go_upto_region 1 with fail
  generalize (W.alloc (.cells #[.int .i64 vars, .slice a cs.length cp] 28)).alloc (.cells #[.int .i64 en, .slice ta T tc, .slice pa L pc, .int .i64 cf] 40) = w2 at HQ ⊢
  obtain ⟨Q0, hQ0⟩ : ∃ Q0, Q0 = W.heap.size := ⟨_, rfl⟩
  rw [← hQ0] at HQ ⊢
  clear hQ0
  obtain ⟨q0, q1, a0, a1, a2, a3, hb2⟩ := HQ.out
  have HBB := Lib.hid hb2
  clear hb2
  have HC2 := Lib.hid (HC.out.then16 HBB.out)
  have HT2 := Lib.hid (HT.out.below HBB.out (Nat.le_refl _))
  have HP2 := Lib.hid (HP.out.then16 HBB.out)
  have HLT := Lib.hid (Light_any _ cs w2 HC2.out)
  have HLP := Lib.hid (Light_any _ ps w2 HP2.out)
  have HMD := Lib.hid (mild_any _ cs w2 HC2.out f0)
  have HMP := Lib.hid (mild_any _ ps w2 HP2.out f1)
  go_wp2_with fail
  refine HLT.out.mono ?_
  rintro e wX ⟨rfl, hwX⟩
  obtain rfl : w2 = wX := hwX.symm
  clear HLT
  cases hLc : lightB cs with
  | false =>
    go_wp2_with fail
    refine (HLV.out _).mono ?_
    rintro e wE ⟨rfl, hbE⟩
    go_wp2
    go_ret
    exact ⟨rfl, then16 (HBB.out) hbE⟩
  | true =>
    go_wp2_with fail
    refine HLP.out.mono ?_
    rintro e wX ⟨rfl, hwX⟩
    obtain rfl : w2 = wX := hwX.symm
    clear HLP
    cases hLp : lightB ps with
    | false =>
      go_wp2_with fail
      refine (HLV.out _).mono ?_
      rintro e wE ⟨rfl, hbE⟩
      go_wp2
      go_ret
      exact ⟨rfl, then16 (HBB.out) hbE⟩
    | true =>
      by_cases h40 : 40 < L
      · have h40I : (40 : Int) < (L : Int) := by omega
        go_wp2_with fail
        refine (HLV.out _).mono ?_
        rintro e wE ⟨rfl, hbE⟩
        go_wp2
        go_ret
        exact ⟨rfl, then16 (HBB.out) hbE⟩
      · have h40I : ¬ (40 : Int) < (L : Int) := by omega
        by_cases h100 : 100 < T
        · have h100I : (100 : Int) < (T : Int) := by omega
          go_wp2_with fail
          refine (HLV.out _).mono ?_
          rintro e wE ⟨rfl, hbE⟩
          go_wp2
          go_ret
          exact ⟨rfl, then16 (HBB.out) hbE⟩
        · have h100I : ¬ (100 : Int) < (T : Int) := by omega
          go_wp2_with fail
          refine HMD.out.mono ?_
          rintro e wX ⟨rfl, hwX⟩
          obtain rfl : w2 = wX := hwX.symm
          clear HMD
          cases hMc : mildB cs with
          | false =>
            go_wp2_with fail
            refine (HLV.out _).mono ?_
            rintro e wE ⟨rfl, hbE⟩
            go_wp2
            go_ret
            exact ⟨rfl, then16 (HBB.out) hbE⟩
          | true =>
            go_wp2_with fail
            refine HMP.out.mono ?_
            rintro e wX ⟨rfl, hwX⟩
            obtain rfl : w2 = wX := hwX.symm
            clear HMP
            cases hMp : mildB ps with
            | false =>
              go_wp2_with fail
              refine (HLV.out _).mono ?_
              rintro e wE ⟨rfl, hbE⟩
              go_wp2
              go_ret
              exact ⟨rfl, then16 (HBB.out) hbE⟩
            | true =>
              obtain ⟨hlc, hlr⟩ := light_of hLc
              obtain ⟨hpc, hpr⟩ := light_of hLp
              go_upto_region 3 with fail
              go_step
              go_step
              go_step
              go_step
              go_step
              go_step
              go_step
              go_step
              go_cut [5] from 6 (fun bv wx => ∃ b, bv = .bool b ∧ (b = true ↔ RightR vars cs en ts ps) ∧ Below w2.heap.size w2 wx)
              case first =>
                by_cases h1 : en = 1
                · subst h1
                  by_cases hv : (T : Int) = vars
                  · by_cases hp0 : L = 0
                    · subst hp0
                      have HH := Lib.hid (RHolds_any _ _ cs ts w2 HC2.out HT2.out)
                      generalize holdsI cs ts = z at HH HRR
                      go_wp2_with fail
                      refine HH.out.mono ?_
                      rintro e wX ⟨rfl, hwX⟩
                      obtain rfl : w2 = wX := hwX.symm
                      clear HH
                      go_wp2_with fail
                      go_meet
                      refine ⟨_, rfl, ?_, Below.refl _ _⟩
                      constructor
                      · intro h
                        have hz : z = -1 := by simpa using h
                        exact HRR.out.2 (.inl ⟨by trivial, hv, by trivial, hz⟩)
                      · intro h
                        rcases HRR.out.1 h with h | h | h
                        · obtain ⟨k1, k2, k3, k4⟩ := h
                          simp [k4]
                        · obtain ⟨k1, k2, k3⟩ := h
                          omega
                        · obtain ⟨k1, k2, k3⟩ := h
                          omega
                    · have hp0I : ¬ (L : Int) = 0 := by omega
                      go_wp2_with fail
                      go_meet
                      refine ⟨_, rfl, ?_, Below.refl _ _⟩
                      constructor
                      · intro h
                        first | (cases h; done) | (simp at h; omega) | (simp at h)
                      · intro h
                        rcases HRR.out.1 h with h | h | h
                        · obtain ⟨k1, k2, k3, k4⟩ := h
                          omega
                        · obtain ⟨k1, k2, k3⟩ := h
                          omega
                        · obtain ⟨k1, k2, k3⟩ := h
                          omega
                  · have HRV := HRR
                    go_wp2_with fail
                    go_meet
                    refine ⟨_, rfl, ?_, Below.refl _ _⟩
                    constructor
                    · intro h
                      first | (cases h; done) | (simp at h; omega) | (simp at h)
                    · intro h
                      rcases HRR.out.1 h with h | h | h
                      · obtain ⟨k1, k2, k3, k4⟩ := h
                        omega
                      · obtain ⟨k1, k2, k3⟩ := h
                        omega
                      · obtain ⟨k1, k2, k3⟩ := h
                        omega
                · by_cases h2 : en = 2
                  · subst h2
                    by_cases ht0 : T = 0
                    · subst ht0
                      have HH := Lib.hid (RCheck_any _ _ cs ps w2 HC2.out (mild_of f0 hMc) (by omega) hlr HP2.out (mild_of f1 hMp) (by omega) hpr)
                      go_wp2_with fail
                      refine HH.out.mono ?_
                      rintro e w3 ⟨⟨z, rfl, hz⟩, hb3⟩
                      have HB3 := Lib.hid hb3
                      have HZ := Lib.hid hz
                      clear hb3 HH hz
                      go_wp2_with fail
                      go_meet
                      refine ⟨_, rfl, ?_, HB3.out⟩
                      constructor
                      · intro h
                        have hz : z = -1 := by simpa using h
                        refine HRR.out.2 (.inr (.inl ⟨by trivial, by trivial, ?_⟩))
                        rw [← hz]
                        exact HZ.out
                      · intro h
                        rcases HRR.out.1 h with h | h | h
                        · obtain ⟨k1, k2, k3, k4⟩ := h
                          omega
                        · obtain ⟨k1, k2, k3⟩ := h
                          have := HZ.out.uniq k3
                          simp [this]
                        · obtain ⟨k1, k2, k3⟩ := h
                          omega
                    · have ht0I : ¬ (T : Int) = 0 := by omega
                      go_wp2_with fail
                      go_meet
                      refine ⟨_, rfl, ?_, Below.refl _ _⟩
                      constructor
                      · intro h
                        first | (cases h; done) | (simp at h; omega) | (simp at h)
                      · intro h
                        rcases HRR.out.1 h with h | h | h
                        · obtain ⟨k1, k2, k3, k4⟩ := h
                          omega
                        · obtain ⟨k1, k2, k3⟩ := h
                          omega
                        · obtain ⟨k1, k2, k3⟩ := h
                          omega
                  · by_cases h3 : en = 3
                    · subst h3
                      by_cases ht0 : T = 0
                      · subst ht0
                        by_cases hp0 : L = 0
                        · subst hp0
                          go_wp2_with fail
                          go_meet
                          refine ⟨_, rfl, ?_, Below.refl _ _⟩
                          constructor
                          · intro _
                            exact HRR.out.2 (.inr (.inr ⟨by trivial, by trivial, by trivial⟩))
                          · intro _
                            rfl
                        · have hp0I : ¬ (L : Int) = 0 := by omega
                          go_wp2_with fail
                          go_meet
                          refine ⟨_, rfl, ?_, Below.refl _ _⟩
                          constructor
                          · intro h
                            first | (cases h; done) | (simp at h; omega) | (simp at h)
                          · intro h
                            rcases HRR.out.1 h with h | h | h
                            · obtain ⟨k1, k2, k3, k4⟩ := h
                              omega
                            · obtain ⟨k1, k2, k3⟩ := h
                              omega
                            · obtain ⟨k1, k2, k3⟩ := h
                              omega
                      · have ht0I : ¬ (T : Int) = 0 := by omega
                        go_wp2_with fail
                        go_meet
                        refine ⟨_, rfl, ?_, Below.refl _ _⟩
                        constructor
                        · intro h
                          first | (cases h; done) | (simp at h; omega) | (simp at h)
                        · intro h
                          rcases HRR.out.1 h with h | h | h
                          · obtain ⟨k1, k2, k3, k4⟩ := h
                            omega
                          · obtain ⟨k1, k2, k3⟩ := h
                            omega
                          · obtain ⟨k1, k2, k3⟩ := h
                            omega
                    · have HRV := HRR
                      go_wp2_with fail
                      go_meet
                      refine ⟨_, rfl, ?_, Below.refl _ _⟩
                      constructor
                      · intro h
                        first | (cases h; done) | (simp at h; omega) | (simp at h)
                      · intro h
                        rcases HRR.out.1 h with h | h | h
                        · obtain ⟨k1, k2, k3, k4⟩ := h
                          omega
                        · obtain ⟨k1, k2, k3⟩ := h
                          omega
                        · obtain ⟨k1, k2, k3⟩ := h
                          omega
              case rest =>
                obtain ⟨b', rfl, hb', hbw⟩ := hcut
                have HQ3 := Lib.hid (HQ.out.later hbw)
                obtain ⟨q0, q1, a0, a1, a2, a3, hb3⟩ := HQ3.out
                have HB3 := Lib.hid (show Below W.heap.size W wc from hb3)
                have HFB := Lib.hid hb'
                have HPR := Lib.hid (PRight_any vars en cf _ (.slice ta T tc) (.slice pa L pc) cs ps ts wc (HC.out.then16 HB3.out) f0 (mild_of f0 hMc) (by omega) hlr (HT.out.below HB3.out (Nat.le_refl _)) (HP.out.then16 HB3.out) f1 (by omega) hpr)
                clear hb' hbw hb3
                go_wp2_with fail
                refine HPR.out.mono ?_
                rintro e w4 ⟨⟨b, rfl, hb⟩, hb4⟩
                obtain rfl : b = b' := bool_same hb HFB.out
                have HB4 := Lib.hid (then16 HB3.out hb4)
                clear hb hb4 HPR HFB HRR
                cases b
                · go_wp2_with fail
                  refine (HLV.out _).mono ?_
                  rintro e wE ⟨rfl, hbE⟩
                  go_wp2
                  go_ret
                  exact ⟨rfl, then16 (HB4.out) hbE⟩
                · go_wp2_with fail
                  refine (HLV.out _).mono ?_
                  rintro e wE ⟨rfl, hbE⟩
                  go_wp2
                  go_ret
                  exact ⟨rfl, then16 (HB4.out) hbE⟩

set_option maxRecDepth 100000 in
theorem lifted_ProofRight (os : Os) (started : os.Started) (H : Type) (enc : TypeId × Value → H) :
    ReturnsInHanded {} Try.checked os 8 .any (Rows.proofRightSpec.pre6 enc Try.prog Try.f8 Rows.proofRightRow.domain false) (Rows.proofRightSpec.post enc Try.prog Try.f8 false true false false) := by
  refine returnsInHanded_of_change (C := Try.checked) own_knob started (by kernel_rfl) Try.func8
    (ChangeSpec.witness6 (enc := enc) (C := Try.checked) false ⟨#[], #[.agg #[.int .i64 0, .slice none 0 0], .agg #[.int .i64 0, .slice none 0 0, .slice none 0 0, .int .i64 0]], []⟩ 8 (by kernel_rfl) (by kernel_rfl) (by kernel_rfl) (by kernel_rfl)) ?_
  intro W base args ds gs before hval0 hW _ _
  have hval : ∀ (j : Nat) t v, Try.f8.params[j]? = some t → args[j]? = some v → Value.okWide Try.prog W .any base t v := hval0
  have hW' := hW
  obtain ⟨p, q, hA0, hV, rfl, _, _⟩ := hW
  have hA : DataW.TrodAll enc Try.prog W 0 (fun _ => true) true Try.f8.params.toList args.toList ds p := hA0
  rw [Try.params8] at hA hval
  obtain ⟨v0, vs0, d0, ds0, p0, q0, hargs, rfl, rfl, h0, r0⟩ := trodAll_cons hA
  obtain ⟨v1, vs1, d1, ds1, p1, q1, rfl, rfl, rfl, h1, r1⟩ := trodAll_cons r0
  obtain ⟨rfl, rfl, rfl⟩ := trodAll_nil r1
  obtain rfl : args = #[v0, v1] := by cases args; simp_all
  obtain ⟨rfl, rfl⟩ := trodVars_none hV
  obtain ⟨vars, cv, cs, rfl, k1, q1⟩ := open_q16 (hval 0 28 v0 rfl rfl) h0
  obtain ⟨en, tv, pv, cf, ts, ps, rfl, k2, k3, q3⟩ := open_a16 (hval 1 40 v1 rfl rfl) h1
  clear hA0 hval0
  refine (walk_ProofRight vars cv cs q1 en tv pv cf ts ps q3 W k1 k2 k3).mono fun e W' ⟨he, hb⟩ => ?_
  subst he
  exact ⟨_, rfl, law_post (by kernel_rfl) rfl rfl rfl hW' hb⟩

/-- the statement of ProofRight -/
theorem proved_ProofRight : Rows.ProofRightSaid :=
  OpenClaim.holds_of_wide 8 Try.f8 rfl rfl rfl rfl rfl rfl rfl ⟨rfl, rfl, rfl, rfl, rfl⟩ rfl rfl rfl rfl rfl (by kernel_rfl) Try.func8 (by kernel_rfl)
    (of_decide_eq_true (by kernel_rfl)) (by unfold Func.isWrapper; first | (rw [if_pos (by decide +kernel)]; kernel_rfl) | (rw [if_neg (by decide +kernel)]; exact ⟨rfl, rfl⟩))
    (fun os started H enc _ => lifted_ProofRight os started H enc)

end Go.Proofs.Ytmiiclhhenepiaa
