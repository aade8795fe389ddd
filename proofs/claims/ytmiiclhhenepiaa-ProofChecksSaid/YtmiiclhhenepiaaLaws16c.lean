/-
  Layer 16: the statement ProofChecks: whether any clauses are a proof, or where they are none. For every input. Own work.
-/
import Derived.Test.YtmiiclhhenepiaaOq16
import Derived.Deep.Grids
import Derived.ChangeSlices
namespace Go.Proofs.Ytmiiclhhenepiaa
set_option linter.unusedVariables false
set_option linter.unusedSimpArgs false
open Go.ChangeShapes Go.WideShapes Go.ChangeAt Go.RowKit

set_option maxRecDepth 100000 in
set_option maxHeartbeats 4000000 in
theorem walk_ProofChecks (v0 : Value) (cs : List (List Int)) (f0 : Fit64 cs) (v1 : Value) (ps : List (List Int)) (f1 : Fit64 ps) (W : World) (g0 : Reads2 W v0 cs) (g1 : Reads2 W v1 ps) :
    Calls Try.prog 5 #[v0, v1] W fun e W' => e = .returned (.bool true) ∧ Below W.heap.size W W' := by
  have HG0 := Lib.hid g0
  have HG1 := Lib.hid g1
  have HLT := Lib.hid (Light_any v0 cs W g0)
  have HMD := Lib.hid (mild_any v0 cs W g0 f0)
  have HLP := Lib.hid (Light_any v1 ps W g1)
  have HMP := Lib.hid (mild_any v1 ps W g1 f1)
  have HLV := Lib.hid lives_any
  obtain ⟨a1, c1, rfl, hl1, _⟩ := g1
  have hl1I : (ps.length : Int) ≤ 9223372036854775807 := by omega
  obtain ⟨a0, c0, rfl, hl0, _⟩ := g0
  have hl0I : (cs.length : Int) ≤ 9223372036854775807 := by omega
  clear hl0 hl1
  go_enter Try.func5, Try.ntmps5
  go_wp2_with fail
  refine HLT.out.mono ?_
  rintro e wX ⟨rfl, hwX⟩
  obtain rfl : W = wX := hwX.symm
  clear HLT
  cases hL : lightB cs with
  | false =>
    go_wp2_with fail
    refine (HLV.out _).mono ?_
    rintro e wE ⟨rfl, hbE⟩
    go_wp2
    go_ret
    exact ⟨rfl, then16 (Below.refl _ _) hbE⟩
  | true =>
    go_wp2_with fail
    refine HLP.out.mono ?_
    rintro e wX ⟨rfl, hwX⟩
    obtain rfl : W = wX := hwX.symm
    clear HLP
    cases hP : lightB ps with
    | false =>
      go_wp2_with fail
      refine (HLV.out _).mono ?_
      rintro e wE ⟨rfl, hbE⟩
      go_wp2
      go_ret
      exact ⟨rfl, then16 (Below.refl _ _) hbE⟩
    | true =>
      by_cases h40 : 40 < ps.length
      · have h40I : (40 : Int) < (ps.length : Int) := by omega
        go_wp2_with fail
        refine (HLV.out _).mono ?_
        rintro e wE ⟨rfl, hbE⟩
        go_wp2
        go_ret
        exact ⟨rfl, then16 (Below.refl _ _) hbE⟩
      · have h40I : ¬ (40 : Int) < (ps.length : Int) := by omega
        go_wp2_with fail
        refine HMD.out.mono ?_
        rintro e wX ⟨rfl, hwX⟩
        obtain rfl : W = wX := hwX.symm
        clear HMD
        cases hM : mildB cs with
        | false =>
          go_wp2_with fail
          refine (HLV.out _).mono ?_
          rintro e wE ⟨rfl, hbE⟩
          go_wp2
          go_ret
          exact ⟨rfl, then16 (Below.refl _ _) hbE⟩
        | true =>
          go_wp2_with fail
          refine HMP.out.mono ?_
          rintro e wX ⟨rfl, hwX⟩
          obtain rfl : W = wX := hwX.symm
          clear HMP
          cases hM2 : mildB ps with
          | false =>
            go_wp2_with fail
            refine (HLV.out _).mono ?_
            rintro e wE ⟨rfl, hbE⟩
            go_wp2
            go_ret
            exact ⟨rfl, then16 (Below.refl _ _) hbE⟩
          | true =>
            obtain ⟨hlc, hlr⟩ := light_of hL
            obtain ⟨hpc, hpr⟩ := light_of hP
            have hm0 := mild_of f0 hM
            have hm1 := mild_of f1 hM2
            have HF := Lib.hid (Check_any 0 _ _ cs ps W HG0.out f0 (by omega) hlr HG1.out f1 (by omega) hpr)
            go_wp2_with fail
            refine HF.out.mono ?_
            rintro e w3 ⟨⟨z, rfl, hz⟩, hb3⟩
            have HB3 := Lib.hid hb3
            have HZ := Lib.hid hz
            have HRF := Lib.hid (RCheck_any _ _ cs ps w3 (HG0.out.then16 hb3) hm0 (by omega) hlr (HG1.out.then16 hb3) hm1 (by omega) hpr)
            clear hb3 HF hz
            go_wp2_with fail
            refine HRF.out.mono ?_
            rintro e w4 ⟨⟨z', rfl, hz'⟩, hb4⟩
            obtain rfl : z = z' := HZ.out.uniq hz'
            have HB4 := Lib.hid (then16 HB3.out hb4)
            clear HRF HZ hz' hb4
            go_wp2_with fail
            refine (HLV.out _).mono ?_
            rintro e wE ⟨rfl, hbE⟩
            go_wp2
            go_ret
            exact ⟨rfl, then16 (HB4.out) hbE⟩

set_option maxRecDepth 100000 in
theorem lifted_ProofChecks (os : Os) (started : os.Started) (H : Type) (enc : TypeId × Value → H) :
    ReturnsInHanded {} Try.checked os 5 .any (Rows.proofChecksSpec.pre6 enc Try.prog Try.f5 Rows.proofChecksRow.domain false) (Rows.proofChecksSpec.post enc Try.prog Try.f5 false true false false) := by
  refine returnsInHanded_of_change (C := Try.checked) own_knob started (by kernel_rfl) Try.func5
    (ChangeSpec.witness6 (enc := enc) (C := Try.checked) false ⟨#[], #[.slice none 0 0, .slice none 0 0], []⟩ 8 (by kernel_rfl) (by kernel_rfl) (by kernel_rfl) (by kernel_rfl)) ?_
  intro W base args ds gs before hval0 hW _ _
  have hval : ∀ (j : Nat) t v, Try.f5.params[j]? = some t → args[j]? = some v → Value.okWide Try.prog W .any base t v := hval0
  have hW' := hW
  obtain ⟨p, q, hA0, hV, rfl, _, _⟩ := hW
  have hA : DataW.TrodAll enc Try.prog W 0 (fun _ => true) true Try.f5.params.toList args.toList ds p := hA0
  rw [Try.params5] at hA hval
  obtain ⟨v0, vs0, d0, ds0, p0, q0, hargs, rfl, rfl, h0, r0⟩ := trodAll_cons hA
  obtain ⟨v1, vs1, d1, ds1, p1, q1, rfl, rfl, rfl, h1, r1⟩ := trodAll_cons r0
  obtain ⟨rfl, rfl, rfl⟩ := trodAll_nil r1
  obtain rfl : args = #[v0, v1] := by cases args; simp_all
  obtain ⟨rfl, rfl⟩ := trodVars_none hV
  obtain ⟨l0, g0, w0⟩ := open_cs (hval 0 22 v0 rfl rfl) h0
  obtain ⟨l1, g1, w1⟩ := open_cs (hval 1 22 v1 rfl rfl) h1
  clear hA0 hval0
  refine (walk_ProofChecks v0 l0 w0 v1 l1 w1 W g0 g1).mono fun e W' ⟨he, hb⟩ => ?_
  subst he
  exact ⟨_, rfl, law_post (by kernel_rfl) rfl rfl rfl hW' hb⟩

/-- the statement of ProofChecks -/
theorem proved_ProofChecks : Rows.ProofChecksSaid :=
  OpenClaim.holds_of_wide 5 Try.f5 rfl rfl rfl rfl rfl rfl rfl ⟨rfl, rfl, rfl, rfl, rfl⟩ rfl rfl rfl rfl rfl (by kernel_rfl) Try.func5 (by kernel_rfl)
    (of_decide_eq_true (by kernel_rfl)) (by unfold Func.isWrapper; first | (rw [if_pos (by decide +kernel)]; kernel_rfl) | (rw [if_neg (by decide +kernel)]; exact ⟨rfl, rfl⟩))
    (fun os started H enc _ => lifted_ProofChecks os started H enc)

end Go.Proofs.Ytmiiclhhenepiaa
