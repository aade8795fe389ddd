/-
  Layer 16: the statement ProofFollows: whether any clause follows by units from any others. For every input. Own work.
-/
import Derived.Test.YtmiiclhhenepiaaOq16
import Derived.Deep.Grids
import Derived.ChangeSlices
namespace Go.Proofs.Ytmiiclhhenepiaa
set_option linter.unusedVariables false
set_option linter.unusedSimpArgs false
open Go.ChangeShapes Go.WideShapes Go.ChangeAt Go.RowKit

set_option maxRecDepth 100000 in
set_option maxHeartbeats 4000000 in
theorem walk_ProofFollows (v0 : Value) (cs : List (List Int)) (f0 : Fit64 cs) (v1 : Value) (c : List Int) (f1 : ∀ n ∈ c, -9223372036854775808 ≤ n ∧ n ≤ 9223372036854775807) (W : World) (g0 : Reads2 W v0 cs) (g1 : Reads W iV v1 c) :
    Calls Try.prog 4 #[v0, v1] W fun e W' => e = .returned (.bool true) ∧ Below W.heap.size W W' := by
  obtain ⟨a1, c1, rfl, hl1, _⟩ := reads_shape g1
  have hl1I : (c.length : Int) ≤ 9223372036854775807 := by omega
  have HG0 := Lib.hid g0
  have HG1 := Lib.hid g1
  have HLT := Lib.hid (Light_any v0 cs W g0)
  have HMD := Lib.hid (mild_any v0 cs W g0 f0)
  have HLV := Lib.hid lives_any
  clear g0 g1
  go_enter Try.func4, Try.ntmps4
  go_wp2_with fail
  refine HLT.out.mono ?_
  rintro e wX ⟨rfl, hwX⟩
  obtain rfl : W = wX := hwX.symm
  clear HLT
  cases hL : lightB cs with
  | false =>
    go_wp2_with fail
    refine (HLV.out _).mono ?_
    rintro e wE ⟨rfl, hbE⟩
    go_wp2
    go_ret
    exact ⟨rfl, then16 (Below.refl _ _) hbE⟩
  | true =>
    by_cases h20 : 20 < c.length
    · have h20I : (20 : Int) < (c.length : Int) := by omega
      go_wp2_with fail
      refine (HLV.out _).mono ?_
      rintro e wE ⟨rfl, hbE⟩
      go_wp2
      go_ret
      exact ⟨rfl, then16 (Below.refl _ _) hbE⟩
    · have h20I : ¬ (20 : Int) < (c.length : Int) := by omega
      go_wp2_with fail
      refine HMD.out.mono ?_
      rintro e wX ⟨rfl, hwX⟩
      obtain rfl : W = wX := hwX.symm
      clear HMD
      cases hM : mildB cs with
      | false =>
        go_wp2_with fail
        refine (HLV.out _).mono ?_
        rintro e wE ⟨rfl, hbE⟩
        go_wp2
        go_ret
        exact ⟨rfl, then16 (Below.refl _ _) hbE⟩
      | true =>
        have HBA := Lib.hid (show Below W.heap.size W (W.alloc (.cells #[.slice a1 c.length c1] 31)) from (Below.refl _ _).alloc (Nat.le_refl _) _)
        have HM2 := Lib.hid (mild_any _ [c] _ (one_row16 W (.slice a1 c.length c1) c HG1.out) (fit_one f1))
        go_wp2_with fail
        refine HM2.out.mono ?_
        rintro e wX ⟨rfl, hwX⟩
        subst hwX
        clear HM2
        cases hM2 : mildB [c] with
        | false =>
          go_wp2_with fail
          refine (HLV.out _).mono ?_
          rintro e wE ⟨rfl, hbE⟩
          go_wp2
          go_ret
          exact ⟨rfl, then16 (HBA.out) hbE⟩
        | true =>
          obtain ⟨hlc, hlr⟩ := light_of hL
          have hfl := flat_len16 cs hlr
          have hm0 := mild_of f0 hM
          have hm1 := mild_one (mild_of (fit_one f1) hM2)
          have HF := Lib.hid (Follows_any _ _ cs c _ (HG0.out.then16 HBA.out) f0 (by omega) hlr (HG1.out.below HBA.out (Nat.le_refl _)) f1 (by omega))
          go_wp2_with fail
          refine HF.out.mono ?_
          rintro e w3 ⟨⟨b, rfl, hb⟩, hb3⟩
          have HB3 := Lib.hid (then16 HBA.out hb3)
          have HRF := Lib.hid (RFollows_any _ _ cs c w3 (HG0.out.then16 HB3.out) hm0 (HG1.out.below HB3.out (Nat.le_refl _)) hm1 (by omega))
          have HFB := Lib.hid hb
          clear hb hb3 HF
          go_wp2_with fail
          refine HRF.out.mono ?_
          rintro e w4 ⟨⟨b', rfl, hb'⟩, hb4⟩
          obtain rfl : b = b' := bool_same HFB.out hb'
          have HB4 := Lib.hid (then16 HB3.out hb4)
          clear hb' hb4 HRF HFB
          cases b
          · go_wp2_with fail
            refine (HLV.out _).mono ?_
            rintro e wE ⟨rfl, hbE⟩
            go_wp2
            go_ret
            exact ⟨rfl, then16 (HB4.out) hbE⟩
          · go_wp2_with fail
            refine (HLV.out _).mono ?_
            rintro e wE ⟨rfl, hbE⟩
            go_wp2
            go_ret
            exact ⟨rfl, then16 (HB4.out) hbE⟩

set_option maxRecDepth 100000 in
theorem lifted_ProofFollows (os : Os) (started : os.Started) (H : Type) (enc : TypeId × Value → H) :
    ReturnsInHanded {} Try.checked os 4 .any (Rows.proofFollowsSpec.pre6 enc Try.prog Try.f4 Rows.proofFollowsRow.domain false) (Rows.proofFollowsSpec.post enc Try.prog Try.f4 false true false false) := by
  refine returnsInHanded_of_change (C := Try.checked) own_knob started (by kernel_rfl) Try.func4
    (ChangeSpec.witness6 (enc := enc) (C := Try.checked) false ⟨#[], #[.slice none 0 0, .slice none 0 0], []⟩ 8 (by kernel_rfl) (by kernel_rfl) (by kernel_rfl) (by kernel_rfl)) ?_
  intro W base args ds gs before hval0 hW _ _
  have hval : ∀ (j : Nat) t v, Try.f4.params[j]? = some t → args[j]? = some v → Value.okWide Try.prog W .any base t v := hval0
  have hW' := hW
  obtain ⟨p, q, hA0, hV, rfl, _, _⟩ := hW
  have hA : DataW.TrodAll enc Try.prog W 0 (fun _ => true) true Try.f4.params.toList args.toList ds p := hA0
  rw [Try.params4] at hA hval
  obtain ⟨v0, vs0, d0, ds0, p0, q0, hargs, rfl, rfl, h0, r0⟩ := trodAll_cons hA
  obtain ⟨v1, vs1, d1, ds1, p1, q1, rfl, rfl, rfl, h1, r1⟩ := trodAll_cons r0
  obtain ⟨rfl, rfl, rfl⟩ := trodAll_nil r1
  obtain rfl : args = #[v0, v1] := by cases args; simp_all
  obtain ⟨rfl, rfl⟩ := trodVars_none hV
  obtain ⟨l0, g0, w0⟩ := open_cs (hval 0 22 v0 rfl rfl) h0
  obtain ⟨l1, g1, w1⟩ := open_reads_ints (hval 1 31 v1 rfl rfl) h1
  clear hA0 hval0
  refine (walk_ProofFollows v0 l0 w0 v1 l1 w1 W g0 g1).mono fun e W' ⟨he, hb⟩ => ?_
  subst he
  exact ⟨_, rfl, law_post (by kernel_rfl) rfl rfl rfl hW' hb⟩

/-- the statement of ProofFollows -/
theorem proved_ProofFollows : Rows.ProofFollowsSaid :=
  OpenClaim.holds_of_wide 4 Try.f4 rfl rfl rfl rfl rfl rfl rfl ⟨rfl, rfl, rfl, rfl, rfl⟩ rfl rfl rfl rfl rfl (by kernel_rfl) Try.func4 (by kernel_rfl)
    (of_decide_eq_true (by kernel_rfl)) (by unfold Func.isWrapper; first | (rw [if_pos (by decide +kernel)]; kernel_rfl) | (rw [if_neg (by decide +kernel)]; exact ⟨rfl, rfl⟩))
    (fun os started H enc _ => lifted_ProofFollows os started H enc)

end Go.Proofs.Ytmiiclhhenepiaa
