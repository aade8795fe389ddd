/-
  Layer 16: the statement ProofSound: what follows by units is made true by any truths that make all clauses true. For every input. Own work.
-/
import Derived.Test.YtmiiclhhenepiaaSd16
import Derived.Deep.Grids
import Derived.ChangeSlices
namespace Go.Proofs.Ytmiiclhhenepiaa
set_option linter.unusedVariables false
set_option linter.unusedSimpArgs false
open Go.ChangeShapes Go.WideShapes Go.ChangeAt Go.RowKit

set_option maxRecDepth 100000 in
set_option maxHeartbeats 4000000 in
theorem walk_ProofSound (v0 : Value) (cs : List (List Int)) (f0 : Fit64 cs) (v1 : Value) (c : List Int) (f1 : ∀ n ∈ c, -9223372036854775808 ≤ n ∧ n ≤ 9223372036854775807) (v2 : Value) (ts : List Bool) (W : World) (g0 : Reads2 W v0 cs) (g1 : Reads W iV v1 c) (g2 : Reads W bV v2 ts) :
    Calls Try.prog 6 #[v0, v1, v2] W fun e W' => e = .returned (.bool true) ∧ Below W.heap.size W W' := by
  obtain ⟨a1, c1, rfl, hl1, _⟩ := reads_shape g1
  have hl1I : (c.length : Int) ≤ 9223372036854775807 := by omega
  obtain ⟨a2, c2, rfl, hl2, _⟩ := reads_shape g2
  have hl2I : (ts.length : Int) ≤ 9223372036854775807 := by omega
  have HG0 := Lib.hid g0
  have HG1 := Lib.hid g1
  have HG2 := Lib.hid g2
  have HLT := Lib.hid (Light_any v0 cs W g0)
  have HMD := Lib.hid (mild_any v0 cs W g0 f0)
  have HLV := Lib.hid lives_any
  obtain ⟨a0, c0, rfl, hl0, _⟩ := g0
  have hl0I : (cs.length : Int) ≤ 9223372036854775807 := by omega
  clear hl0 g1 g2
  go_enter Try.func6, Try.ntmps6
  go_wp2_with fail
  refine HLT.out.mono ?_
  rintro e wX ⟨rfl, hwX⟩
  obtain rfl : W = wX := hwX.symm
  clear HLT
  cases hL : lightB cs with
  | false =>
    go_wp2_with fail
    refine (HLV.out _).mono ?_
    rintro e wE ⟨rfl, hbE⟩
    go_wp2
    go_ret
    exact ⟨rfl, then16 (Below.refl _ _) hbE⟩
  | true =>
    by_cases h20 : 20 < c.length
    · have h20I : (20 : Int) < (c.length : Int) := by omega
      go_wp2_with fail
      refine (HLV.out _).mono ?_
      rintro e wE ⟨rfl, hbE⟩
      go_wp2
      go_ret
      exact ⟨rfl, then16 (Below.refl _ _) hbE⟩
    · have h20I : ¬ (20 : Int) < (c.length : Int) := by omega
      go_wp2_with fail
      refine HMD.out.mono ?_
      rintro e wX ⟨rfl, hwX⟩
      obtain rfl : W = wX := hwX.symm
      clear HMD
      cases hM : mildB cs with
      | false =>
        go_wp2_with fail
        refine (HLV.out _).mono ?_
        rintro e wE ⟨rfl, hbE⟩
        go_wp2
        go_ret
        exact ⟨rfl, then16 (Below.refl _ _) hbE⟩
      | true =>
        have HBA := Lib.hid (show Below W.heap.size W (W.alloc (.cells #[.slice a1 c.length c1] 31)) from (Below.refl _ _).alloc (Nat.le_refl _) _)
        have HM2 := Lib.hid (mild_any _ [c] _ (one_row16 W (.slice a1 c.length c1) c HG1.out) (fit_one f1))
        go_wp2_with fail
        refine HM2.out.mono ?_
        rintro e wX ⟨rfl, hwX⟩
        subst hwX
        clear HM2
        cases hM2 : mildB [c] with
        | false =>
          go_wp2_with fail
          refine (HLV.out _).mono ?_
          rintro e wE ⟨rfl, hbE⟩
          go_wp2
          go_ret
          exact ⟨rfl, then16 (HBA.out) hbE⟩
        | true =>
          by_cases h100 : 100 < ts.length
          · have h100I : (100 : Int) < (ts.length : Int) := by omega
            go_wp2_with fail
            refine (HLV.out _).mono ?_
            rintro e wE ⟨rfl, hbE⟩
            go_wp2
            go_ret
            exact ⟨rfl, then16 (HBA.out) hbE⟩
          · have h100I : ¬ (100 : Int) < (ts.length : Int) := by omega
            obtain ⟨hlc, hlr⟩ := light_of hL
            have hm0 := mild_of f0 hM
            have HM1 := Lib.hid (mild_of (fit_one f1) hM2)
            have HQA := Lib.hid (heap_alloc_new (W.alloc (.cells #[.slice a1 c.length c1] 31)) (.cells #[.int .i64 0, .slice a0 cs.length c0] 28))
            have HBB := Lib.hid (show Below W.heap.size W ((W.alloc (.cells #[.slice a1 c.length c1] 31)).alloc (.cells #[.int .i64 0, .slice a0 cs.length c0] 28)) from HBA.out.alloc HBA.out.size _)
            have hQs : (W.alloc (.cells #[.slice a1 c.length c1] 31)).heap.size = W.heap.size + 1 := by simp
            rw [hQs] at HQA
            clear hQs
            go_upto_region 4 with fail
            generalize (W.alloc (.cells #[.slice a1 c.length c1] 31)).alloc (.cells #[.int .i64 0, .slice a0 cs.length c0] 28) = wB at HQA HBB ⊢
            generalize W.heap.size + 1 = Q0 at HQA ⊢
            have HQ := Lib.hid (show ∀ w', Below wB.heap.size wB w' → w'.cell? ⟨Q0, 0, none⟩ = some (.int .i64 0) ∧ w'.cell? ⟨Q0, 1, none⟩ = some (.slice a0 cs.length c0) from fun w' hb => by
              have hg := (hb.block Q0 (Array.getElem?_eq_some_iff.1 HQA.out).1).trans HQA.out
              exact ⟨by rw [cell_of_row w' Q0 0 _ _ (0, 0) hg]; rfl, by rw [cell_of_row w' Q0 1 _ _ (0, 0) hg]; rfl⟩)
            have HPH := Lib.hid (PHolds_any 0 _ _ cs ts wB (HG0.out.then16 HBB.out) (HG2.out.below HBB.out (Nat.le_refl _)) hm0)
            obtain ⟨q0, q1⟩ := HQ.out wB (Below.refl _ _)
            clear HQA
            go_wp2_with fail
            refine HPH.out.mono ?_
            rintro e w3 ⟨rfl, hb3⟩
            have HB3 := Lib.hid hb3
            have HB3W := Lib.hid (then16 HBB.out hb3)
            clear hb3 q0 q1 HPH
            by_cases hz : 0 ≤ holdsI cs ts
            · generalize holdsI cs ts = z at hz ⊢
              go_wp2_with fail
              refine (HLV.out _).mono ?_
              rintro e wE ⟨rfl, hbE⟩
              go_wp2
              go_ret
              exact ⟨rfl, then16 (HB3W.out) hbE⟩
            · have HALL := Lib.hid (holds_neg16 (by omega : holdsI cs ts < 0))
              generalize holdsI cs ts = z at hz ⊢
              obtain ⟨q0, q1⟩ := HQ.out w3 HB3.out
              have HB4 := Lib.hid (show Below W.heap.size W (w3.alloc (.cells #[.slice none 0 0] 31)) from HB3W.out.alloc HB3W.out.size _)
              have HCK := Lib.hid (Check_any 0 _ _ cs [[]] _ (HG0.out.then16 HB4.out) f0 (by omega) hlr (one_row16 w3 (.slice none 0 0) [] (.inl ⟨rfl, rfl⟩)) (fit_one (fun n hn => by cases hn)) (by simp) (by simp))
              go_wp2_with fail
              refine HCK.out.mono ?_
              rintro e w5 ⟨⟨z', rfl, hz'⟩, hb5⟩
              have hzn := check_sound16 HALL.out hz'
              have HB5 := Lib.hid (then16 HB4.out hb5)
              clear hz' hb5 HCK q0 q1 HB4
              have HF := Lib.hid (Follows_any _ _ cs c w5 (HG0.out.then16 HB5.out) f0 (by omega) hlr (HG1.out.below HB5.out (Nat.le_refl _)) f1 (by omega))
              go_wp2_with fail
              refine HF.out.mono ?_
              rintro e w6 ⟨⟨b, rfl, hb⟩, hb6⟩
              have HB6 := Lib.hid (then16 HB5.out hb6)
              cases b with
              | false =>
                clear hb hb6 HF
                go_wp2_with fail
                refine (HLV.out _).mono ?_
                rintro e wE ⟨rfl, hbE⟩
                go_wp2
                go_ret
                exact ⟨rfl, then16 (HB6.out) hbE⟩
              | true =>
                have hc := fol_sound16 HALL.out (hb.1 rfl)
                have HPH2 := Lib.hid (PHolds_any 0 _ _ [c] ts _ (one_row16 w6 (.slice a1 c.length c1) c (HG1.out.below HB6.out (Nat.le_refl _))) (HG2.out.below (show Below W.heap.size W (w6.alloc (.cells #[.slice a1 c.length c1] 31)) from HB6.out.alloc HB6.out.size _) (Nat.le_refl _)) HM1.out)
                rw [holdsI_none (cs := [c]) (ts := ts) (fun d hd => by rw [List.mem_singleton.1 hd]; exact hc)] at HPH2
                have HB7 := Lib.hid (show Below W.heap.size W (w6.alloc (.cells #[.slice a1 c.length c1] 31)) from HB6.out.alloc HB6.out.size _)
                clear hb hb6 HF hc
                go_wp2_with fail
                refine HPH2.out.mono ?_
                rintro e w8 ⟨rfl, hb8⟩
                have HB8 := Lib.hid (then16 HB7.out hb8)
                clear hb8 HPH2
                go_wp2_with fail
                refine (HLV.out _).mono ?_
                rintro e wE ⟨rfl, hbE⟩
                go_wp2
                go_ret
                exact ⟨rfl, then16 (HB8.out) hbE⟩

set_option maxRecDepth 100000 in
theorem lifted_ProofSound (os : Os) (started : os.Started) (H : Type) (enc : TypeId × Value → H) :
    ReturnsInHanded {} Try.checked os 6 .any (Rows.proofSoundSpec.pre6 enc Try.prog Try.f6 Rows.proofSoundRow.domain false) (Rows.proofSoundSpec.post enc Try.prog Try.f6 false true false false) := by
  refine returnsInHanded_of_change (C := Try.checked) own_knob started (by kernel_rfl) Try.func6
    (ChangeSpec.witness6 (enc := enc) (C := Try.checked) false ⟨#[], #[.slice none 0 0, .slice none 0 0, .slice none 0 0], []⟩ 8 (by kernel_rfl) (by kernel_rfl) (by kernel_rfl) (by kernel_rfl)) ?_
  intro W base args ds gs before hval0 hW _ _
  have hval : ∀ (j : Nat) t v, Try.f6.params[j]? = some t → args[j]? = some v → Value.okWide Try.prog W .any base t v := hval0
  have hW' := hW
  obtain ⟨p, q, hA0, hV, rfl, _, _⟩ := hW
  have hA : DataW.TrodAll enc Try.prog W 0 (fun _ => true) true Try.f6.params.toList args.toList ds p := hA0
  rw [Try.params6] at hA hval
  obtain ⟨v0, vs0, d0, ds0, p0, q0, hargs, rfl, rfl, h0, r0⟩ := trodAll_cons hA
  obtain ⟨v1, vs1, d1, ds1, p1, q1, rfl, rfl, rfl, h1, r1⟩ := trodAll_cons r0
  obtain ⟨v2, vs2, d2, ds2, p2, q2, rfl, rfl, rfl, h2, r2⟩ := trodAll_cons r1
  obtain ⟨rfl, rfl, rfl⟩ := trodAll_nil r2
  obtain rfl : args = #[v0, v1, v2] := by cases args; simp_all
  obtain ⟨rfl, rfl⟩ := trodVars_none hV
  obtain ⟨l0, g0, w0⟩ := open_cs (hval 0 22 v0 rfl rfl) h0
  obtain ⟨l1, g1, w1⟩ := open_reads_ints (hval 1 31 v1 rfl rfl) h1
  obtain ⟨l2, g2⟩ := open_reads_bools (hval 2 23 v2 rfl rfl) h2
  clear hA0 hval0
  refine (walk_ProofSound v0 l0 w0 v1 l1 w1 v2 l2 W g0 g1 g2).mono fun e W' ⟨he, hb⟩ => ?_
  subst he
  exact ⟨_, rfl, law_post (by kernel_rfl) rfl rfl rfl hW' hb⟩

/-- the statement of ProofSound -/
theorem proved_ProofSound : Rows.ProofSoundSaid :=
  OpenClaim.holds_of_wide 6 Try.f6 rfl rfl rfl rfl rfl rfl rfl ⟨rfl, rfl, rfl, rfl, rfl⟩ rfl rfl rfl rfl rfl (by kernel_rfl) Try.func6 (by kernel_rfl)
    (of_decide_eq_true (by kernel_rfl)) (by unfold Func.isWrapper; first | (rw [if_pos (by decide +kernel)]; kernel_rfl) | (rw [if_neg (by decide +kernel)]; exact ⟨rfl, rfl⟩))
    (fun os started H enc _ => lifted_ProofSound os started H enc)

end Go.Proofs.Ytmiiclhhenepiaa
