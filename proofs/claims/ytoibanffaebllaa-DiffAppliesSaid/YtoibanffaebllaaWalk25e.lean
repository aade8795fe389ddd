/-
  Layer 25: the statement DiffApplies, its walk: any edits, applied to any lock, give what the document says, or are refused where it says so. For every input. Own work.
-/
import Derived.Test.YtoibanffaebllaaRefAp25
import Derived.Test.YtoibanffaebllaaLightE25
import Derived.Test.YtoibanffaebllaaRefSame24
import Derived.Test.YtoibanffaebllaaWalk25a
namespace Go.Proofs.Ytoibanffaebllaa
set_option linter.unusedVariables false
set_option linter.unusedSimpArgs false
open Go.ChangeShapes Go.WideShapes Go.ChangeAt Go.RowKit
open Go.ChangeMaps (open_string shut_string)

theorem lightE_okP {e : Ed} (h : lightE e) : okP e.new := by
  obtain ⟨_, _, h3, h4⟩ := h
  exact ⟨by unfold okT; omega, by unfold okT; omega, by unfold okT; omega, by unfold okT; omega, by unfold okT; omega⟩
set_option maxRecDepth 100000 in
set_option maxHeartbeats 8000000 in
theorem walk_DiffApplies (ag aa au : ByteArray) (av : Value) (al : List Pn) (a1 : okR ag) (a2 : okR aa) (a3 : okR au) (a4 : ∀ p ∈ al, okK p) (w : World) (ard : RdN w av al) (v1 : Value) (l1 : List Ed) (ol1 : ∀ e ∈ l1, okEd e) (rd1 : RdE w v1 l1) :
    Calls Try.prog 4 #[lockV ag aa au av, v1] w fun e w' => e = .returned (.bool true) ∧ Below w.heap.size w w' := by
  obtain ⟨p1, q1, rfl⟩ := rd1.shape
  obtain ⟨pa, qa, rfl⟩ := ard.shape
  have HLV := Lib.hid lives_any
  have HE1 := Lib.hid (fun w' hr => LightE_any (.slice p1 l1.length q1) l1 ol1 w' hr)
  have HL := Lib.hid (fun w' hr => Light_any ag aa au a1 a2 a3 (.slice pa al.length qa) al a4 w' hr)
  unfold lockV at HL ⊢
  have hb0 : Below w.heap.size w (w.alloc (.cells #[.string ag, .string aa, .string au, .slice pa al.length qa] 26)) := (Below.refl w.heap.size w).alloc (Nat.le_refl _) _
  have hk : LkIn (w.alloc (.cells #[.string ag, .string aa, .string au, .slice pa al.length qa] 26)) w.heap.size ag aa au (.slice pa al.length qa) := LkIn.new w ag aa au _
  have HR1 := Lib.hid (rd1.below hb0 (Nat.le_refl _))
  have HRA := Lib.hid (ard.below hb0 (Nat.le_refl _))
  have HB0 := Lib.hid hb0
  clear rd1 ard hb0 a1 a2 a3 a4 ol1
  go_enter Try.func4, Try.ntmps4
  go_upto_region 1 with fail
  generalize w.alloc (.cells #[.string ag, .string aa, .string au, .slice pa al.length qa] 26) = w1 at hk HR1 HRA HB0 ⊢
  have HK := Lib.hid hk
  obtain ⟨x0, x1, x2, x3⟩ := hk
  go_wp2_with fail
  refine (HL.out _ HRA.out).mono ?_
  rintro e w2 ⟨bb, rfl, hl, hb⟩
  have HTA := Lib.hid hl
  have HB2 := Lib.hid hb
  clear hl hb x0 x1 x2 x3
  cases bb
  · go_wp2_with fail
    refine (HLV.out _).mono ?_
    rintro e wz ⟨rfl, hbz⟩
    have HZ := Lib.hid ((HB0.out.trans (HB2.out.mono HB0.out.size)).trans (hbz.mono (HB0.out.trans (HB2.out.mono HB0.out.size)).size))
    clear hbz
    go_wp2
    go_ret
    exact ⟨rfl, HZ.out⟩
  go_wp2_with fail
  refine (HE1.out _ (HR1.out.below HB2.out (Nat.le_refl _))).mono ?_
  rintro e w3 ⟨bb, rfl, hl, hb⟩
  have HT1 := Lib.hid hl
  have HB3 := Lib.hid (HB2.out.trans (hb.mono HB2.out.size))
  clear hl hb
  cases bb
  · go_wp2_with fail
    refine (HLV.out _).mono ?_
    rintro e wz ⟨rfl, hbz⟩
    have HZ := Lib.hid ((HB0.out.trans (HB3.out.mono HB0.out.size)).trans (hbz.mono (HB0.out.trans (HB3.out.mono HB0.out.size)).size))
    clear hbz
    go_wp2
    go_ret
    exact ⟨rfl, HZ.out⟩
  obtain ⟨k1, e1⟩ := HT1.out (by simp)
  obtain ⟨g1, g2, g3, g4, g5⟩ := light_okT (HTA.out (by simp))
  have hn1 := fun e he => lightE_okP (e1 e he)
  have hap := fun w' r1 r2 => Apply_any ag aa au g1 g2 g3 (.slice pa al.length qa) (.slice p1 l1.length q1) al l1 g4 hn1 (by omega) (by omega) w' r1 r2
  have hrp := fun w' r1 r2 => refApply_any ag aa au g1 g2 g3 (.slice pa al.length qa) (.slice p1 l1.length q1) al l1 g4 hn1 (by omega) (by omega) w' r1 r2
  have hL1 := apply_len al l1
  generalize apply al l1 = AP at hap hrp hL1
  generalize applyOk ag aa au al l1 = OK at hap hrp
  have hsm := fun v v' w' r r' => refSame_any ag aa au ag aa au v v' AP AP (by omega) (by omega) w' r r'
  have hs0 := fun w' => refSame_any ⟨#[]⟩ ⟨#[]⟩ ⟨#[]⟩ ⟨#[]⟩ ⟨#[]⟩ ⟨#[]⟩ (.slice none 0 0) (.slice none 0 0) [] [] (by simp) (by simp) w' (.inl ⟨rfl, rfl⟩) (.inl ⟨rfl, rfl⟩)
  rw [sameLk_self] at hsm
  simp only [sameLk_self] at hs0
  unfold lockV at hap hrp hsm hs0
  have HAP := Lib.hid hap
  have HRP := Lib.hid hrp
  have HSM := Lib.hid hsm
  have HS0 := Lib.hid hs0
  clear hap hrp hsm hs0 hL1 hn1 e1 k1 g1 g2 g3 g4 g5 HT1 HTA HE1 HL
  obtain ⟨x0, x1, x2, x3⟩ := HK.out.below HB3.out (Nat.le_refl _)
  go_wp2_with fail
  refine (HAP.out _ (HRA.out.below HB3.out (Nat.le_refl _)) (HR1.out.below HB3.out (Nat.le_refl _))).mono ?_
  rintro e w4 (⟨rfl, pvb, rfl, hr, hb⟩ | ⟨rfl, rfl, hb⟩)
  · have HB4 := Lib.hid (HB3.out.trans (hb.mono HB3.out.size))
    obtain ⟨vb, cb, rfl⟩ := hr.shape
    clear hb x0 x1 x2 x3
    have hnew := LkIn.new w4 ag aa au (.slice vb AP.length cb)
    have hal : Below w4.heap.size w4 (w4.alloc (.cells #[.string ag, .string aa, .string au, .slice vb AP.length cb] 26)) := (Below.refl _ _).alloc (Nat.le_refl _) _
    have HY4 := Lib.hid (HB4.out.trans (hal.mono HB4.out.size))
    have HSB4 := Lib.hid hal
    have HQ4 := Lib.hid (hr.below hal (Nat.le_refl _))
    clear hal
    try unfold lockV
    go_upto_region 4 with fail
    generalize w4.alloc (.cells #[.string ag, .string aa, .string au, .slice vb AP.length cb] 26) = y4 at hnew HY4 HSB4 HQ4 ⊢
    generalize w4.heap.size = X4 at hnew ⊢
    have HX4 := Lib.hid hnew
    clear hnew
    clear hr
    obtain ⟨x0, x1, x2, x3⟩ := HK.out.below HY4.out (Nat.le_refl _)
    go_wp2_with fail
    refine (HRP.out _ (HRA.out.below HY4.out (Nat.le_refl _)) (HR1.out.below HY4.out (Nat.le_refl _))).mono ?_
    rintro e w5 (⟨_, pvd, rfl, hr, hb⟩ | ⟨ha, _⟩)
    case inr => cases ha
    have HB5 := Lib.hid (HY4.out.trans (hb.mono HY4.out.size))
    obtain ⟨vd, cd, rfl⟩ := hr.shape
    have HQ4b := Lib.hid (HQ4.out.below hb (Nat.le_refl _))
    have HX4b := Lib.hid (HX4.out.below hb (Nat.le_refl _))
    clear hb x0 x1 x2 x3
    have hnew := LkIn.new w5 ag aa au (.slice vd AP.length cd)
    have hal : Below w5.heap.size w5 (w5.alloc (.cells #[.string ag, .string aa, .string au, .slice vd AP.length cd] 26)) := (Below.refl _ _).alloc (Nat.le_refl _) _
    have HY5 := Lib.hid (HB5.out.trans (hal.mono HB5.out.size))
    have HSB5 := Lib.hid hal
    have HQ5 := Lib.hid (hr.below hal (Nat.le_refl _))
    clear hal
    try unfold lockV
    go_upto_region 5 with fail
    generalize w5.alloc (.cells #[.string ag, .string aa, .string au, .slice vd AP.length cd] 26) = y5 at hnew HY5 HSB5 HQ5 ⊢
    generalize w5.heap.size = X5 at hnew ⊢
    have HX5 := Lib.hid hnew
    clear hnew
    clear hr
    obtain ⟨x0, x1, x2, x3⟩ := HX4b.out.below HSB5.out (Nat.le_refl _)
    obtain ⟨y0, y1, y2, y3⟩ := HX5.out
    go_wp2_with fail
    refine (HSM.out _ _ _ (HQ4b.out.below HSB5.out (Nat.le_refl _)) HQ5.out).mono ?_
    rintro e w6 ⟨rfl, hb⟩
    have HB6 := Lib.hid (HY5.out.trans (hb.mono HY5.out.size))
    clear hb x0 x1 x2 x3 y0 y1 y2 y3
    go_wp2_with fail
    refine (HLV.out _).mono ?_
    rintro e wz ⟨rfl, hbz⟩
    have HZ := Lib.hid ((HB0.out.trans (HB6.out.mono HB0.out.size)).trans (hbz.mono (HB0.out.trans (HB6.out.mono HB0.out.size)).size))
    clear hbz
    go_wp2
    go_ret
    exact ⟨rfl, HZ.out⟩
  · have HB4 := Lib.hid (HB3.out.trans (hb.mono HB3.out.size))
    clear hb x0 x1 x2 x3
    have hnew := LkIn.new w4 ⟨#[]⟩ ⟨#[]⟩ ⟨#[]⟩ (.slice none 0 0)
    have hal : Below w4.heap.size w4 (w4.alloc (.cells #[.string ⟨#[]⟩, .string ⟨#[]⟩, .string ⟨#[]⟩, .slice none 0 0] 26)) := (Below.refl _ _).alloc (Nat.le_refl _) _
    have HY4 := Lib.hid (HB4.out.trans (hal.mono HB4.out.size))
    have HSB4 := Lib.hid hal
    clear hal
    try unfold lockV
    go_upto_region 4 with fail
    generalize w4.alloc (.cells #[.string ⟨#[]⟩, .string ⟨#[]⟩, .string ⟨#[]⟩, .slice none 0 0] 26) = y4 at hnew HY4 HSB4 ⊢
    generalize w4.heap.size = X4 at hnew ⊢
    have HX4 := Lib.hid hnew
    clear hnew
    obtain ⟨x0, x1, x2, x3⟩ := HK.out.below HY4.out (Nat.le_refl _)
    go_wp2_with fail
    refine (HRP.out _ (HRA.out.below HY4.out (Nat.le_refl _)) (HR1.out.below HY4.out (Nat.le_refl _))).mono ?_
    rintro e w5 (⟨ha, _⟩ | ⟨_, rfl, hb⟩)
    case inl => cases ha
    have HB5 := Lib.hid (HY4.out.trans (hb.mono HY4.out.size))
    have HX4b := Lib.hid (HX4.out.below hb (Nat.le_refl _))
    clear hb x0 x1 x2 x3
    have hnew := LkIn.new w5 ⟨#[]⟩ ⟨#[]⟩ ⟨#[]⟩ (.slice none 0 0)
    have hal : Below w5.heap.size w5 (w5.alloc (.cells #[.string ⟨#[]⟩, .string ⟨#[]⟩, .string ⟨#[]⟩, .slice none 0 0] 26)) := (Below.refl _ _).alloc (Nat.le_refl _) _
    have HY5 := Lib.hid (HB5.out.trans (hal.mono HB5.out.size))
    have HSB5 := Lib.hid hal
    clear hal
    try unfold lockV
    go_upto_region 5 with fail
    generalize w5.alloc (.cells #[.string ⟨#[]⟩, .string ⟨#[]⟩, .string ⟨#[]⟩, .slice none 0 0] 26) = y5 at hnew HY5 HSB5 ⊢
    generalize w5.heap.size = X5 at hnew ⊢
    have HX5 := Lib.hid hnew
    clear hnew
    obtain ⟨x0, x1, x2, x3⟩ := HX4b.out.below HSB5.out (Nat.le_refl _)
    obtain ⟨y0, y1, y2, y3⟩ := HX5.out
    go_wp2_with fail
    refine (HS0.out _).mono ?_
    rintro e w6 ⟨rfl, hb⟩
    have HB6 := Lib.hid (HY5.out.trans (hb.mono HY5.out.size))
    clear hb x0 x1 x2 x3 y0 y1 y2 y3
    go_wp2_with fail
    refine (HLV.out _).mono ?_
    rintro e wz ⟨rfl, hbz⟩
    have HZ := Lib.hid ((HB0.out.trans (HB6.out.mono HB0.out.size)).trans (hbz.mono (HB0.out.trans (HB6.out.mono HB0.out.size)).size))
    clear hbz
    go_wp2
    go_ret
    exact ⟨rfl, HZ.out⟩
end Go.Proofs.Ytoibanffaebllaa
