/-
  Layer 25: the statement DiffBack, its walk: what is another one in two locks, applied to the first, makes the second; turned, applied to the second, the first; of a lock with itself there is nothing. For every input. Own work.
-/
import Derived.Test.YtoibanffaebllaaLives25
import Derived.Test.YtoibanffaebllaaApply25
import Derived.Test.YtoibanffaebllaaTurn25
import Derived.Test.YtoibanffaebllaaRefSame25
import Derived.Test.YtoibanffaebllaaRefSame24
import Derived.Test.YtoibanffaebllaaRefMay24
import Derived.Test.YtoibanffaebllaaLight24
namespace Go.Proofs.Ytoibanffaebllaa
set_option linter.unusedVariables false
set_option linter.unusedSimpArgs false
open Go.ChangeShapes Go.WideShapes Go.ChangeAt Go.RowKit
open Go.ChangeMaps (open_string shut_string)

theorem light_okT {g a v : ByteArray} {l : List Pn} (h : lightP g a v l) : okT g ∧ okT a ∧ okT v ∧ (∀ p ∈ l, okP p) ∧ l.length ≤ 40 := by
  obtain ⟨h1, h2, h3⟩ := h
  refine ⟨by unfold okT; omega, by unfold okT; omega, by unfold okT; omega, fun p hp => ?_, h1⟩
  have := h3 p hp
  exact ⟨by unfold okT; omega, by unfold okT; omega, by unfold okT; omega, by unfold okT; omega, by unfold okT; omega⟩
theorem may_root {g a v g' a' v' : ByteArray} {l m : List Pn} (h : mayLock g a v l = true) (h' : mayLock g' a' v' m = true) : mayLock g a v m = true := by
  unfold mayLock at *
  simp only [Bool.and_eq_true] at *
  exact ⟨⟨h.1.1, h'.1.2⟩, h'.2⟩
theorem okP_zP : okP zP := by unfold zP; exact ⟨by unfold okT; decide, by unfold okT; decide, by unfold okT; decide, by unfold okT; decide, by unfold okT; decide⟩
theorem edits_okP {A B : List Pn} (hA : PinsOk A) (hB : PinsOk B) (h : ∀ p ∈ B, okP p) : ∀ e ∈ edits A B, okP e.new := fun e he => by
  obtain ⟨_, _, _, _, h5⟩ := of_edits hA hB he
  rw [h5]
  cases hy : lk Pn.key e.key B with
  | none => exact okP_zP
  | some p => exact h p (lk_some hy).2
theorem sameLk_self (g a v : ByteArray) (l : List Pn) : sameLk g a v l g a v l = true := by
  have h1 : sameG g a v g a v = true := by unfold sameG; simp
  have h2 : sameL l l = true := sameL_yes rfl (fun i hi => by
    unfold sameAt
    rw [List.getElem?_eq_getElem hi]
    exact sameP_self _)
  unfold sameLk
  rw [h1, h2]; rfl
theorem applyOk_edits {g a v : ByteArray} {A B : List Pn} (h : mayLock g a v A = true) (h' : mayLock g a v B = true) : applyOk g a v A (edits A B) = true := by
  have hA := mayLock_ok h
  have hB := mayLock_ok h'
  unfold applyOk
  rw [h, edits_may hA hB, fits_edits hA hB, apply_edits hA hB, h']; rfl
theorem applyOk_nil {g a v : ByteArray} {A : List Pn} (h : mayLock g a v A = true) : applyOk g a v A [] = true := by
  have hA := mayLock_ok h
  have hm : mayEds [] = true := rfl
  unfold applyOk
  rw [h, hm, fits_nil hA, apply_nil hA, h]; rfl
theorem RdN.far4 {w : World} {v : Value} {l : List Pn} {R : Nat} {c c' : Array Value} {T : TypeId} (h : RdN w v l) (hR : w.heap[R]? = some (.cells c T (0, 0))) (hc : c.size ≤ 5) : RdN (w.setRow R c') v l := by
  rcases h with h | ⟨a, cap, h1, h2, h3, h5⟩
  · exact .inl h
  · refine .inr ⟨a, cap, h1, h2, h3, fun i p hp k u hu => ?_⟩
    have hab : ∀ j, (a.add j).block = a.block := fun j => by unfold Addr.add; split <;> rfl
    by_cases hne : a.block = R
    · exfalso
      have h6 := h5 i p hp 5 _ rfl
      have e1 : a.add (i * 6 + 5) = ⟨R, a.off + (i * 6 + 5), none⟩ := by
        unfold Addr.add
        split
        · omega
        · rw [hne]
      rw [e1, cell_of_row w R _ _ _ (0, 0) hR, Array.getElem?_eq_none (by omega)] at h6
      cases h6
    · exact (cell_setRow_other w R c' _ (by rw [hab]; exact hne)).trans (h5 i p hp k u hu)
/-- what the turned edits make, in a variable -/
def CutY (ag aa au : ByteArray) (al : List Pn) (w9 : World) (t8 t9 : Value) (wx : World) : Prop :=
  ∃ Y pv, t8 = .pointer (some ⟨Y, 0, none⟩) ∧ t9 = .int .i64 0 ∧ LkIn wx Y ag aa au pv ∧ RdN wx pv al ∧ Below w9.heap.size w9 wx
set_option maxRecDepth 100000 in
set_option maxHeartbeats 8000000 in
theorem walk_DiffBack (ag aa au : ByteArray) (av : Value) (al : List Pn) (a1 : okR ag) (a2 : okR aa) (a3 : okR au) (a4 : ∀ p ∈ al, okK p) (w : World) (ard : RdN w av al) (bg ba bu : ByteArray) (bv : Value) (bl : List Pn) (b1 : okR bg) (b2 : okR ba) (b3 : okR bu) (b4 : ∀ p ∈ bl, okK p) (brd : RdN w bv bl) :
    Calls Try.prog 5 #[lockV ag aa au av, lockV bg ba bu bv] w fun e w' => e = .returned (.bool true) ∧ Below w.heap.size w w' := by
  obtain ⟨pa1, pc1, rfl⟩ := ard.shape
  obtain ⟨pa2, pc2, rfl⟩ := brd.shape
  have HLV := Lib.hid lives_any
  have HL1 := Lib.hid (fun w' hr => Light_any ag aa au a1 a2 a3 (.slice pa1 al.length pc1) al a4 w' hr)
  have HL2 := Lib.hid (fun w' hr => Light_any bg ba bu b1 b2 b3 (.slice pa2 bl.length pc2) bl b4 w' hr)
  unfold lockV at HL1 HL2 ⊢
  have hb0 : Below w.heap.size w ((w.alloc (.cells #[.string ag, .string aa, .string au, .slice pa1 al.length pc1] 26)).alloc (.cells #[.string bg, .string ba, .string bu, .slice pa2 bl.length pc2] 26)) := ((Below.refl w.heap.size w).alloc (Nat.le_refl _) _).alloc (by simp) _
  have hk1 : LkIn ((w.alloc (.cells #[.string ag, .string aa, .string au, .slice pa1 al.length pc1] 26)).alloc (.cells #[.string bg, .string ba, .string bu, .slice pa2 bl.length pc2] 26)) w.heap.size ag aa au (.slice pa1 al.length pc1) := (LkIn.new w ag aa au _).below ((Below.refl _ _).alloc (Nat.le_refl _) _) (Nat.le_refl _)
  have hk2 : ((w.alloc (.cells #[.string ag, .string aa, .string au, .slice pa1 al.length pc1] 26)).alloc (.cells #[.string bg, .string ba, .string bu, .slice pa2 bl.length pc2] 26)).heap[w.heap.size + 1]? = some (.cells #[.string bg, .string ba, .string bu, .slice pa2 bl.length pc2] 26 (0, 0)) := by
    have := heap_alloc_new (w.alloc (.cells #[.string ag, .string aa, .string au, .slice pa1 al.length pc1] 26)) (.cells #[.string bg, .string ba, .string bu, .slice pa2 bl.length pc2] 26)
    simpa using this
  have HARD := Lib.hid ard
  have HBRD := Lib.hid brd
  have HR1 := Lib.hid (ard.below hb0 (Nat.le_refl _))
  have HR2 := Lib.hid (brd.below hb0 (Nat.le_refl _))
  have HB0 := Lib.hid hb0
  clear ard brd hb0 a1 a2 a3 a4 b1 b2 b3 b4
  go_enter Try.func5, Try.ntmps5
  go_upto_region 1 with fail
  generalize ((w.alloc (.cells #[.string ag, .string aa, .string au, .slice pa1 al.length pc1] 26)).alloc (.cells #[.string bg, .string ba, .string bu, .slice pa2 bl.length pc2] 26)) = w1 at hk1 hk2 HR1 HR2 HB0 ⊢
  obtain ⟨YB, hYB⟩ : ∃ H1, H1 = w.heap.size + 1 := ⟨_, rfl⟩
  rw [← hYB] at hk2
  simp only [← hYB]
  have HYB := Lib.hid (show w.heap.size < YB from by omega)
  clear hYB
  have HK1 := Lib.hid hk1
  have HK2 := Lib.hid hk2
  obtain ⟨x0, x1, x2, x3⟩ := hk1
  go_wp2_with fail
  refine (HL1.out _ HR1.out).mono ?_
  rintro e w2 ⟨bb, rfl, hl1, hb2⟩
  have HB2 := Lib.hid hb2
  have HLT1 := Lib.hid hl1
  clear x0 x1 x2 x3 hk2 hl1 hb2
  cases bb
  · go_wp2_with fail
    refine (HLV.out _).mono ?_
    rintro e wz ⟨rfl, hbz⟩
    have HZ := Lib.hid ((HB0.out.trans (HB2.out.mono HB0.out.size)).trans (hbz.mono (HB0.out.trans (HB2.out.mono HB0.out.size)).size))
    clear hbz
    go_wp2
    go_ret
    exact ⟨rfl, HZ.out⟩
  obtain ⟨y0, y1, y2, y3⟩ := (LkIn.of_row HK2.out).below HB2.out (Nat.le_refl _)
  go_wp2_with fail
  refine (HL2.out _ (HR2.out.below HB2.out (Nat.le_refl _))).mono ?_
  rintro e w3 ⟨bb, rfl, hl2, hb3⟩
  have HB3 := Lib.hid (HB2.out.trans (hb3.mono HB2.out.size))
  have HLT2 := Lib.hid hl2
  clear y0 y1 y2 y3 hl2 hb3
  cases bb
  · go_wp2_with fail
    refine (HLV.out _).mono ?_
    rintro e wz ⟨rfl, hbz⟩
    have HZ := Lib.hid ((HB0.out.trans (HB3.out.mono HB0.out.size)).trans (hbz.mono (HB0.out.trans (HB3.out.mono HB0.out.size)).size))
    clear hbz
    go_wp2
    go_ret
    exact ⟨rfl, HZ.out⟩
  obtain ⟨p1, p2, p3, p4, p5⟩ := light_okT (HLT1.out (by simp))
  obtain ⟨q1, q2, q3, q4, q5⟩ := light_okT (HLT2.out (by simp))
  have hm1 := fun w' hr => refMay_any ag aa au p1 p2 p3 (.slice pa1 al.length pc1) al p4 (by omega) w' hr
  have hm2 := fun w' hr => refMay_any bg ba bu q1 q2 q3 (.slice pa2 bl.length pc2) bl q4 (by omega) w' hr
  generalize hM1 : mayLock ag aa au al = m1 at hm1
  generalize hM2 : mayLock bg ba bu bl = m2 at hm2
  unfold lockV at hm1 hm2
  have HM1 := Lib.hid hm1
  have HM2 := Lib.hid hm2
  have HMM1 := Lib.hid hM1
  have HMM2 := Lib.hid hM2
  have HP4 := Lib.hid p4
  have HQ4 := Lib.hid q4
  clear hm1 hm2 hM1 hM2 p4 q4
  obtain ⟨x0, x1, x2, x3⟩ := HK1.out.below HB3.out (Nat.le_refl _)
  go_wp2_with fail
  refine (HM1.out _ (HR1.out.below HB3.out (Nat.le_refl _))).mono ?_
  rintro e w4 ⟨rfl, hb4⟩
  have HB4 := Lib.hid (HB3.out.trans (hb4.mono HB3.out.size))
  clear x0 x1 x2 x3 hb4
  cases m1
  · go_wp2_with fail
    refine (HLV.out _).mono ?_
    rintro e wz ⟨rfl, hbz⟩
    have HZ := Lib.hid ((HB0.out.trans (HB4.out.mono HB0.out.size)).trans (hbz.mono (HB0.out.trans (HB4.out.mono HB0.out.size)).size))
    clear hbz
    go_wp2
    go_ret
    exact ⟨rfl, HZ.out⟩
  obtain ⟨y0, y1, y2, y3⟩ := (LkIn.of_row HK2.out).below HB4.out (Nat.le_refl _)
  go_wp2_with fail
  refine (HM2.out _ (HR2.out.below HB4.out (Nat.le_refl _))).mono ?_
  rintro e w5 ⟨rfl, hb5⟩
  have HB5 := Lib.hid (HB4.out.trans (hb5.mono HB4.out.size))
  clear y0 y1 y2 y3 hb5
  cases m2
  · go_wp2_with fail
    refine (HLV.out _).mono ?_
    rintro e wz ⟨rfl, hbz⟩
    have HZ := Lib.hid ((HB0.out.trans (HB5.out.mono HB0.out.size)).trans (hbz.mono (HB0.out.trans (HB5.out.mono HB0.out.size)).size))
    clear hbz
    go_wp2
    go_ret
    exact ⟨rfl, HZ.out⟩
  -- both may be: what the calls answer
  have hma := HMM1.out
  have hmb := may_root HMM1.out HMM2.out
  have oA := mayLock_ok hma
  have oB := mayLock_ok hmb
  have hlA : al.length ≤ 1000000 := by omega
  have hlB : bl.length ≤ 1000000 := by omega
  have hed1 := fun w' r1 r2 => Edits_any ag aa au p1 p2 p3 ag aa au p1 p2 p3 (.slice pa1 al.length pc1) (.slice pa2 bl.length pc2) al bl HP4.out HQ4.out hlA hlB w' r1 r2
  have hed2 := fun w' r1 r2 => Edits_any ag aa au p1 p2 p3 ag aa au p1 p2 p3 (.slice pa2 bl.length pc2) (.slice pa1 al.length pc1) bl al HQ4.out HP4.out hlB hlA w' r1 r2
  have hed3 := fun w' r1 => Edits_any ag aa au p1 p2 p3 ag aa au p1 p2 p3 (.slice pa1 al.length pc1) (.slice pa1 al.length pc1) al al HP4.out HP4.out hlA hlA w' r1 r1
  rw [hma, hmb, show editsL true true al bl = edits al bl from rfl] at hed1
  rw [hmb, hma, show editsL true true bl al = edits bl al from rfl] at hed2
  rw [hma, show editsL true true al al = edits al al from rfl, edits_self oA] at hed3
  have n1 := edits_len al bl
  have n2 := edits_len bl al
  have hap1 := fun v w' r1 r2 => Apply_any ag aa au p1 p2 p3 (.slice pa1 al.length pc1) v al (edits al bl) HP4.out (edits_okP oA oB HQ4.out) (by omega) (by omega) w' r1 r2
  have hap2 := fun v w' r1 r2 => Apply_any ag aa au p1 p2 p3 (.slice pa2 bl.length pc2) v bl (edits bl al) HQ4.out (edits_okP oB oA HP4.out) (by omega) (by omega) w' r1 r2
  have hap3 := fun w' r1 => Apply_any ag aa au p1 p2 p3 (.slice pa1 al.length pc1) (.slice none 0 0) al [] HP4.out (fun e h => by simp at h) (by omega) (by simp) w' r1 (.inl ⟨rfl, rfl⟩)
  rw [applyOk_edits hma hmb, apply_edits oA oB] at hap1
  rw [applyOk_edits hmb hma, apply_edits oB oA] at hap2
  rw [applyOk_nil hma, apply_nil oA] at hap3
  have htu := fun v w' r => Turn_any v (edits al bl) (by omega) w' r
  have htp : ∀ w e w', TurnP (edits al bl) w e w' → ∃ v, e = .returned v ∧ RdE w' v (edits bl al) ∧ Below w.heap.size w w' := fun w e w' h => by
    obtain ⟨v, h1, h2, h3⟩ := h
    rw [turn_edits oA oB] at h2
    exact ⟨v, h1, h2, h3⟩
  have hse := fun v1 v2 w' r1 r2 => refSameE_any v1 v2 (edits bl al) (by omega) w' r1 r2
  have hs1 := fun v w' r1 r2 => refSame_any ag aa au ag aa au v (.slice pa2 bl.length pc2) bl bl hlB hlB w' r1 r2
  have hs2 := fun v w' r1 r2 => refSame_any ag aa au ag aa au v (.slice pa1 al.length pc1) al al hlA hlA w' r1 r2
  rw [sameLk_self] at hs1 hs2
  have HAP1 := Lib.hid (fun v w' r1 r2 => (hap1 v w' r1 r2))
  unfold lockV at hed1 hed2 hed3 hap1 hap2 hap3 hs1 hs2
  generalize edits al bl = E1 at hed1 hap1 htu htp
  generalize edits bl al = E2 at hed2 hap2 htp hse
  have HED1 := Lib.hid hed1
  have HED2 := Lib.hid hed2
  have HED3 := Lib.hid hed3
  have HAP1 := Lib.hid hap1
  have HAP2 := Lib.hid hap2
  have HAP3 := Lib.hid hap3
  have HTU := Lib.hid htu
  have HTP := Lib.hid htp
  have HSE := Lib.hid hse
  have HS1 := Lib.hid hs1
  have HS2 := Lib.hid hs2
  clear hed1 hed2 hed3 hap1 hap2 hap3 htu htp hse hs1 hs2 n1 n2 oA oB hma hmb p1 p2 p3 q1 q2 q3
  obtain ⟨x0, x1, x2, x3⟩ := HK1.out.below HB5.out (Nat.le_refl _)
  have hk5 := (HB5.out.block YB (Array.getElem?_eq_some_iff.1 HK2.out).1).trans HK2.out
  have HK5 := Lib.hid hk5
  obtain ⟨y0, y1, y2, y3⟩ := LkIn.of_row hk5
  have f0 := frozen_of_row w5 YB 0 _ _ hk5
  have f1 := frozen_of_row w5 YB 1 _ _ hk5
  have f2 := frozen_of_row w5 YB 2 _ _ hk5
  clear hk5
  go_upto_region 4 with fail
  have hk6 : (((w5.setCell ⟨YB, 0, none⟩ (.string ag)).setCell ⟨YB, 1, none⟩ (.string aa)).setCell ⟨YB, 2, none⟩ (.string au)).heap[YB]? = some (.cells #[.string ag, .string aa, .string au, .slice pa2 bl.length pc2] 26 (0, 0)) := by
    have s1 := heap_setCell_same w5 YB 0 _ _ (.string ag) HK5.out
    have s2 := heap_setCell_same _ YB 1 _ _ (.string aa) s1
    have s3 := heap_setCell_same _ YB 2 _ _ (.string au) s2
    simpa using s3
  have hot : ∀ x, x ≠ YB → (((w5.setCell ⟨YB, 0, none⟩ (.string ag)).setCell ⟨YB, 1, none⟩ (.string aa)).setCell ⟨YB, 2, none⟩ (.string au)).heap[x]? = w5.heap[x]? := fun x hx =>
    ((heap_setCell_other _ ⟨YB, 2, none⟩ x _ hx).trans (heap_setCell_other _ ⟨YB, 1, none⟩ x _ hx)).trans (heap_setCell_other _ ⟨YB, 0, none⟩ x _ hx)
  have hb6 : Below w.heap.size w (((w5.setCell ⟨YB, 0, none⟩ (.string ag)).setCell ⟨YB, 1, none⟩ (.string aa)).setCell ⟨YB, 2, none⟩ (.string au)) :=
    (((HB0.out.trans (HB5.out.mono HB0.out.size)).setCell (by have := HYB.out; simp only; omega) _).setCell (by have := HYB.out; simp only; omega) _).setCell (by have := HYB.out; simp only; omega) _
  clear x0 x1 x2 x3 y0 y1 y2 y3 f0 f1 f2
  generalize (((w5.setCell ⟨YB, 0, none⟩ (.string ag)).setCell ⟨YB, 1, none⟩ (.string aa)).setCell ⟨YB, 2, none⟩ (.string au)) = w6 at hk6 hot hb6 ⊢
  have hlA6 : LkIn w6 w.heap.size ag aa au (.slice pa1 al.length pc1) := by
    have hc : ∀ j, w6.cell? ⟨w.heap.size, j, none⟩ = w5.cell? ⟨w.heap.size, j, none⟩ := fun j => World.cell?_of_block (a := ⟨w.heap.size, j, none⟩) (hot w.heap.size (by have := HYB.out; omega))
    obtain ⟨z0, z1, z2, z3⟩ := HK1.out.below HB5.out (Nat.le_refl _)
    exact ⟨(hc 0).trans z0, (hc 1).trans z1, (hc 2).trans z2, (hc 3).trans z3⟩
  have hlB6 : LkIn w6 YB ag aa au (.slice pa2 bl.length pc2) := LkIn.of_row hk6
  have HB6 := Lib.hid hb6
  have HLA := Lib.hid hlA6
  have HLB := Lib.hid hlB6
  have HRA := Lib.hid (HARD.out.below hb6 (Nat.le_refl _))
  have HRB := Lib.hid (HBRD.out.below hb6 (Nat.le_refl _))
  obtain ⟨x0, x1, x2, x3⟩ := hlA6
  obtain ⟨y0, y1, y2, y3⟩ := hlB6
  clear hk6 hot hb6 HB5 HB4 HB3 HB2 HK5 HK1 HK2 HR1 HR2 HMM1 HMM2 HM1 HM2 HLT1 HLT2 HL1 HL2 HP4 HQ4
  go_wp2_with fail
  refine (HED1.out _ HRA.out HRB.out).mono ?_
  rintro e w7 ⟨v5, rfl, hE5, hb7⟩
  have HB7 := Lib.hid hb7
  have HE5 := Lib.hid hE5
  clear x0 x1 x2 x3 y0 y1 y2 y3
  obtain ⟨x0, x1, x2, x3⟩ := HLA.out.below hb7 (Nat.le_refl _)
  clear hb7 hE5
  go_wp2_with fail
  refine (HAP1.out v5 _ (HRA.out.below HB7.out (Nat.le_refl _)) HE5.out).mono ?_
  rintro e w8 (⟨_, pvx, rfl, hrx, hb8⟩ | ⟨hf, _⟩)
  case inr => cases hf
  have HB8 := Lib.hid (HB7.out.trans (hb8.mono HB7.out.size))
  have hnew8 := LkIn.new w8 ag aa au pvx
  have hal8 : Below w8.heap.size w8 (w8.alloc (.cells #[.string ag, .string aa, .string au, pvx] 26)) := (Below.refl _ _).alloc (Nat.le_refl _) _
  have hrx9 := hrx.below hal8 (Nat.le_refl _)
  have hb9 := HB8.out.trans (hal8.mono HB8.out.size)
  have hb79 := hb8.trans (hal8.mono hb8.size)
  obtain ⟨vx, cx, rfl⟩ := hrx.shape
  clear x0 x1 x2 x3 hb8 hrx hal8
  unfold lockV
  go_upto_region 6 with fail
  generalize w8.alloc (.cells #[.string ag, .string aa, .string au, .slice vx bl.length cx] 26) = w9 at hnew8 hrx9 hb9 hb79 ⊢
  generalize hX : w8.heap.size = X at hnew8 ⊢
  have HLX := Lib.hid hnew8
  have HRX := Lib.hid hrx9
  have HB9 := Lib.hid hb9
  have B7to9 := Lib.hid hb79
  obtain ⟨y0, y1, y2, y3⟩ := HLB.out.below hb9 (Nat.le_refl _)
  clear hX hnew8 hrx9 hb9 hb79
  have HG9 := Lib.hid (fun (w' : World) (hb : Below w9.heap.size w9 w') => show w'.cell? ⟨YB, 0, none⟩ = some (.string ag) ∧ w'.cell? ⟨YB, 1, none⟩ = some (.string aa) ∧ w'.cell? ⟨YB, 2, none⟩ = some (.string au) ∧ w'.cell? ⟨YB, 3, none⟩ = some (.slice pa2 bl.length pc2) ∧ Below w9.heap.size w9 w' from
    have hc : ∀ {A : Addr} {x : Value}, w9.cell? A = some x → w'.cell? A = some x := fun hx => (hb.cell (World.block_lt_of_cell? w9 _ hx)).trans hx
    ⟨hc y0, hc y1, hc y2, hc y3, hb⟩)
  go_cut [8, 9] from 43 to 50 (fun t8 t9 wx => CutY ag aa au al w9 t8 t9 wx)
  case first =>
    refine wp_region_held_drew (S := (fun w' => w'.cell? ⟨YB, 0, none⟩ = some (.string ag) ∧ w'.cell? ⟨YB, 1, none⟩ = some (.string aa) ∧ w'.cell? ⟨YB, 2, none⟩ = some (.string au) ∧ w'.cell? ⟨YB, 3, none⟩ = some (.slice pa2 bl.length pc2) ∧ Below w9.heap.size w9 w')) (by kernel_rfl) (by (try dsimp only); exact HG9.out _ (Below.refl _ _).drew) (fun hHeld => ?_)
    generalize w9.drew = wd at hHeld ⊢
    refine wpAnyH_take (i := 0) (v := ?_) (by (simp only [List.getElem?_toArray, List.getElem?_cons_succ, List.getElem?_cons_zero]; rfl)) (by kernel_rfl) (by kernel_rfl) (by kernel_rfl) (by intro _ _ _ h; exact h) (Or.inl ⟨by rfl, ?_⟩) (by assumption) ?_
    rotate_left
    · (intro w hSw; (try dsimp only at hSw); go_simp; try (with_reducible rfl))
    simp only [Act.put, List.setIfInBounds_toArray, List.set_cons_zero, List.set_cons_succ]
    refine wpAnyH_take (i := 1) (v := ?_) (by (simp only [List.getElem?_toArray, List.getElem?_cons_succ, List.getElem?_cons_zero]; rfl)) (by kernel_rfl) (by kernel_rfl) (by kernel_rfl) (by intro _ _ _ h; exact h) (Or.inl ⟨by rfl, ?_⟩) (by assumption) ?_
    rotate_left
    · (intro w hSw; (try dsimp only at hSw); go_simp; try (with_reducible rfl))
    simp only [Act.put, List.setIfInBounds_toArray, List.set_cons_zero, List.set_cons_succ]
    refine wpAnyH_ready (rs := [2, 7]) (by kernel_rfl) (by simp) ?_
    refine AllReadyH.cons (by (simp only [List.getElem?_toArray, List.getElem?_cons_succ, List.getElem?_cons_zero]; rfl)) (fun K hK => ?_) (AllReadyH.cons (by (simp only [List.getElem?_toArray, List.getElem?_cons_succ, List.getElem?_cons_zero]; rfl)) (fun K hK => ?_) AllReadyH.nil)
    · go_simp
      (go_at_call 19; (refine (HTU.out v5 _ (HE5.out.below (B7to9.out.trans (hHeld.2.2.2.2.mono B7to9.out.size)) (Nat.le_refl _))).mono ?_); intro e wk1 ht; obtain ⟨vt, rfl, hrt, hbx⟩ := HTP.out _ _ _ ht; clear ht; go_wp2_with fail)
      refine hK.out _ _ (HG9.out _ (hHeld.2.2.2.2.trans (hbx.mono hHeld.2.2.2.2.size))) (fun hHeld => ?_)
      clear hK K hbx
      try simp only [Act.put, List.setIfInBounds_toArray, List.set_cons_zero, List.set_cons_succ]
      refine wpAnyH_ready (rs := [3, 7]) (by kernel_rfl) (by simp) ?_
      refine AllReadyH.cons (by (simp only [List.getElem?_toArray, List.getElem?_cons_succ, List.getElem?_cons_zero]; rfl)) (fun K hK => ?_) (AllReadyH.cons (by (simp only [List.getElem?_toArray, List.getElem?_cons_succ, List.getElem?_cons_zero]; rfl)) (fun K hK => ?_) AllReadyH.nil)
      · go_simp
        (go_at_call 15; (refine (HAP2.out vt _ (HRB.out.below (HB9.out.trans (hHeld.2.2.2.2.mono HB9.out.size)) (Nat.le_refl _)) hrt).mono ?_); rintro e wk2 (⟨_, pvy, rfl, hry, hbx⟩ | ⟨hf, _⟩))
        rotate_left
        · cases hf
        go_wp2_with fail
        obtain ⟨vy, cy, rfl⟩ := hry.shape
        unfold lockV
        refine hK.out _ _ (HG9.out _ (hHeld.2.2.2.2.trans (hbx.mono hHeld.2.2.2.2.size))) (fun hHeld => ?_)
        clear hK K hbx
        try simp only [Act.put, List.setIfInBounds_toArray, List.set_cons_zero, List.set_cons_succ]
        refine wpAnyH_take (i := 4) (v := ?_) (by (simp only [List.getElem?_toArray, List.getElem?_cons_succ, List.getElem?_cons_zero]; rfl)) (by kernel_rfl) (by kernel_rfl) (by kernel_rfl) (by intro _ _ _ h; exact h) (Or.inl ⟨by rfl, ?_⟩) (by assumption) ?_
        rotate_left
        · (intro w hSw; (try dsimp only at hSw); go_simp; try (with_reducible rfl))
        simp only [Act.put, List.setIfInBounds_toArray, List.set_cons_zero, List.set_cons_succ]
        refine wpAnyH_take (i := 5) (v := ?_) (by (simp only [List.getElem?_toArray, List.getElem?_cons_succ, List.getElem?_cons_zero]; rfl)) (by kernel_rfl) (by kernel_rfl) (by kernel_rfl) (by intro _ _ _ h; exact h) (Or.inl ⟨by rfl, ?_⟩) (by assumption) ?_
        rotate_left
        · (intro w hSw; (try dsimp only at hSw); go_simp; try (with_reducible rfl))
        simp only [Act.put, List.setIfInBounds_toArray, List.set_cons_zero, List.set_cons_succ]
        refine wpAnyH_take (i := 6) (v := ?_) (by (simp only [List.getElem?_toArray, List.getElem?_cons_succ, List.getElem?_cons_zero]; rfl)) (by kernel_rfl) (by kernel_rfl) (by kernel_rfl) (by intro _ _ _ h; exact h) (Or.inl ⟨by rfl, ?_⟩) (by assumption) ?_
        rotate_left
        · (intro w hSw; (try dsimp only at hSw); go_simp; try (with_reducible rfl))
        simp only [Act.put, List.setIfInBounds_toArray, List.set_cons_zero, List.set_cons_succ]
        refine wpAnyH_ready (rs := [7]) (by kernel_rfl) (by simp) ?_
        refine AllReadyH.cons (by (simp only [List.getElem?_toArray, List.getElem?_cons_succ, List.getElem?_cons_zero]; rfl)) (fun K hK => ?_) AllReadyH.nil
        go_simp
        have hY := heap_alloc_new wk2 (.cells #[.string ⟨#[]⟩, .string ⟨#[]⟩, .string ⟨#[]⟩, .slice none 0 0] 26)
        have hYge : w9.heap.size ≤ wk2.heap.size := hHeld.2.2.2.2.size
        have hal : Below wk2.heap.size wk2 (wk2.alloc (.cells #[.string ⟨#[]⟩, .string ⟨#[]⟩, .string ⟨#[]⟩, .slice none 0 0] 26)) := (Below.refl _ _).alloc (Nat.le_refl _) _
        have hry := hry.below hal (Nat.le_refl _)
        have hbn := hHeld.2.2.2.2.alloc hHeld.2.2.2.2.size (.cells #[.string ⟨#[]⟩, .string ⟨#[]⟩, .string ⟨#[]⟩, .slice none 0 0] 26)
        clear hal
        generalize wk2.alloc (.cells #[.string ⟨#[]⟩, .string ⟨#[]⟩, .string ⟨#[]⟩, .slice none 0 0] 26) = wk3 at hY hbn hry ⊢
        generalize wk2.heap.size = Y at hY hYge ⊢
        refine hK.out _ _ (HG9.out _ hbn) (fun hHeld => ?_)
        clear hK K hbn
        try simp only [Act.put, List.setIfInBounds_toArray, List.set_cons_zero, List.set_cons_succ]
        refine wpAnyH_ready (rs := [8]) (by kernel_rfl) (by simp) ?_
        refine AllReadyH.cons (by (simp only [List.getElem?_toArray, List.getElem?_cons_succ, List.getElem?_cons_zero]; rfl)) (fun K hK => ?_) AllReadyH.nil
        refine wp_store_row 26 _ _ rfl Y #[.string ag, .string aa, .string au, .slice vy al.length cy] rfl rfl 26 _ hY (by kernel_rfl) rfl (by simp [Value.oneCell']) ?_
        have hrd : RdN (wk3.setRow Y #[.string ag, .string aa, .string au, .slice vy al.length cy]) (.slice vy al.length cy) al := hry.far4 hY (by decide)
        have hlk : LkIn (wk3.setRow Y #[.string ag, .string aa, .string au, .slice vy al.length cy]) Y ag aa au (.slice vy al.length cy) := LkIn.of_row (setRow_heap wk3 Y _ _ _ _ hY)
        have hbf := below_setRow (cs := #[.string ag, .string aa, .string au, .slice vy al.length cy]) hHeld.2.2.2.2 hYge
        refine hK.out _ _ (HG9.out _ hbf) (fun hHeld => ?_)
        clear hK K
        try simp only [Act.put, List.setIfInBounds_toArray, List.set_cons_zero, List.set_cons_succ]
        refine wpAnyH_take (i := 9) (v := ?_) (by (simp only [List.getElem?_toArray, List.getElem?_cons_succ, List.getElem?_cons_zero]; rfl)) (by kernel_rfl) (by kernel_rfl) (by kernel_rfl) (by intro _ _ _ h; exact h) (Or.inl ⟨by rfl, ?_⟩) (by assumption) ?_
        rotate_left
        · (intro w hSw; (try dsimp only at hSw); go_simp; try (with_reducible rfl))
        simp only [Act.put, List.setIfInBounds_toArray, List.set_cons_zero, List.set_cons_succ]
        refine wpAnyH_done (by kernel_rfl) ?_ _
        have HFIN := Lib.hid (show CutY ag aa au al w9 (.pointer (some ⟨Y, 0, none⟩)) (.int .i64 0) (wk3.setRow Y #[.string ag, .string aa, .string au, .slice vy al.length cy]) from ⟨Y, _, rfl, rfl, hlk, hrd, hbf⟩)
        clear hbf hlk hrd hY hYge hHeld hry
        go_wp2_with fail
        go_meet
        exact HFIN.out
      · go_simp
        have hY := heap_alloc_new wk1 (.cells #[.string ⟨#[]⟩, .string ⟨#[]⟩, .string ⟨#[]⟩, .slice none 0 0] 26)
        have hYge : w9.heap.size ≤ wk1.heap.size := hHeld.2.2.2.2.size
        have hal : Below wk1.heap.size wk1 (wk1.alloc (.cells #[.string ⟨#[]⟩, .string ⟨#[]⟩, .string ⟨#[]⟩, .slice none 0 0] 26)) := (Below.refl _ _).alloc (Nat.le_refl _) _
        have hrt := hrt.below hal (Nat.le_refl _)
        have hbn := hHeld.2.2.2.2.alloc hHeld.2.2.2.2.size (.cells #[.string ⟨#[]⟩, .string ⟨#[]⟩, .string ⟨#[]⟩, .slice none 0 0] 26)
        clear hal
        generalize wk1.alloc (.cells #[.string ⟨#[]⟩, .string ⟨#[]⟩, .string ⟨#[]⟩, .slice none 0 0] 26) = wk2 at hY hbn hrt ⊢
        generalize wk1.heap.size = Y at hY hYge ⊢
        refine hK.out _ _ (HG9.out _ hbn) (fun hHeld => ?_)
        clear hK K hbn
        try simp only [Act.put, List.setIfInBounds_toArray, List.set_cons_zero, List.set_cons_succ]
        refine wpAnyH_ready (rs := [3]) (by kernel_rfl) (by simp) ?_
        refine AllReadyH.cons (by (simp only [List.getElem?_toArray, List.getElem?_cons_succ, List.getElem?_cons_zero]; rfl)) (fun K hK => ?_) AllReadyH.nil
        go_simp
        (go_at_call 15; (refine (HAP2.out vt _ (HRB.out.below (HB9.out.trans (hHeld.2.2.2.2.mono HB9.out.size)) (Nat.le_refl _)) hrt).mono ?_); rintro e wk3 (⟨_, pvy, rfl, hry, hbx⟩ | ⟨hf, _⟩))
        rotate_left
        · cases hf
        go_wp2_with fail
        obtain ⟨vy, cy, rfl⟩ := hry.shape
        unfold lockV
        have hY := (hbx.block Y (Array.getElem?_eq_some_iff.1 hY).1).trans hY
        refine hK.out _ _ (HG9.out _ (hHeld.2.2.2.2.trans (hbx.mono hHeld.2.2.2.2.size))) (fun hHeld => ?_)
        clear hK K hbx
        try simp only [Act.put, List.setIfInBounds_toArray, List.set_cons_zero, List.set_cons_succ]
        refine wpAnyH_take (i := 4) (v := ?_) (by (simp only [List.getElem?_toArray, List.getElem?_cons_succ, List.getElem?_cons_zero]; rfl)) (by kernel_rfl) (by kernel_rfl) (by kernel_rfl) (by intro _ _ _ h; exact h) (Or.inl ⟨by rfl, ?_⟩) (by assumption) ?_
        rotate_left
        · (intro w hSw; (try dsimp only at hSw); go_simp; try (with_reducible rfl))
        simp only [Act.put, List.setIfInBounds_toArray, List.set_cons_zero, List.set_cons_succ]
        refine wpAnyH_take (i := 5) (v := ?_) (by (simp only [List.getElem?_toArray, List.getElem?_cons_succ, List.getElem?_cons_zero]; rfl)) (by kernel_rfl) (by kernel_rfl) (by kernel_rfl) (by intro _ _ _ h; exact h) (Or.inl ⟨by rfl, ?_⟩) (by assumption) ?_
        rotate_left
        · (intro w hSw; (try dsimp only at hSw); go_simp; try (with_reducible rfl))
        simp only [Act.put, List.setIfInBounds_toArray, List.set_cons_zero, List.set_cons_succ]
        refine wpAnyH_take (i := 6) (v := ?_) (by (simp only [List.getElem?_toArray, List.getElem?_cons_succ, List.getElem?_cons_zero]; rfl)) (by kernel_rfl) (by kernel_rfl) (by kernel_rfl) (by intro _ _ _ h; exact h) (Or.inl ⟨by rfl, ?_⟩) (by assumption) ?_
        rotate_left
        · (intro w hSw; (try dsimp only at hSw); go_simp; try (with_reducible rfl))
        simp only [Act.put, List.setIfInBounds_toArray, List.set_cons_zero, List.set_cons_succ]
        refine wpAnyH_ready (rs := [8]) (by kernel_rfl) (by simp) ?_
        refine AllReadyH.cons (by (simp only [List.getElem?_toArray, List.getElem?_cons_succ, List.getElem?_cons_zero]; rfl)) (fun K hK => ?_) AllReadyH.nil
        refine wp_store_row 26 _ _ rfl Y #[.string ag, .string aa, .string au, .slice vy al.length cy] rfl rfl 26 _ hY (by kernel_rfl) rfl (by simp [Value.oneCell']) ?_
        have hrd : RdN (wk3.setRow Y #[.string ag, .string aa, .string au, .slice vy al.length cy]) (.slice vy al.length cy) al := hry.far4 hY (by decide)
        have hlk : LkIn (wk3.setRow Y #[.string ag, .string aa, .string au, .slice vy al.length cy]) Y ag aa au (.slice vy al.length cy) := LkIn.of_row (setRow_heap wk3 Y _ _ _ _ hY)
        have hbf := below_setRow (cs := #[.string ag, .string aa, .string au, .slice vy al.length cy]) hHeld.2.2.2.2 hYge
        refine hK.out _ _ (HG9.out _ hbf) (fun hHeld => ?_)
        clear hK K
        try simp only [Act.put, List.setIfInBounds_toArray, List.set_cons_zero, List.set_cons_succ]
        refine wpAnyH_take (i := 9) (v := ?_) (by (simp only [List.getElem?_toArray, List.getElem?_cons_succ, List.getElem?_cons_zero]; rfl)) (by kernel_rfl) (by kernel_rfl) (by kernel_rfl) (by intro _ _ _ h; exact h) (Or.inl ⟨by rfl, ?_⟩) (by assumption) ?_
        rotate_left
        · (intro w hSw; (try dsimp only at hSw); go_simp; try (with_reducible rfl))
        simp only [Act.put, List.setIfInBounds_toArray, List.set_cons_zero, List.set_cons_succ]
        refine wpAnyH_done (by kernel_rfl) ?_ _
        have HFIN := Lib.hid (show CutY ag aa au al w9 (.pointer (some ⟨Y, 0, none⟩)) (.int .i64 0) (wk3.setRow Y #[.string ag, .string aa, .string au, .slice vy al.length cy]) from ⟨Y, _, rfl, rfl, hlk, hrd, hbf⟩)
        clear hbf hlk hrd hY hYge hHeld hry
        go_wp2_with fail
        go_meet
        exact HFIN.out
    · go_simp
      have hY := heap_alloc_new wd (.cells #[.string ⟨#[]⟩, .string ⟨#[]⟩, .string ⟨#[]⟩, .slice none 0 0] 26)
      have hYge : w9.heap.size ≤ wd.heap.size := hHeld.2.2.2.2.size
      have hal : Below wd.heap.size wd (wd.alloc (.cells #[.string ⟨#[]⟩, .string ⟨#[]⟩, .string ⟨#[]⟩, .slice none 0 0] 26)) := (Below.refl _ _).alloc (Nat.le_refl _) _
      have hbn := hHeld.2.2.2.2.alloc hHeld.2.2.2.2.size (.cells #[.string ⟨#[]⟩, .string ⟨#[]⟩, .string ⟨#[]⟩, .slice none 0 0] 26)
      clear hal
      generalize wd.alloc (.cells #[.string ⟨#[]⟩, .string ⟨#[]⟩, .string ⟨#[]⟩, .slice none 0 0] 26) = wk1 at hY hbn  ⊢
      generalize wd.heap.size = Y at hY hYge ⊢
      refine hK.out _ _ (HG9.out _ hbn) (fun hHeld => ?_)
      clear hK K hbn
      try simp only [Act.put, List.setIfInBounds_toArray, List.set_cons_zero, List.set_cons_succ]
      refine wpAnyH_ready (rs := [2]) (by kernel_rfl) (by simp) ?_
      refine AllReadyH.cons (by (simp only [List.getElem?_toArray, List.getElem?_cons_succ, List.getElem?_cons_zero]; rfl)) (fun K hK => ?_) AllReadyH.nil
      go_simp
      (go_at_call 19; (refine (HTU.out v5 _ (HE5.out.below (B7to9.out.trans (hHeld.2.2.2.2.mono B7to9.out.size)) (Nat.le_refl _))).mono ?_); intro e wk2 ht; obtain ⟨vt, rfl, hrt, hbx⟩ := HTP.out _ _ _ ht; clear ht; go_wp2_with fail)
      have hY := (hbx.block Y (Array.getElem?_eq_some_iff.1 hY).1).trans hY
      refine hK.out _ _ (HG9.out _ (hHeld.2.2.2.2.trans (hbx.mono hHeld.2.2.2.2.size))) (fun hHeld => ?_)
      clear hK K hbx
      try simp only [Act.put, List.setIfInBounds_toArray, List.set_cons_zero, List.set_cons_succ]
      refine wpAnyH_ready (rs := [3]) (by kernel_rfl) (by simp) ?_
      refine AllReadyH.cons (by (simp only [List.getElem?_toArray, List.getElem?_cons_succ, List.getElem?_cons_zero]; rfl)) (fun K hK => ?_) AllReadyH.nil
      go_simp
      (go_at_call 15; (refine (HAP2.out vt _ (HRB.out.below (HB9.out.trans (hHeld.2.2.2.2.mono HB9.out.size)) (Nat.le_refl _)) hrt).mono ?_); rintro e wk3 (⟨_, pvy, rfl, hry, hbx⟩ | ⟨hf, _⟩))
      rotate_left
      · cases hf
      go_wp2_with fail
      obtain ⟨vy, cy, rfl⟩ := hry.shape
      unfold lockV
      have hY := (hbx.block Y (Array.getElem?_eq_some_iff.1 hY).1).trans hY
      refine hK.out _ _ (HG9.out _ (hHeld.2.2.2.2.trans (hbx.mono hHeld.2.2.2.2.size))) (fun hHeld => ?_)
      clear hK K hbx
      try simp only [Act.put, List.setIfInBounds_toArray, List.set_cons_zero, List.set_cons_succ]
      refine wpAnyH_take (i := 4) (v := ?_) (by (simp only [List.getElem?_toArray, List.getElem?_cons_succ, List.getElem?_cons_zero]; rfl)) (by kernel_rfl) (by kernel_rfl) (by kernel_rfl) (by intro _ _ _ h; exact h) (Or.inl ⟨by rfl, ?_⟩) (by assumption) ?_
      rotate_left
      · (intro w hSw; (try dsimp only at hSw); go_simp; try (with_reducible rfl))
      simp only [Act.put, List.setIfInBounds_toArray, List.set_cons_zero, List.set_cons_succ]
      refine wpAnyH_take (i := 5) (v := ?_) (by (simp only [List.getElem?_toArray, List.getElem?_cons_succ, List.getElem?_cons_zero]; rfl)) (by kernel_rfl) (by kernel_rfl) (by kernel_rfl) (by intro _ _ _ h; exact h) (Or.inl ⟨by rfl, ?_⟩) (by assumption) ?_
      rotate_left
      · (intro w hSw; (try dsimp only at hSw); go_simp; try (with_reducible rfl))
      simp only [Act.put, List.setIfInBounds_toArray, List.set_cons_zero, List.set_cons_succ]
      refine wpAnyH_take (i := 6) (v := ?_) (by (simp only [List.getElem?_toArray, List.getElem?_cons_succ, List.getElem?_cons_zero]; rfl)) (by kernel_rfl) (by kernel_rfl) (by kernel_rfl) (by intro _ _ _ h; exact h) (Or.inl ⟨by rfl, ?_⟩) (by assumption) ?_
      rotate_left
      · (intro w hSw; (try dsimp only at hSw); go_simp; try (with_reducible rfl))
      simp only [Act.put, List.setIfInBounds_toArray, List.set_cons_zero, List.set_cons_succ]
      refine wpAnyH_ready (rs := [8]) (by kernel_rfl) (by simp) ?_
      refine AllReadyH.cons (by (simp only [List.getElem?_toArray, List.getElem?_cons_succ, List.getElem?_cons_zero]; rfl)) (fun K hK => ?_) AllReadyH.nil
      refine wp_store_row 26 _ _ rfl Y #[.string ag, .string aa, .string au, .slice vy al.length cy] rfl rfl 26 _ hY (by kernel_rfl) rfl (by simp [Value.oneCell']) ?_
      have hrd : RdN (wk3.setRow Y #[.string ag, .string aa, .string au, .slice vy al.length cy]) (.slice vy al.length cy) al := hry.far4 hY (by decide)
      have hlk : LkIn (wk3.setRow Y #[.string ag, .string aa, .string au, .slice vy al.length cy]) Y ag aa au (.slice vy al.length cy) := LkIn.of_row (setRow_heap wk3 Y _ _ _ _ hY)
      have hbf := below_setRow (cs := #[.string ag, .string aa, .string au, .slice vy al.length cy]) hHeld.2.2.2.2 hYge
      refine hK.out _ _ (HG9.out _ hbf) (fun hHeld => ?_)
      clear hK K
      try simp only [Act.put, List.setIfInBounds_toArray, List.set_cons_zero, List.set_cons_succ]
      refine wpAnyH_take (i := 9) (v := ?_) (by (simp only [List.getElem?_toArray, List.getElem?_cons_succ, List.getElem?_cons_zero]; rfl)) (by kernel_rfl) (by kernel_rfl) (by kernel_rfl) (by intro _ _ _ h; exact h) (Or.inl ⟨by rfl, ?_⟩) (by assumption) ?_
      rotate_left
      · (intro w hSw; (try dsimp only at hSw); go_simp; try (with_reducible rfl))
      simp only [Act.put, List.setIfInBounds_toArray, List.set_cons_zero, List.set_cons_succ]
      refine wpAnyH_done (by kernel_rfl) ?_ _
      have HFIN := Lib.hid (show CutY ag aa au al w9 (.pointer (some ⟨Y, 0, none⟩)) (.int .i64 0) (wk3.setRow Y #[.string ag, .string aa, .string au, .slice vy al.length cy]) from ⟨Y, _, rfl, rfl, hlk, hrd, hbf⟩)
      clear hbf hlk hrd hY hYge hHeld hry
      go_wp2_with fail
      go_meet
      exact HFIN.out
  case rest =>
    obtain ⟨Y8, pvy, rfl, rfl, hlY, hrY, hb10⟩ := hcut
    have HB10 := Lib.hid (HB9.out.trans (hb10.mono HB9.out.size))
    have B7to10 := Lib.hid (B7to9.out.trans (hb10.mono B7to9.out.size))
    have HLY := Lib.hid hlY
    have HRY := Lib.hid hrY
    have HLX10 := Lib.hid (HLX.out.below hb10 (Nat.le_refl _))
    have HRX10 := Lib.hid (HRX.out.below hb10 (Nat.le_refl _))
    clear hlY hrY hb10 y0 y1 y2 y3 HG9
    obtain ⟨x0, x1, x2, x3⟩ := HLA.out.below HB10.out (Nat.le_refl _)
    go_wp2_with fail
    refine (HAP3.out _ (HRA.out.below HB10.out (Nat.le_refl _))).mono ?_
    rintro e w11 (⟨_, pvz, rfl, hrz, hb11⟩ | ⟨hf, _⟩)
    case inr => cases hf
    have HB11 := Lib.hid (HB10.out.trans (hb11.mono HB10.out.size))
    have hnew := LkIn.new w11 ag aa au pvz
    have hal : Below w11.heap.size w11 (w11.alloc (.cells #[.string ag, .string aa, .string au, pvz] 26)) := (Below.refl _ _).alloc (Nat.le_refl _) _
    have hlY11 := (HLY.out.below hb11 (Nat.le_refl _)).below hal (Nat.le_refl _)
    have hrY11 := (HRY.out.below hb11 (Nat.le_refl _)).below hal (Nat.le_refl _)
    have hlX11 := (HLX10.out.below hb11 (Nat.le_refl _)).below hal (Nat.le_refl _)
    have hrX11 := (HRX10.out.below hb11 (Nat.le_refl _)).below hal (Nat.le_refl _)
    have hrZ11 := hrz.below hal (Nat.le_refl _)
    have hb12 := HB11.out.trans (hal.mono HB11.out.size)
    have hE11 := HE5.out.below (B7to10.out.trans ((hb11.trans (hal.mono hb11.size)).mono B7to10.out.size)) (Nat.le_refl _)
    obtain ⟨vz, cz, rfl⟩ := hrz.shape
    obtain ⟨vy, cy, rfl⟩ := HRY.out.shape
    clear x0 x1 x2 x3 hb11 hrz hal
    unfold lockV
    go_upto_region 8 with fail
    generalize w11.alloc (.cells #[.string ag, .string aa, .string au, .slice vz al.length cz] 26) = w12 at hnew hlY11 hrY11 hlX11 hrX11 hrZ11 hb12 hE11 ⊢
    generalize hZ : w11.heap.size = Z at hnew ⊢
    clear hZ
    have hlA12 := HLA.out.below hb12 (Nat.le_refl _)
    have hlB12 := HLB.out.below hb12 (Nat.le_refl _)
    have HB12 := Lib.hid hb12
    have HRX12 := Lib.hid (fun (w' : World) (hb : Below w12.heap.size w12 w') => hrX11.below hb (Nat.le_refl _))
    have HRY12 := Lib.hid (fun (w' : World) (hb : Below w12.heap.size w12 w') => hrY11.below hb (Nat.le_refl _))
    have HRZ12 := Lib.hid (fun (w' : World) (hb : Below w12.heap.size w12 w') => hrZ11.below hb (Nat.le_refl _))
    have HRA12 := Lib.hid (fun (w' : World) (hb : Below w12.heap.size w12 w') => (HRA.out.below hb12 (Nat.le_refl _)).below hb (Nat.le_refl _))
    have HRB12 := Lib.hid (fun (w' : World) (hb : Below w12.heap.size w12 w') => (HRB.out.below hb12 (Nat.le_refl _)).below hb (Nat.le_refl _))
    have HE12 := Lib.hid (fun (w' : World) (hb : Below w12.heap.size w12 w') => hE11.below hb (Nat.le_refl _))
    have HG := Lib.hid (fun (w' : World) (hb : Below w12.heap.size w12 w') => show w'.cell? ⟨w.heap.size, 0, none⟩ = some (.string ag) ∧ w'.cell? ⟨w.heap.size, 1, none⟩ = some (.string aa) ∧ w'.cell? ⟨w.heap.size, 2, none⟩ = some (.string au) ∧ w'.cell? ⟨w.heap.size, 3, none⟩ = some (.slice pa1 al.length pc1) ∧ w'.cell? ⟨YB, 0, none⟩ = some (.string ag) ∧ w'.cell? ⟨YB, 1, none⟩ = some (.string aa) ∧ w'.cell? ⟨YB, 2, none⟩ = some (.string au) ∧ w'.cell? ⟨YB, 3, none⟩ = some (.slice pa2 bl.length pc2) ∧ w'.cell? ⟨X, 0, none⟩ = some (.string ag) ∧ w'.cell? ⟨X, 1, none⟩ = some (.string aa) ∧ w'.cell? ⟨X, 2, none⟩ = some (.string au) ∧ w'.cell? ⟨X, 3, none⟩ = some (.slice vx bl.length cx) ∧ w'.cell? ⟨Y8, 0, none⟩ = some (.string ag) ∧ w'.cell? ⟨Y8, 1, none⟩ = some (.string aa) ∧ w'.cell? ⟨Y8, 2, none⟩ = some (.string au) ∧ w'.cell? ⟨Y8, 3, none⟩ = some (.slice vy al.length cy) ∧ w'.cell? ⟨Z, 0, none⟩ = some (.string ag) ∧ w'.cell? ⟨Z, 1, none⟩ = some (.string aa) ∧ w'.cell? ⟨Z, 2, none⟩ = some (.string au) ∧ w'.cell? ⟨Z, 3, none⟩ = some (.slice vz al.length cz) ∧ Below w12.heap.size w12 w' from
      have hc : ∀ {A : Addr} {x : Value}, w12.cell? A = some x → w'.cell? A = some x := fun hx => (hb.cell (World.block_lt_of_cell? w12 _ hx)).trans hx
      ⟨hc hlA12.1, hc hlA12.2.1, hc hlA12.2.2.1, hc hlA12.2.2.2, hc hlB12.1, hc hlB12.2.1, hc hlB12.2.2.1, hc hlB12.2.2.2, hc hlX11.1, hc hlX11.2.1, hc hlX11.2.2.1, hc hlX11.2.2.2, hc hlY11.1, hc hlY11.2.1, hc hlY11.2.2.1, hc hlY11.2.2.2, hc hnew.1, hc hnew.2.1, hc hnew.2.2.1, hc hnew.2.2.2, hb⟩)
    clear hnew hlY11 hrY11 hlX11 hrX11 hrZ11 hb12 hlA12 hlB12 hE11
    refine wp_region_held_drew (S := (fun w' => w'.cell? ⟨w.heap.size, 0, none⟩ = some (.string ag) ∧ w'.cell? ⟨w.heap.size, 1, none⟩ = some (.string aa) ∧ w'.cell? ⟨w.heap.size, 2, none⟩ = some (.string au) ∧ w'.cell? ⟨w.heap.size, 3, none⟩ = some (.slice pa1 al.length pc1) ∧ w'.cell? ⟨YB, 0, none⟩ = some (.string ag) ∧ w'.cell? ⟨YB, 1, none⟩ = some (.string aa) ∧ w'.cell? ⟨YB, 2, none⟩ = some (.string au) ∧ w'.cell? ⟨YB, 3, none⟩ = some (.slice pa2 bl.length pc2) ∧ w'.cell? ⟨X, 0, none⟩ = some (.string ag) ∧ w'.cell? ⟨X, 1, none⟩ = some (.string aa) ∧ w'.cell? ⟨X, 2, none⟩ = some (.string au) ∧ w'.cell? ⟨X, 3, none⟩ = some (.slice vx bl.length cx) ∧ w'.cell? ⟨Y8, 0, none⟩ = some (.string ag) ∧ w'.cell? ⟨Y8, 1, none⟩ = some (.string aa) ∧ w'.cell? ⟨Y8, 2, none⟩ = some (.string au) ∧ w'.cell? ⟨Y8, 3, none⟩ = some (.slice vy al.length cy) ∧ w'.cell? ⟨Z, 0, none⟩ = some (.string ag) ∧ w'.cell? ⟨Z, 1, none⟩ = some (.string aa) ∧ w'.cell? ⟨Z, 2, none⟩ = some (.string au) ∧ w'.cell? ⟨Z, 3, none⟩ = some (.slice vz al.length cz) ∧ Below w12.heap.size w12 w')) (by kernel_rfl) (by (try dsimp only); exact HG.out _ (Below.refl _ _).drew) (fun hHeld => ?_)
    have hHB := hHeld.2.2.2.2.2.2.2.2.2.2.2.2.2.2.2.2.2.2.2.2
    clear hHeld
    refine wpAnyH_take (i := 0) (v := ?_) (by (simp only [List.getElem?_toArray, List.getElem?_cons_succ, List.getElem?_cons_zero]; rfl)) (by kernel_rfl) (by kernel_rfl) (by kernel_rfl) (by intro _ _ _ h; exact h) (Or.inl ⟨by rfl, ?_⟩) (HG.out _ hHB) ?_
    rotate_left
    · (intro w hSw; (try dsimp only at hSw); go_simp; try (with_reducible rfl))
    simp only [Act.put, List.setIfInBounds_toArray, List.set_cons_zero, List.set_cons_succ]
    refine wpAnyH_take (i := 1) (v := ?_) (by (simp only [List.getElem?_toArray, List.getElem?_cons_succ, List.getElem?_cons_zero]; rfl)) (by kernel_rfl) (by kernel_rfl) (by kernel_rfl) (by intro _ _ _ h; exact h) (Or.inl ⟨by rfl, ?_⟩) (HG.out _ hHB) ?_
    rotate_left
    · (intro w hSw; (try dsimp only at hSw); go_simp; try (with_reducible rfl))
    simp only [Act.put, List.setIfInBounds_toArray, List.set_cons_zero, List.set_cons_succ]
    refine wpAnyH_take (i := 2) (v := ?_) (by (simp only [List.getElem?_toArray, List.getElem?_cons_succ, List.getElem?_cons_zero]; rfl)) (by kernel_rfl) (by kernel_rfl) (by kernel_rfl) (by intro _ _ _ h; exact h) (Or.inl ⟨by rfl, ?_⟩) (HG.out _ hHB) ?_
    rotate_left
    · (intro w hSw; (try dsimp only at hSw); go_simp; try (with_reducible rfl))
    simp only [Act.put, List.setIfInBounds_toArray, List.set_cons_zero, List.set_cons_succ]
    refine wpAnyH_take (i := 3) (v := ?_) (by (simp only [List.getElem?_toArray, List.getElem?_cons_succ, List.getElem?_cons_zero]; rfl)) (by kernel_rfl) (by kernel_rfl) (by kernel_rfl) (by intro _ _ _ h; exact h) (Or.inl ⟨by rfl, ?_⟩) (HG.out _ hHB) ?_
    rotate_left
    · (intro w hSw; (try dsimp only at hSw); go_simp; try (with_reducible rfl))
    simp only [Act.put, List.setIfInBounds_toArray, List.set_cons_zero, List.set_cons_succ]
    refine wpAnyH_take (i := 4) (v := ?_) (by (simp only [List.getElem?_toArray, List.getElem?_cons_succ, List.getElem?_cons_zero]; rfl)) (by kernel_rfl) (by kernel_rfl) (by kernel_rfl) (by intro _ _ _ h; exact h) (Or.inl ⟨by rfl, ?_⟩) (HG.out _ hHB) ?_
    rotate_left
    · (intro w hSw; (try dsimp only at hSw); go_simp; try (with_reducible rfl))
    simp only [Act.put, List.setIfInBounds_toArray, List.set_cons_zero, List.set_cons_succ]
    refine wpAnyH_take (i := 5) (v := ?_) (by (simp only [List.getElem?_toArray, List.getElem?_cons_succ, List.getElem?_cons_zero]; rfl)) (by kernel_rfl) (by kernel_rfl) (by kernel_rfl) (by intro _ _ _ h; exact h) (Or.inl ⟨by rfl, ?_⟩) (HG.out _ hHB) ?_
    rotate_left
    · (intro w hSw; (try dsimp only at hSw); go_simp; try (with_reducible rfl))
    simp only [Act.put, List.setIfInBounds_toArray, List.set_cons_zero, List.set_cons_succ]
    refine wpAnyH_take (i := 6) (v := ?_) (by (simp only [List.getElem?_toArray, List.getElem?_cons_succ, List.getElem?_cons_zero]; rfl)) (by kernel_rfl) (by kernel_rfl) (by kernel_rfl) (by intro _ _ _ h; exact h) (Or.inl ⟨by rfl, ?_⟩) (HG.out _ hHB) ?_
    rotate_left
    · (intro w hSw; (try dsimp only at hSw); go_simp; try (with_reducible rfl))
    simp only [Act.put, List.setIfInBounds_toArray, List.set_cons_zero, List.set_cons_succ]
    refine wpAnyH_take (i := 7) (v := ?_) (by (simp only [List.getElem?_toArray, List.getElem?_cons_succ, List.getElem?_cons_zero]; rfl)) (by kernel_rfl) (by kernel_rfl) (by kernel_rfl) (by intro _ _ _ h; exact h) (Or.inl ⟨by rfl, ?_⟩) (HG.out _ hHB) ?_
    rotate_left
    · (intro w hSw; (try dsimp only at hSw); go_simp; try (with_reducible rfl))
    simp only [Act.put, List.setIfInBounds_toArray, List.set_cons_zero, List.set_cons_succ]
    refine wpAnyH_take (i := 8) (v := ?_) (by (simp only [List.getElem?_toArray, List.getElem?_cons_succ, List.getElem?_cons_zero]; rfl)) (by kernel_rfl) (by kernel_rfl) (by kernel_rfl) (by intro _ _ _ h; exact h) (Or.inl ⟨by rfl, ?_⟩) (HG.out _ hHB) ?_
    rotate_left
    · (intro w hSw; (try dsimp only at hSw); go_simp; try (with_reducible rfl))
    simp only [Act.put, List.setIfInBounds_toArray, List.set_cons_zero, List.set_cons_succ]
    refine wpAnyH_take (i := 9) (v := ?_) (by (simp only [List.getElem?_toArray, List.getElem?_cons_succ, List.getElem?_cons_zero]; rfl)) (by kernel_rfl) (by kernel_rfl) (by kernel_rfl) (by intro _ _ _ h; exact h) (Or.inl ⟨by rfl, ?_⟩) (HG.out _ hHB) ?_
    rotate_left
    · (intro w hSw; (try dsimp only at hSw); go_simp; try (with_reducible rfl))
    simp only [Act.put, List.setIfInBounds_toArray, List.set_cons_zero, List.set_cons_succ]
    refine wpAnyH_take (i := 10) (v := ?_) (by (simp only [List.getElem?_toArray, List.getElem?_cons_succ, List.getElem?_cons_zero]; rfl)) (by kernel_rfl) (by kernel_rfl) (by kernel_rfl) (by intro _ _ _ h; exact h) (Or.inl ⟨by rfl, ?_⟩) (HG.out _ hHB) ?_
    rotate_left
    · (intro w hSw; (try dsimp only at hSw); go_simp; try (with_reducible rfl))
    simp only [Act.put, List.setIfInBounds_toArray, List.set_cons_zero, List.set_cons_succ]
    refine wpAnyH_take (i := 11) (v := ?_) (by (simp only [List.getElem?_toArray, List.getElem?_cons_succ, List.getElem?_cons_zero]; rfl)) (by kernel_rfl) (by kernel_rfl) (by kernel_rfl) (by intro _ _ _ h; exact h) (Or.inl ⟨by rfl, ?_⟩) (HG.out _ hHB) ?_
    rotate_left
    · (intro w hSw; (try dsimp only at hSw); go_simp; try (with_reducible rfl))
    simp only [Act.put, List.setIfInBounds_toArray, List.set_cons_zero, List.set_cons_succ]
    refine wpAnyH_take (i := 12) (v := ?_) (by (simp only [List.getElem?_toArray, List.getElem?_cons_succ, List.getElem?_cons_zero]; rfl)) (by kernel_rfl) (by kernel_rfl) (by kernel_rfl) (by intro _ _ _ h; exact h) (Or.inl ⟨by rfl, ?_⟩) (HG.out _ hHB) ?_
    rotate_left
    · (intro w hSw; (try dsimp only at hSw); go_simp; try (with_reducible rfl))
    simp only [Act.put, List.setIfInBounds_toArray, List.set_cons_zero, List.set_cons_succ]
    refine wpAnyH_ready (rs := [13]) (by kernel_rfl) (by simp) ?_
    refine AllReadyH.cons (by (simp only [List.getElem?_toArray, List.getElem?_cons_succ, List.getElem?_cons_zero]; rfl)) (fun K hK => ?_) AllReadyH.nil
    go_simp
    (go_at_call 17; (refine (HS1.out _ _ (HRX12.out _ hHB) (HRB12.out _ hHB)).mono ?_); rintro e wy ⟨rfl, hbx⟩; go_wp2_with fail)
    have hHB := hHB.trans (hbx.mono hHB.size)
    refine hK.out _ _ (HG.out _ hHB) (fun hHeld => ?_)
    clear hK K hbx hHeld
    try simp only [Act.put, List.setIfInBounds_toArray, List.set_cons_zero, List.set_cons_succ]
    refine wpAnyH_take (i := 14) (v := ?_) (by (simp only [List.getElem?_toArray, List.getElem?_cons_succ, List.getElem?_cons_zero]; rfl)) (by kernel_rfl) (by kernel_rfl) (by kernel_rfl) (by intro _ _ _ h; exact h) (Or.inl ⟨by rfl, ?_⟩) (HG.out _ hHB) ?_
    rotate_left
    · (intro w hSw; (try dsimp only at hSw); go_simp; try (with_reducible rfl))
    simp only [Act.put, List.setIfInBounds_toArray, List.set_cons_zero, List.set_cons_succ]
    refine wpAnyH_take (i := 15) (v := ?_) (by (simp only [List.getElem?_toArray, List.getElem?_cons_succ, List.getElem?_cons_zero]; rfl)) (by kernel_rfl) (by kernel_rfl) (by kernel_rfl) (by intro _ _ _ h; exact h) (Or.inl ⟨by rfl, ?_⟩) (HG.out _ hHB) ?_
    rotate_left
    · (intro w hSw; (try dsimp only at hSw); go_simp; try (with_reducible rfl))
    simp only [Act.put, List.setIfInBounds_toArray, List.set_cons_zero, List.set_cons_succ]
    refine wpAnyH_take (i := 16) (v := ?_) (by (simp only [List.getElem?_toArray, List.getElem?_cons_succ, List.getElem?_cons_zero]; rfl)) (by kernel_rfl) (by kernel_rfl) (by kernel_rfl) (by intro _ _ _ h; exact h) (Or.inl ⟨by rfl, ?_⟩) (HG.out _ hHB) ?_
    rotate_left
    · (intro w hSw; (try dsimp only at hSw); go_simp; try (with_reducible rfl))
    simp only [Act.put, List.setIfInBounds_toArray, List.set_cons_zero, List.set_cons_succ]
    refine wpAnyH_take (i := 17) (v := ?_) (by (simp only [List.getElem?_toArray, List.getElem?_cons_succ, List.getElem?_cons_zero]; rfl)) (by kernel_rfl) (by kernel_rfl) (by kernel_rfl) (by intro _ _ _ h; exact h) (Or.inl ⟨by rfl, ?_⟩) (HG.out _ hHB) ?_
    rotate_left
    · (intro w hSw; (try dsimp only at hSw); go_simp; try (with_reducible rfl))
    simp only [Act.put, List.setIfInBounds_toArray, List.set_cons_zero, List.set_cons_succ]
    refine wpAnyH_ready (rs := [18]) (by kernel_rfl) (by simp) ?_
    refine AllReadyH.cons (by (simp only [List.getElem?_toArray, List.getElem?_cons_succ, List.getElem?_cons_zero]; rfl)) (fun K hK => ?_) AllReadyH.nil
    go_simp
    (go_at_call 17; (refine (HS2.out _ _ (HRY12.out _ hHB) (HRA12.out _ hHB)).mono ?_); rintro e wy ⟨rfl, hbx⟩; go_wp2_with fail)
    have hHB := hHB.trans (hbx.mono hHB.size)
    refine hK.out _ _ (HG.out _ hHB) (fun hHeld => ?_)
    clear hK K hbx hHeld
    try simp only [Act.put, List.setIfInBounds_toArray, List.set_cons_zero, List.set_cons_succ]
    refine wpAnyH_take (i := 19) (v := ?_) (by (simp only [List.getElem?_toArray, List.getElem?_cons_succ, List.getElem?_cons_zero]; rfl)) (by kernel_rfl) (by kernel_rfl) (by kernel_rfl) (by intro _ _ _ h; exact h) (Or.inl ⟨by rfl, ?_⟩) (HG.out _ hHB) ?_
    rotate_left
    · (intro w hSw; (try dsimp only at hSw); go_simp; try (with_reducible rfl))
    simp only [Act.put, List.setIfInBounds_toArray, List.set_cons_zero, List.set_cons_succ]
    refine wpAnyH_take (i := 20) (v := ?_) (by (simp only [List.getElem?_toArray, List.getElem?_cons_succ, List.getElem?_cons_zero]; rfl)) (by kernel_rfl) (by kernel_rfl) (by kernel_rfl) (by intro _ _ _ h; exact h) (Or.inl ⟨by rfl, ?_⟩) (HG.out _ hHB) ?_
    rotate_left
    · (intro w hSw; (try dsimp only at hSw); go_simp; try (with_reducible rfl))
    simp only [Act.put, List.setIfInBounds_toArray, List.set_cons_zero, List.set_cons_succ]
    refine wpAnyH_take (i := 21) (v := ?_) (by (simp only [List.getElem?_toArray, List.getElem?_cons_succ, List.getElem?_cons_zero]; rfl)) (by kernel_rfl) (by kernel_rfl) (by kernel_rfl) (by intro _ _ _ h; exact h) (Or.inl ⟨by rfl, ?_⟩) (HG.out _ hHB) ?_
    rotate_left
    · (intro w hSw; (try dsimp only at hSw); go_simp; try (with_reducible rfl))
    simp only [Act.put, List.setIfInBounds_toArray, List.set_cons_zero, List.set_cons_succ]
    refine wpAnyH_take (i := 22) (v := ?_) (by (simp only [List.getElem?_toArray, List.getElem?_cons_succ, List.getElem?_cons_zero]; rfl)) (by kernel_rfl) (by kernel_rfl) (by kernel_rfl) (by intro _ _ _ h; exact h) (Or.inl ⟨by rfl, ?_⟩) (HG.out _ hHB) ?_
    rotate_left
    · (intro w hSw; (try dsimp only at hSw); go_simp; try (with_reducible rfl))
    simp only [Act.put, List.setIfInBounds_toArray, List.set_cons_zero, List.set_cons_succ]
    refine wpAnyH_ready (rs := [23]) (by kernel_rfl) (by simp) ?_
    refine AllReadyH.cons (by (simp only [List.getElem?_toArray, List.getElem?_cons_succ, List.getElem?_cons_zero]; rfl)) (fun K hK => ?_) AllReadyH.nil
    go_simp
    (go_at_call 17; (refine (HS2.out _ _ (HRZ12.out _ hHB) (HRA12.out _ hHB)).mono ?_); rintro e wy ⟨rfl, hbx⟩; go_wp2_with fail)
    have hHB := hHB.trans (hbx.mono hHB.size)
    refine hK.out _ _ (HG.out _ hHB) (fun hHeld => ?_)
    clear hK K hbx hHeld
    try simp only [Act.put, List.setIfInBounds_toArray, List.set_cons_zero, List.set_cons_succ]
    refine wpAnyH_take (i := 24) (v := ?_) (by (simp only [List.getElem?_toArray, List.getElem?_cons_succ, List.getElem?_cons_zero]; rfl)) (by kernel_rfl) (by kernel_rfl) (by kernel_rfl) (by intro _ _ _ h; exact h) (Or.inl ⟨by rfl, ?_⟩) (HG.out _ hHB) ?_
    rotate_left
    · (intro w hSw; (try dsimp only at hSw); go_simp; try (with_reducible rfl))
    simp only [Act.put, List.setIfInBounds_toArray, List.set_cons_zero, List.set_cons_succ]
    refine wpAnyH_take (i := 25) (v := ?_) (by (simp only [List.getElem?_toArray, List.getElem?_cons_succ, List.getElem?_cons_zero]; rfl)) (by kernel_rfl) (by kernel_rfl) (by kernel_rfl) (by intro _ _ _ h; exact h) (Or.inl ⟨by rfl, ?_⟩) (HG.out _ hHB) ?_
    rotate_left
    · (intro w hSw; (try dsimp only at hSw); go_simp; try (with_reducible rfl))
    simp only [Act.put, List.setIfInBounds_toArray, List.set_cons_zero, List.set_cons_succ]
    refine wpAnyH_take (i := 26) (v := ?_) (by (simp only [List.getElem?_toArray, List.getElem?_cons_succ, List.getElem?_cons_zero]; rfl)) (by kernel_rfl) (by kernel_rfl) (by kernel_rfl) (by intro _ _ _ h; exact h) (Or.inl ⟨by rfl, ?_⟩) (HG.out _ hHB) ?_
    rotate_left
    · (intro w hSw; (try dsimp only at hSw); go_simp; try (with_reducible rfl))
    simp only [Act.put, List.setIfInBounds_toArray, List.set_cons_zero, List.set_cons_succ]
    refine wpAnyH_take (i := 27) (v := ?_) (by (simp only [List.getElem?_toArray, List.getElem?_cons_succ, List.getElem?_cons_zero]; rfl)) (by kernel_rfl) (by kernel_rfl) (by kernel_rfl) (by intro _ _ _ h; exact h) (Or.inl ⟨by rfl, ?_⟩) (HG.out _ hHB) ?_
    rotate_left
    · (intro w hSw; (try dsimp only at hSw); go_simp; try (with_reducible rfl))
    simp only [Act.put, List.setIfInBounds_toArray, List.set_cons_zero, List.set_cons_succ]
    refine wpAnyH_ready (rs := [28]) (by kernel_rfl) (by simp) ?_
    refine AllReadyH.cons (by (simp only [List.getElem?_toArray, List.getElem?_cons_succ, List.getElem?_cons_zero]; rfl)) (fun K hK => ?_) AllReadyH.nil
    go_simp
    (go_at_call 10; (refine (HED3.out _ (HRA12.out _ hHB)).mono ?_); rintro e wy ⟨vn, rfl, hrn, hbx⟩; go_wp2_with fail)
    obtain ⟨na, nc, rfl⟩ := hrn.shape
    have hHB := hHB.trans (hbx.mono hHB.size)
    refine hK.out _ _ (HG.out _ hHB) (fun hHeld => ?_)
    clear hK K hbx hHeld
    try simp only [Act.put, List.setIfInBounds_toArray, List.set_cons_zero, List.set_cons_succ]
    refine wpAnyH_take (i := 29) (v := ?_) (by (simp only [List.getElem?_toArray, List.getElem?_cons_succ, List.getElem?_cons_zero]; rfl)) (by kernel_rfl) (by kernel_rfl) (by kernel_rfl) (by intro _ _ _ h; exact h) (Or.inl ⟨by rfl, ?_⟩) (HG.out _ hHB) ?_
    rotate_left
    · (intro w hSw; (try dsimp only at hSw); go_simp; try (with_reducible rfl))
    simp only [Act.put, List.setIfInBounds_toArray, List.set_cons_zero, List.set_cons_succ]
    refine wpAnyH_take (i := 30) (v := ?_) (by (simp only [List.getElem?_toArray, List.getElem?_cons_succ, List.getElem?_cons_zero]; rfl)) (by kernel_rfl) (by kernel_rfl) (by kernel_rfl) (by intro _ _ _ h; exact h) (Or.inl ⟨by rfl, ?_⟩) (HG.out _ hHB) ?_
    rotate_left
    · (intro w hSw; (try dsimp only at hSw); go_simp; try (with_reducible rfl))
    simp only [Act.put, List.setIfInBounds_toArray, List.set_cons_zero, List.set_cons_succ]
    refine wpAnyH_take (i := 31) (v := ?_) (by (simp only [List.getElem?_toArray, List.getElem?_cons_succ, List.getElem?_cons_zero]; rfl)) (by kernel_rfl) (by kernel_rfl) (by kernel_rfl) (by intro _ _ _ h; exact h) (Or.inl ⟨by rfl, ?_⟩) (HG.out _ hHB) ?_
    rotate_left
    · (intro w hSw; (try dsimp only at hSw); go_simp; try (with_reducible rfl))
    simp only [Act.put, List.setIfInBounds_toArray, List.set_cons_zero, List.set_cons_succ]
    refine wpAnyH_take (i := 32) (v := ?_) (by (simp only [List.getElem?_toArray, List.getElem?_cons_succ, List.getElem?_cons_zero]; rfl)) (by kernel_rfl) (by kernel_rfl) (by kernel_rfl) (by intro _ _ _ h; exact h) (Or.inl ⟨by rfl, ?_⟩) (HG.out _ hHB) ?_
    rotate_left
    · (intro w hSw; (try dsimp only at hSw); go_simp; try (with_reducible rfl))
    simp only [Act.put, List.setIfInBounds_toArray, List.set_cons_zero, List.set_cons_succ]
    refine wpAnyH_take (i := 33) (v := ?_) (by (simp only [List.getElem?_toArray, List.getElem?_cons_succ, List.getElem?_cons_zero]; rfl)) (by kernel_rfl) (by kernel_rfl) (by kernel_rfl) (by intro _ _ _ h; exact h) (Or.inl ⟨by rfl, ?_⟩) (HG.out _ hHB) ?_
    rotate_left
    · (intro w hSw; (try dsimp only at hSw); go_simp; try (with_reducible rfl))
    simp only [Act.put, List.setIfInBounds_toArray, List.set_cons_zero, List.set_cons_succ]
    refine wpAnyH_take (i := 35) (v := ?_) (by (simp only [List.getElem?_toArray, List.getElem?_cons_succ, List.getElem?_cons_zero]; rfl)) (by kernel_rfl) (by kernel_rfl) (by kernel_rfl) (by intro _ _ _ h; exact h) (Or.inl ⟨by rfl, ?_⟩) (HG.out _ hHB) ?_
    rotate_left
    · (intro w hSw; (try dsimp only at hSw); go_simp; try (with_reducible rfl))
    simp only [Act.put, List.setIfInBounds_toArray, List.set_cons_zero, List.set_cons_succ]
    refine wpAnyH_take (i := 36) (v := ?_) (by (simp only [List.getElem?_toArray, List.getElem?_cons_succ, List.getElem?_cons_zero]; rfl)) (by kernel_rfl) (by kernel_rfl) (by kernel_rfl) (by intro _ _ _ h; exact h) (Or.inl ⟨by rfl, ?_⟩) (HG.out _ hHB) ?_
    rotate_left
    · (intro w hSw; (try dsimp only at hSw); go_simp; try (with_reducible rfl))
    simp only [Act.put, List.setIfInBounds_toArray, List.set_cons_zero, List.set_cons_succ]
    refine wpAnyH_ready (rs := [34]) (by kernel_rfl) (by simp) ?_
    refine AllReadyH.cons (by (simp only [List.getElem?_toArray, List.getElem?_cons_succ, List.getElem?_cons_zero]; rfl)) (fun K hK => ?_) AllReadyH.nil
    go_simp
    (go_at_call 19; (refine (HTU.out v5 _ (HE12.out _ hHB)).mono ?_); intro e wy ht; obtain ⟨vt, rfl, hrt, hbx⟩ := HTP.out _ _ _ ht; clear ht; go_wp2_with fail)
    have hHB := hHB.trans (hbx.mono hHB.size)
    refine hK.out _ _ (HG.out _ hHB) (fun hHeld => ?_)
    clear hK K hbx hHeld
    try simp only [Act.put, List.setIfInBounds_toArray, List.set_cons_zero, List.set_cons_succ]
    refine wpAnyH_ready (rs := [37]) (by kernel_rfl) (by simp) ?_
    refine AllReadyH.cons (by (simp only [List.getElem?_toArray, List.getElem?_cons_succ, List.getElem?_cons_zero]; rfl)) (fun K hK => ?_) AllReadyH.nil
    go_simp
    (go_at_call 10; (refine (HED2.out _ (HRB12.out _ hHB) (HRA12.out _ hHB)).mono ?_); rintro e wy ⟨vn2, rfl, hrn2, hbx⟩; go_wp2_with fail)
    have hrt := hrt.below hbx (Nat.le_refl _)
    have hHB := hHB.trans (hbx.mono hHB.size)
    refine hK.out _ _ (HG.out _ hHB) (fun hHeld => ?_)
    clear hK K hbx hHeld
    try simp only [Act.put, List.setIfInBounds_toArray, List.set_cons_zero, List.set_cons_succ]
    refine wpAnyH_ready (rs := [38]) (by kernel_rfl) (by simp) ?_
    refine AllReadyH.cons (by (simp only [List.getElem?_toArray, List.getElem?_cons_succ, List.getElem?_cons_zero]; rfl)) (fun K hK => ?_) AllReadyH.nil
    go_simp
    (go_at_call 11; (refine (HSE.out _ _ _ hrt hrn2).mono ?_); rintro e wy ⟨rfl, hbx⟩; go_wp2_with fail)
    have hHB := hHB.trans (hbx.mono hHB.size)
    refine hK.out _ _ (HG.out _ hHB) (fun hHeld => ?_)
    clear hK K hbx hHeld
    try simp only [Act.put, List.setIfInBounds_toArray, List.set_cons_zero, List.set_cons_succ]
    refine wpAnyH_take (i := 39) (v := ?_) (by (simp only [List.getElem?_toArray, List.getElem?_cons_succ, List.getElem?_cons_zero]; rfl)) (by kernel_rfl) (by kernel_rfl) (by kernel_rfl) (by intro _ _ _ h; exact h) (Or.inl ⟨by rfl, ?_⟩) (HG.out _ hHB) ?_
    rotate_left
    · (intro w hSw; (try dsimp only at hSw); go_simp; try (with_reducible rfl))
    simp only [Act.put, List.setIfInBounds_toArray, List.set_cons_zero, List.set_cons_succ]
    refine wpAnyH_take (i := 40) (v := ?_) (by (simp only [List.getElem?_toArray, List.getElem?_cons_succ, List.getElem?_cons_zero]; rfl)) (by kernel_rfl) (by kernel_rfl) (by kernel_rfl) (by intro _ _ _ h; exact h) (Or.inl ⟨by rfl, ?_⟩) (HG.out _ hHB) ?_
    rotate_left
    · (intro w hSw; (try dsimp only at hSw); go_simp; try (with_reducible rfl))
    simp only [Act.put, List.setIfInBounds_toArray, List.set_cons_zero, List.set_cons_succ]
    refine wpAnyH_ready (rs := [41]) (by kernel_rfl) (by simp) ?_
    refine AllReadyH.cons (by (simp only [List.getElem?_toArray, List.getElem?_cons_succ, List.getElem?_cons_zero]; rfl)) (fun K hK => ?_) AllReadyH.nil
    go_simp
    (go_at_call 9; (refine (HLV.out _).mono ?_); rintro e wy ⟨rfl, hbx⟩; go_wp2_with fail)
    have hHB := hHB.trans (hbx.mono hHB.size)
    refine hK.out _ _ (HG.out _ hHB) (fun hHeld => ?_)
    clear hK K hbx hHeld
    try simp only [Act.put, List.setIfInBounds_toArray, List.set_cons_zero, List.set_cons_succ]
    refine wpAnyH_take (i := 42) (v := ?_) (by (simp only [List.getElem?_toArray, List.getElem?_cons_succ, List.getElem?_cons_zero]; rfl)) (by kernel_rfl) (by kernel_rfl) (by kernel_rfl) (by intro _ _ _ h; exact h) (Or.inl ⟨by rfl, ?_⟩) (HG.out _ hHB) ?_
    rotate_left
    · (intro w hSw; (try dsimp only at hSw); go_simp; try (with_reducible rfl))
    simp only [Act.put, List.setIfInBounds_toArray, List.set_cons_zero, List.set_cons_succ]
    refine wpAnyH_take (i := 43) (v := ?_) (by (simp only [List.getElem?_toArray, List.getElem?_cons_succ, List.getElem?_cons_zero]; rfl)) (by kernel_rfl) (by kernel_rfl) (by kernel_rfl) (by intro _ _ _ h; exact h) (Or.inl ⟨by rfl, ?_⟩) (HG.out _ hHB) ?_
    rotate_left
    · (intro w hSw; (try dsimp only at hSw); go_simp; try (with_reducible rfl))
    simp only [Act.put, List.setIfInBounds_toArray, List.set_cons_zero, List.set_cons_succ]
    refine wpAnyH_done (by kernel_rfl) ?_ _
    have HFIN := Lib.hid (HB6.out.trans ((HB12.out.trans (hHB.mono HB12.out.size)).mono HB6.out.size))
    clear hHB
    go_wp2
    go_ret
    exact ⟨rfl, HFIN.out⟩
end Go.Proofs.Ytoibanffaebllaa
