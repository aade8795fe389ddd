/-
  Layer 5: the card BoundsBoth: just what both of two ranges have their meeting has; it may be, or has no interval. For every input. Own work.
-/
import Derived.Test.YtnghagikchffiaaDoorHas5
import Derived.Test.YtnghagikchffiaaDoorRefMay5
import Derived.Test.YtnghagikchffiaaDoorMeet5b
import Derived.Test.YtnghagikchffiaaDoorDoor
import Derived.Deep.Cut
import Derived.Deep.CutRange
import Derived.Lib.LaidU8
namespace Go.Proofs.YtnghagikchffiaaDoor
set_option linter.unusedVariables false
set_option linter.unusedSimpArgs false
open Go.ChangeShapes Go.WideShapes Go.ChangeAt Go.RowKit
open Go.ChangeMaps (open_string shut_string)

theorem meet_has (h1 : Bool) (v1 : ByteArray) (l1 : List Iv) (h2 : Bool) (v2 : ByteArray) (l2 : List Iv) (t : ByteArray) : hasB (meetR h1 v1 l1 h2 v2 l2).1 (meetR h1 v1 l1 h2 v2 l2).2.2 t = (hasB h1 l1 t && hasB h2 l2 t) := by
  unfold meetR
  cases h1 <;> cases h2
  · simp [hasB]
  · simp [hasB]
  · simp [hasB]
  · simp [hasB, any_meet]
theorem meet_may (h1 : Bool) (v1 : ByteArray) (l1 : List Iv) (h2 : Bool) (v2 : ByteArray) (l2 : List Iv) (m1 : mayB h1 v1 l1 = true) (m2 : mayB h2 v2 l2 = true) (n1 : l1.length ≤ 20) (n2 : l2.length ≤ 20) :
    mayB (meetR h1 v1 l1 h2 v2 l2).1 (meetR h1 v1 l1 h2 v2 l2).2.1 (meetR h1 v1 l1 h2 v2 l2).2.2 = true ∨ ((meetR h1 v1 l1 h2 v2 l2).1 = true ∧ (meetR h1 v1 l1 h2 v2 l2).2.2.length = 0) := by
  unfold meetR
  cases h1 <;> cases h2
  · exact .inl m1
  · exact .inl m2
  · exact .inl m1
  · have := may_meet m1 m2 n1 n2
    simp only [Bool.or_eq_true, decide_eq_true_eq] at this
    rcases this with h | h
    · exact .inl h
    · exact .inr ⟨rfl, h⟩
theorem meet_small (h1 : Bool) (v1 : ByteArray) (l1 : List Iv) (h2 : Bool) (v2 : ByteArray) (l2 : List Iv) (s1 : ∀ p ∈ l1, smallI p) (s2 : ∀ p ∈ l2, smallI p) (z1 : v1.size ≤ 100000) (z2 : v2.size ≤ 100000) :
    (∀ p ∈ (meetR h1 v1 l1 h2 v2 l2).2.2, smallI p) ∧ (meetR h1 v1 l1 h2 v2 l2).2.1.size ≤ 100000 := by
  unfold meetR
  cases h1 <;> cases h2
  · exact ⟨s1, z1⟩
  · exact ⟨s2, z2⟩
  · exact ⟨s1, z1⟩
  · refine ⟨fun p hp => ?_, show ByteArray.empty.size ≤ 100000 by decide⟩
    obtain ⟨x, hx, y, hy, rfl, _⟩ := mem_meet hp
    have a := s1 x hx
    have b := s2 y hy
    unfold meetI
    constructor
    · show smallE (tightE x.lo y.lo 1)
      rcases tight_or x.lo y.lo 1 with h | h <;> rw [h]
      · exact a.1
      · exact b.1
    · show smallE (tightE x.hi y.hi (-1))
      rcases tight_or x.hi y.hi (-1) with h | h <;> rw [h]
      · exact a.2
      · exact b.2
set_option maxRecDepth 100000 in
set_option maxHeartbeats 4000000 in
theorem walk_BoundsBoth (h1 : Bool) (v1 : ByteArray) (p1 : Value) (l1 : List Iv) (ov1 : okV v1) (ol1 : ∀ p ∈ l1, okV p.lo.ver ∧ okV p.hi.ver) (w : World) (r1 : RdI w p1 l1) (h2 : Bool) (v2 : ByteArray) (p2 : Value) (l2 : List Iv) (ov2 : okV v2) (ol2 : ∀ p ∈ l2, okV p.lo.ver ∧ okV p.hi.ver) (r2 : RdI w p2 l2) (s : ByteArray) (hs : s.size ≤ 9223372036854775807) (hT : Lib.Utf8Tabs 1 2 w) :
    Calls Tryd.prog 6 #[.agg #[.bool h1, .string v1, p1], .agg #[.bool h2, .string v2, p2], .string s] w fun e w' => e = .returned (.bool true) ∧ Below w.heap.size w w' := by
  obtain ⟨a1, c1, rfl⟩ := rd_shape r1
  obtain ⟨a2, c2, rfl⟩ := rd_shape r2
  have HCUT := Lib.hid (fun w => cut_at s hs w)
  have HLV := Lib.hid (fun w' (hb : Below w.heap.size w w') => lives05 w' (Utf8Tabs_below hT hb))
  have HLI1 := Lib.hid (fun w' (hb : Below w.heap.size w w') => Light_at h1 v1 _ l1 ov1 ol1 w' (r1.below hb (Nat.le_refl _)))
  have HLI2 := Lib.hid (fun w' (hb : Below w.heap.size w w') => Light_at h2 v2 _ l2 ov2 ol2 w' (r2.below hb (Nat.le_refl _)))
  have HR1 := Lib.hid r1
  have HR2 := Lib.hid r2
  have hb0 : Below w.heap.size w ((w.alloc (.cells #[.bool h1, .string v1, .slice a1 l1.length c1] 25)).alloc (.cells #[.bool h2, .string v2, .slice a2 l2.length c2] 25)) := ((Below.refl w.heap.size w).alloc (Nat.le_refl _) _).alloc (by simp) _
  have hq1 : ((w.alloc (.cells #[.bool h1, .string v1, .slice a1 l1.length c1] 25)).alloc (.cells #[.bool h2, .string v2, .slice a2 l2.length c2] 25)).heap[w.heap.size]? = some (.cells #[.bool h1, .string v1, .slice a1 l1.length c1] 25 (0, 0)) := (Below.heap_alloc _ _ _ (by simp)).trans (heap_alloc_new w _)
  have hq2 : ((w.alloc (.cells #[.bool h1, .string v1, .slice a1 l1.length c1] 25)).alloc (.cells #[.bool h2, .string v2, .slice a2 l2.length c2] 25)).heap[w.heap.size + 1]? = some (.cells #[.bool h2, .string v2, .slice a2 l2.length c2] 25 (0, 0)) := heap_alloc2_new w _ _
  clear hT ov1 ov2 ol1 ol2 r1 r2 hs
  go_enter Tryd.func6, Tryd.ntmps6
  go_upto_region 1 with fail
  generalize ((w.alloc (.cells #[.bool h1, .string v1, .slice a1 l1.length c1] 25)).alloc (.cells #[.bool h2, .string v2, .slice a2 l2.length c2] 25)) = w1 at hb0 hq1 hq2 ⊢
  have HB1 := Lib.hid hb0
  have Q1 := Lib.hid hq1
  have Q2 := Lib.hid hq2
  obtain ⟨x0, x1, x2, _⟩ := row3_cells hq1
  obtain ⟨y0, y1, y2, _⟩ := row3_cells hq2
  clear hb0 hq1 hq2
  go_wp2_with fail
  refine (HCUT.out _).mono ?_
  rintro e wq ⟨t, rfl, htz, rfl⟩
  go_wp2_with fail
  refine (HLI1.out _ HB1.out).mono ?_
  rintro e w2 ⟨b, rfl, hlight, hb2⟩
  have HLG1 := Lib.hid hlight
  have HB2 := Lib.hid (HB1.out.trans (hb2.mono HB1.out.size))
  have Q1b := Lib.hid (row_b hb2 Q1.out)
  have Q2b := Lib.hid (row_b hb2 Q2.out)
  clear hlight hb2 x0 x1 x2 y0 y1 y2 Q1 Q2 HB1
  cases b
  · clear HLG1
    go_wp2_with fail
    refine (HLV.out _ HB2.out).mono ?_
    rintro e wz ⟨rfl, hbz⟩
    go_wp2
    go_ret
    exact ⟨rfl, (HB2.out).trans (hbz.mono (HB2.out).size)⟩
  have hlg1 := HLG1.out rfl
  obtain ⟨x0, x1, x2, _⟩ := row3_cells Q1b.out
  obtain ⟨y0, y1, y2, _⟩ := row3_cells Q2b.out
  clear HLG1
  have HLG1 := Lib.hid hlg1
  clear hlg1
  go_wp2_with fail
  refine (HLI2.out _ HB2.out).mono ?_
  rintro e w3 ⟨b, rfl, hlight, hb3⟩
  have HLG2' := Lib.hid hlight
  have HB3 := Lib.hid (HB2.out.trans (hb3.mono HB2.out.size))
  have Q1 := Lib.hid (row_b hb3 Q1b.out)
  have Q2 := Lib.hid (row_b hb3 Q2b.out)
  clear hlight hb3 x0 x1 x2 y0 y1 y2 Q1b Q2b HB2
  cases b
  · clear HLG2'
    go_wp2_with fail
    refine (HLV.out _ HB3.out).mono ?_
    rintro e wz ⟨rfl, hbz⟩
    go_wp2
    go_ret
    exact ⟨rfl, (HB3.out).trans (hbz.mono (HB3.out).size)⟩
  have HLG2 := Lib.hid (HLG2'.out rfl)
  clear HLG2'
  have HMY1 := Lib.hid (fun w' (hb : Below w.heap.size w w') => refMay_any h1 v1 _ l1 (by have := HLG1.out.2.1; omega) HLG1.out.small w' (HR1.out.below hb (Nat.le_refl _)))
  have HMY2 := Lib.hid (fun w' (hb : Below w.heap.size w w') => refMay_any h2 v2 _ l2 (by have := HLG2.out.2.1; omega) HLG2.out.small w' (HR2.out.below hb (Nat.le_refl _)))
  have HMM := Lib.hid (fun m1 m2 => meet_may h1 v1 l1 h2 v2 l2 m1 m2 HLG1.out.1 HLG2.out.1)
  generalize mayB h1 v1 l1 = m1 at HMY1 HMM
  generalize mayB h2 v2 l2 = m2 at HMY2 HMM
  obtain ⟨x0, x1, x2, _⟩ := row3_cells Q1.out
  obtain ⟨y0, y1, y2, _⟩ := row3_cells Q2.out
  go_wp2_with fail
  refine (HMY1.out _ HB3.out).mono ?_
  rintro e w4 ⟨rfl, hb4⟩
  have HB4 := Lib.hid (HB3.out.trans (hb4.mono HB3.out.size))
  have Q1b := Lib.hid (row_b hb4 Q1.out)
  have Q2b := Lib.hid (row_b hb4 Q2.out)
  clear hb4 x0 x1 x2 y0 y1 y2 Q1 Q2 HB3
  cases m1
  · clear HMM HMY2
    go_wp2_with fail
    refine (HLV.out _ HB4.out).mono ?_
    rintro e wz ⟨rfl, hbz⟩
    go_wp2
    go_ret
    exact ⟨rfl, (HB4.out).trans (hbz.mono (HB4.out).size)⟩
  obtain ⟨x0, x1, x2, _⟩ := row3_cells Q1b.out
  obtain ⟨y0, y1, y2, _⟩ := row3_cells Q2b.out
  go_wp2_with fail
  refine (HMY2.out _ HB4.out).mono ?_
  rintro e w5 ⟨rfl, hb5⟩
  have HB5 := Lib.hid (HB4.out.trans (hb5.mono HB4.out.size))
  have Q1 := Lib.hid (row_b hb5 Q1b.out)
  have Q2 := Lib.hid (row_b hb5 Q2b.out)
  clear hb5 x0 x1 x2 y0 y1 y2 Q1b Q2b HB4
  cases m2
  · clear HMM
    go_wp2_with fail
    refine (HLV.out _ HB5.out).mono ?_
    rintro e wz ⟨rfl, hbz⟩
    go_wp2
    go_ret
    exact ⟨rfl, (HB5.out).trans (hbz.mono (HB5.out).size)⟩
  have HMAY := Lib.hid (HMM.out (by trivial) (by trivial))
  clear HMM HMY1 HMY2
  have hsm := meet_small h1 v1 l1 h2 v2 l2 HLG1.out.small HLG2.out.small (by have := HLG1.out.2.1; omega) (by have := HLG2.out.2.1; omega)
  have hsn := meet_small h2 v2 l2 h1 v1 l1 HLG2.out.small HLG1.out.small (by have := HLG2.out.2.1; omega) (by have := HLG1.out.2.1; omega)
  have hhm := meet_has h1 v1 l1 h2 v2 l2 t
  have hhn := meet_has h2 v2 l2 h1 v1 l1 t
  have HME := Lib.hid (fun RH RV RL hm w' (hb : Below w.heap.size w w') => Meet_at h1 v1 _ l1 h2 v2 _ l2 HLG1.out.small HLG2.out.small (by have := HLG1.out.1; omega) (by have := HLG2.out.1; omega) w' (HR1.out.below hb (Nat.le_refl _)) (HR2.out.below hb (Nat.le_refl _)) RH RV RL hm)
  have HMF := Lib.hid (fun RH RV RL hm w' (hb : Below w.heap.size w w') => Meet_at h2 v2 _ l2 h1 v1 _ l1 HLG2.out.small HLG1.out.small (by have := HLG2.out.1; omega) (by have := HLG1.out.1; omega) w' (HR2.out.below hb (Nat.le_refl _)) (HR1.out.below hb (Nat.le_refl _)) RH RV RL hm)
  have HME2 := Lib.hid (HME.out (meetR h1 v1 l1 h2 v2 l2).1 (meetR h1 v1 l1 h2 v2 l2).2.1 (meetR h1 v1 l1 h2 v2 l2).2.2 rfl)
  have HMF2 := Lib.hid (HMF.out (meetR h2 v2 l2 h1 v1 l1).1 (meetR h2 v2 l2 h1 v1 l1).2.1 (meetR h2 v2 l2 h1 v1 l1).2.2 rfl)
  clear HME HMF
  generalize meetR h1 v1 l1 h2 v2 l2 = R at hsm hhm HME2 HMAY
  generalize meetR h2 v2 l2 h1 v1 l1 = S at hsn hhn HMF2
  obtain ⟨RH, RV, RL⟩ := R
  obtain ⟨SH, SV, SL⟩ := S
  simp only at hsm hsn hhm hhn HME2 HMF2 HMAY
  have HHA := Lib.hid (fun w' (hb : Below w.heap.size w w') => has_at (ver := v1) (b := hasB h1 l1 t) rfl HLG1.out.small (show t.size ≤ 100000 by omega) w' (HR1.out.below hb (Nat.le_refl _)))
  have HHB := Lib.hid (fun w' (hb : Below w.heap.size w w') => has_at (ver := v2) (b := hasB h2 l2 t) rfl HLG2.out.small (show t.size ≤ 100000 by omega) w' (HR2.out.below hb (Nat.le_refl _)))
  have HHM := Lib.hid (fun pv w' (hr : RdI w' pv RL) => has_at (ver := RV) (b := hasB h1 l1 t && hasB h2 l2 t) hhm hsm.1 (show t.size ≤ 100000 by omega) w' hr)
  have HHN := Lib.hid (fun pv w' (hr : RdI w' pv SL) => has_at (ver := SV) (b := hasB h1 l1 t && hasB h2 l2 t) (hhn.trans (Bool.and_comm _ _)) hsn.1 (show t.size ≤ 100000 by omega) w' hr)
  have HMB := Lib.hid (fun pv w' (hr : RdI w' pv RL) => May_any RH RV pv RL hsm.2 hsm.1 w' hr)
  generalize hasB h1 l1 t = ha at HHA HHM HHN
  generalize hasB h2 l2 t = hb at HHB HHM HHN
  generalize mayB RH RV RL = mb at HMB HMAY
  clear hsm hsn hhm hhn HLG1 HLG2 HLI1 HLI2 htz
  obtain ⟨x0, x1, x2, _⟩ := row3_cells Q1.out
  obtain ⟨y0, y1, y2, _⟩ := row3_cells Q2.out
  go_wp2_with fail
  refine (HME2.out _ HB5.out).mono ?_
  rintro e w6 ⟨ma, mc, rfl, hrm, hb6⟩
  have hb6a := hb6.alloc hb6.size (.cells #[.bool RH, .string RV, .slice ma RL.length mc] 25)
  have HB6 := Lib.hid (HB5.out.trans (hb6a.mono HB5.out.size))
  have Q1b := Lib.hid (row_b hb6a Q1.out)
  have Q2b := Lib.hid (row_b hb6a Q2.out)
  have QM := Lib.hid (show VarR (w6.alloc (.cells #[.bool RH, .string RV, .slice ma RL.length mc] 25)) w6.heap.size RH RV (.slice ma RL.length mc) RL from VarR.new hrm)
  clear hb6 hb6a hrm x0 x1 x2 y0 y1 y2 Q1 Q2 HB5 HME2
  go_upto_region 5 with fail
  generalize (w6.alloc (.cells #[.bool RH, .string RV, .slice ma RL.length mc] 25)) = w7 at HB6 Q1b Q2b QM ⊢
  generalize w6.heap.size = M at QM ⊢
  obtain ⟨x0, x1, x2, _⟩ := row3_cells Q1b.out
  obtain ⟨y0, y1, y2, _⟩ := row3_cells Q2b.out
  go_wp2_with fail
  refine (HMF2.out _ HB6.out).mono ?_
  rintro e w8 ⟨na, nc, rfl, hrn, hb8⟩
  have hb8a := hb8.alloc hb8.size (.cells #[.bool SH, .string SV, .slice na SL.length nc] 25)
  have HB8 := Lib.hid (HB6.out.trans (hb8a.mono HB6.out.size))
  have Q1 := Lib.hid (row_b hb8a Q1b.out)
  have Q2 := Lib.hid (row_b hb8a Q2b.out)
  have QM8 := Lib.hid (QM.out.below hb8a)
  have QN := Lib.hid (show VarR (w8.alloc (.cells #[.bool SH, .string SV, .slice na SL.length nc] 25)) w8.heap.size SH SV (.slice na SL.length nc) SL from VarR.new hrn)
  clear hb8 hb8a hrn x0 x1 x2 y0 y1 y2 Q1b Q2b HB6 HMF2 QM
  go_upto_region 6 with fail
  generalize (w8.alloc (.cells #[.bool SH, .string SV, .slice na SL.length nc] 25)) = w9 at HB8 Q1 Q2 QM8 QN ⊢
  generalize w8.heap.size = N at QN ⊢
  obtain ⟨x0, x1, x2, _⟩ := row3_cells Q1.out
  obtain ⟨y0, y1, y2, _⟩ := row3_cells Q2.out
  go_cut [9] from 37 to 73 (fun u wx => u = .bool (ha && hb) ∧ Below w9.heap.size w9 wx)
  case first =>
    go_wp2_with fail
    refine (HHA.out _ HB8.out).mono ?_
    rintro e wa ⟨rfl, hba⟩
    have HBA := Lib.hid hba
    have q2 := row_b hba Q2.out
    have HBW := Lib.hid (HB8.out.trans (hba.mono HB8.out.size))
    clear hba x0 x1 x2 y0 y1 y2
    cases ha
    · clear q2
      go_wp2_with fail
      go_meet
      exact ⟨rfl, HBA.out⟩
    · obtain ⟨y0, y1, y2, _⟩ := row3_cells q2
      clear q2
      go_wp2_with fail
      refine (HHB.out _ HBW.out).mono ?_
      rintro e wb ⟨rfl, hbb⟩
      have HBB := Lib.hid (HBA.out.trans (hbb.mono HBA.out.size))
      clear hbb y0 y1 y2
      go_wp2_with fail
      go_meet
      exact ⟨congrArg Value.bool (by simp), HBB.out⟩
  case rest =>
    obtain ⟨rfl, hbx⟩ := hcut
    generalize (ha && hb) = bb at HHM HHN ⊢
    have QM9 := Lib.hid (QM8.out.below hbx)
    have QN9 := Lib.hid (QN.out.below hbx)
    have HBX := Lib.hid (HB8.out.trans (hbx.mono HB8.out.size))
    clear hbx x0 x1 x2 y0 y1 y2 Q1 Q2 HB8 QM8 QN HHA HHB
    obtain ⟨x0, x1, x2⟩ := QM9.out.cells
    go_wp2_with fail
    refine (HHM.out _ _ QM9.out.2).mono ?_
    rintro e wa ⟨rfl, hba⟩
    have QMa := Lib.hid (QM9.out.below hba)
    have QNa := Lib.hid (QN9.out.below hba)
    have HBA := Lib.hid (HBX.out.trans (hba.mono HBX.out.size))
    clear hba x0 x1 x2 QM9 QN9 HBX
    obtain ⟨y0, y1, y2⟩ := QNa.out.cells
    go_wp2_with fail
    refine (HHN.out _ _ QNa.out.2).mono ?_
    rintro e wb ⟨rfl, hbb⟩
    have QMb := Lib.hid (QMa.out.below hbb)
    have HBB := Lib.hid (HBA.out.trans (hbb.mono HBA.out.size))
    clear hbb y0 y1 y2 QMa QNa HBA
    obtain ⟨x0, x1, x2⟩ := QMb.out.cells
    go_wp2_with fail
    refine (HMB.out _ _ QMb.out.2).mono ?_
    rintro e wc ⟨rfl, hbc⟩
    have QMc := Lib.hid (QMb.out.below hbc)
    have HBC := Lib.hid (HBB.out.trans (hbc.mono HBB.out.size))
    clear hbc x0 x1 x2 QMb HBB
    cases mb
    · obtain ⟨rfl, hl0⟩ : RH = true ∧ RL.length = 0 := by
        rcases HMAY.out with h | h
        · cases h
        · exact h
      obtain rfl := List.length_eq_zero_iff.1 hl0
      obtain ⟨x0, x1, x2⟩ := QMc.out.cells
      go_wp2_with fail
      refine (HLV.out _ HBC.out).mono ?_
      rintro e wz ⟨rfl, hbz⟩
      go_wp2
      go_ret
      exact ⟨rfl, (HBC.out).trans (hbz.mono (HBC.out).size)⟩
    · clear HMAY
      go_wp2_with fail
      refine (HLV.out _ HBC.out).mono ?_
      rintro e wz ⟨rfl, hbz⟩
      go_wp2
      go_ret
      exact ⟨rfl, (HBC.out).trans (hbz.mono (HBC.out).size)⟩

theorem laid_met_BoundsBoth (os : Os) : laidMet Tryd.prog Rows.boundsBothRow.laid ((laidWorld #[.agg #[.bool false, .string .empty, .slice none 0 0], .agg #[.bool false, .string .empty, .slice none 0 0], .string .empty] os).forCall (fun _ _ => 0) ⟨#[], #[.agg #[.bool false, .string .empty, .slice none 0 0], .agg #[.bool false, .string .empty, .slice none 0 0], .string .empty], []⟩).memory :=
  laidMet_of_run' 8 (by kernel_rfl) (by kernel_rfl)
theorem reads_BoundsBoth (os : Os) {H : Type} (enc : TypeId × Value → H) : ∃ places, DataW.whole enc Tryd.prog ((laidWorld #[.agg #[.bool false, .string .empty, .slice none 0 0], .agg #[.bool false, .string .empty, .slice none 0 0], .string .empty] os).forCall (fun _ _ => 0) ⟨#[], #[.agg #[.bool false, .string .empty, .slice none 0 0], .agg #[.bool false, .string .empty, .slice none 0 0], .string .empty], []⟩).memory Tryd.f6.params.toList Rows.boundsBothSpec.vars false (#[.agg #[.bool false, .string .empty, .slice none 0 0], .agg #[.bool false, .string .empty, .slice none 0 0], .string .empty] : Array Value).toList 8 = some ([.agg [.lit (.bool false), .lit (.string []), .nil], .agg [.lit (.bool false), .lit (.string []), .nil], .lit (.string [])], [], places) :=
  ⟨[], by kernel_rfl⟩
set_option maxRecDepth 100000 in
theorem lifted_BoundsBoth (os : Os) (started : os.Started) (H : Type) (enc : TypeId × Value → H) (F : Stop.Interp) :
    ReturnsInHanded {} Tryd.checked os 6 .any ((OpenSpec.ofChange Rows.boundsBothSpec).preRow enc Tryd.prog Tryd.f6 Rows.boundsBothRow.domain false Rows.boundsBothRow.laid) (((OpenSpec.ofChange Rows.boundsBothSpec).at F).post enc Tryd.prog Tryd.f6 false true false false) := by
  obtain ⟨places, hx⟩ := reads_BoundsBoth os enc
  refine returnsInHanded_of_row (C := Tryd.checked) (s := OpenSpec.ofChange Rows.boundsBothSpec) own_knob started (by kernel_rfl) Tryd.func6
    (witness_row_at (enc := enc) (C := Tryd.checked) false (laidWorld #[.agg #[.bool false, .string .empty, .slice none 0 0], .agg #[.bool false, .string .empty, .slice none 0 0], .string .empty] os) #[.agg #[.bool false, .string .empty, .slice none 0 0], .agg #[.bool false, .string .empty, .slice none 0 0], .string .empty] rfl (by kernel_rfl) (by kernel_rfl) (by kernel_rfl)
      (OpenSpec.preRow_of_cond 8 hx (by kernel_rfl) (fun k hk => by cases hk) (by kernel_rfl) (laid_met_BoundsBoth os))) ?_
  intro W base args ds gs before hval0 hW _ _ _ hL hsh _
  have hU : Lib.Utf8Tabs 1 2 W :=
    utf8Tabs_of_reads (ρ := Tryd.lays260_ren) { Tryd.lays260 with } ⟨by kernel_rfl, by kernel_rfl, by kernel_rfl, by kernel_rfl, by kernel_rfl, by kernel_rfl, by kernel_rfl⟩ (Lib.laidMet.reads hL (.tail _ (.head _))) (Lib.laidMet.reads hL (.head _))
  have hval : ∀ (j : Nat) t v, Tryd.f6.params[j]? = some t → args[j]? = some v → Value.okWide Tryd.prog W .any base t v := hval0
  have hW' := hW
  obtain ⟨p, q, hA0, hV, rfl, _, _⟩ := hW
  have hA : DataW.TrodAll enc Tryd.prog W 0 (fun _ => true) true Tryd.f6.params.toList args.toList ds p := hA0
  rw [Tryd.params6] at hA hval
  obtain ⟨v0, vs0, d0, ds0, p0, q0, hargs, rfl, rfl, h0, r0⟩ := trodAll_cons hA
  obtain ⟨v1, vs1, d1, ds1, p1, q1, rfl, rfl, rfl, h1, r1⟩ := trodAll_cons r0
  obtain ⟨v2, vs2, d2, ds2, p2, q2, rfl, rfl, rfl, h2, r2⟩ := trodAll_cons r1
  obtain ⟨rfl, rfl, rfl⟩ := trodAll_nil r2
  obtain rfl : args = #[v0, v1, v2] := by cases args; simp_all
  obtain ⟨rfl, rfl⟩ := trodVars_none hV
  obtain ⟨hd0, vr0, pv0, l0, rfl, rd0, ov0, ol0⟩ := open_range (hval 0 25 v0 rfl rfl) h0
  obtain ⟨hd1, vr1, pv1, l1, rfl, rd1, ov1, ol1⟩ := open_range (hval 1 25 v1 rfl rfl) h1
  obtain ⟨a2, rfl, rfl, rfl, w2⟩ := open_string Tryd.underlying9 (hval 2 9 v2 rfl rfl) h2
  clear hA0 hval0
  refine (walk_BoundsBoth hd0 vr0 pv0 l0 ov0 ol0 W rd0 hd1 vr1 pv1 l1 ov1 ol1 rd1 a2 (by unfold maxLen at w2; exact w2) hU).mono fun e W' ⟨he, hb⟩ => ?_
  subst he
  exact ⟨_, rfl, law_post (by kernel_rfl) rfl rfl rfl hW' hb⟩
theorem said_BoundsBoth : Rows.BoundsBothSaid :=
  OpenClaim.holds_of_cond 6 Tryd.f6 rfl rfl rfl rfl rfl rfl rfl ⟨rfl, rfl, rfl, rfl, rfl⟩ rfl rfl rfl rfl rfl (by kernel_rfl) Tryd.func6 (by kernel_rfl)
    (of_decide_eq_true (by kernel_rfl)) (by unfold Func.isWrapper; first | (rw [if_pos (by decide +kernel)]; kernel_rfl) | (rw [if_neg (by decide +kernel)]; exact ⟨rfl, rfl⟩))
    (fun os started H enc _ F => by rw [OpenClaim.pre_eq_preRow]; exact lifted_BoundsBoth os started H enc F)
set_option maxRecDepth 100000 in
theorem plain_BoundsBoth (f : FuncId) (fn : Func) (hf : Tryd.pinned.checked.prog.funcNamed "pomace/pomacelaw05.BoundsBoth" = some f) (hfn : Tryd.pinned.checked.prog.funcs[f]? = some fn) :
    true = Tryd.pinned.checked.prog.looks [] ∧ ∀ (j : Nat) t, fn.params[j]? = some t → Tryd.pinned.checked.prog.wantsStandIn t = false := by
  obtain rfl : f = 6 := Option.some.inj ((show Tryd.prog.funcNamed "pomace/pomacelaw05.BoundsBoth" = some 6 by kernel_rfl).symm.trans hf) |>.symm
  obtain rfl : fn = Tryd.f6 := (Option.some.inj (Tryd.func6.symm.trans hfn)).symm
  refine ⟨by kernel_rfl, fun j t ht => ?_⟩
  rw [Tryd.params6] at ht
  have h := Array.mem_of_getElem? ht
  simp only [List.mem_toArray, List.mem_cons, List.not_mem_nil, or_false] at h
  rcases h with rfl | rfl | rfl
  all_goals first
    | exact (show Tryd.prog.wantsStandIn 25 = false by kernel_rfl)
    | exact (show Tryd.prog.wantsStandIn 9 = false by kernel_rfl)

/-- the statement of BoundsBoth: its card -/
theorem proved_BoundsBoth : Rows.BoundsBothCardSaid :=
  Claim7.holds_tied_plain_at .later [] _ _ _ _ said_BoundsBoth (fun _ h => by cases h) (by kernel_rfl) (fun _ h => by cases h) boundsBoth_row_tie rfl ⟨rfl, rfl⟩ (by kernel_rfl) rfl plain_BoundsBoth (by kernel_rfl)
end Go.Proofs.YtnghagikchffiaaDoor
