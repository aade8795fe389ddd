/-
  Layer 10: the statement ChainMerges: any project merged with any other one is what the document says, and what is handed in stays. For every input. Own work.
-/
import Derived.Test.YtjkmmmmbdfcnbaaLaw10
namespace Go.Proofs.Ytjkmmmmbdfcnbaa
set_option linter.unusedVariables false
set_option linter.unusedSimpArgs false
open Go.ChangeShapes Go.WideShapes Go.ChangeAt Go.RowKit

set_option maxRecDepth 100000 in
set_option maxHeartbeats 8000000 in
theorem walk_ChainMerges (va vb vc va2 vb2 vc2 : Value) (c p : Pm) (hok : okPm c) (hok2 : okPm p) (w : World) (hc : RdP w va vb vc c) (hp : RdP w va2 vb2 vc2 p) :
    Calls Try.prog 3 #[pmV va vb vc c, pmV va2 vb2 vc2 p] w fun e w' => e = .returned (.bool true) ∧ Below w.heap.size w w' := by
  obtain ⟨a1, ak1, a2, ak2, a3, ak3, rfl, rfl, rfl⟩ := hc.shapes
  obtain ⟨b1, bk1, b2, bk2, b3, bk3, rfl, rfl, rfl⟩ := hp.shapes
  have hb0 : Below w.heap.size w ((w.alloc (.cells #[.bool c.hp, .string c.pg, .string c.pa, .string c.pv, .string c.g, .string c.a, .string c.v, .string c.pk, .slice a1 c.ps.length ak1, .slice a2 c.ms.length ak2, .slice a3 c.ds.length ak3] 27)).alloc (.cells #[.bool p.hp, .string p.pg, .string p.pa, .string p.pv, .string p.g, .string p.a, .string p.v, .string p.pk, .slice b1 p.ps.length bk1, .slice b2 p.ms.length bk2, .slice b3 p.ds.length bk3] 27)) := ((Below.refl w.heap.size w).alloc (Nat.le_refl _) _).alloc (by simp) _
  have hC : ((w.alloc (.cells #[.bool c.hp, .string c.pg, .string c.pa, .string c.pv, .string c.g, .string c.a, .string c.v, .string c.pk, .slice a1 c.ps.length ak1, .slice a2 c.ms.length ak2, .slice a3 c.ds.length ak3] 27)).alloc (.cells #[.bool p.hp, .string p.pg, .string p.pa, .string p.pv, .string p.g, .string p.a, .string p.v, .string p.pk, .slice b1 p.ps.length bk1, .slice b2 p.ms.length bk2, .slice b3 p.ds.length bk3] 27)).heap[w.heap.size]? = some (.cells #[.bool c.hp, .string c.pg, .string c.pa, .string c.pv, .string c.g, .string c.a, .string c.v, .string c.pk, .slice a1 c.ps.length ak1, .slice a2 c.ms.length ak2, .slice a3 c.ds.length ak3] 27 (0, 0)) := (Below.heap_alloc _ _ _ (by simp)).trans (heap_alloc_new w _)
  have hP : ((w.alloc (.cells #[.bool c.hp, .string c.pg, .string c.pa, .string c.pv, .string c.g, .string c.a, .string c.v, .string c.pk, .slice a1 c.ps.length ak1, .slice a2 c.ms.length ak2, .slice a3 c.ds.length ak3] 27)).alloc (.cells #[.bool p.hp, .string p.pg, .string p.pa, .string p.pv, .string p.g, .string p.a, .string p.v, .string p.pk, .slice b1 p.ps.length bk1, .slice b2 p.ms.length bk2, .slice b3 p.ds.length bk3] 27)).heap[w.heap.size + 1]? = some (.cells #[.bool p.hp, .string p.pg, .string p.pa, .string p.pv, .string p.g, .string p.a, .string p.v, .string p.pk, .slice b1 p.ps.length bk1, .slice b2 p.ms.length bk2, .slice b3 p.ds.length bk3] 27 (0, 0)) := by
    have := heap_alloc_new (w.alloc (.cells #[.bool c.hp, .string c.pg, .string c.pa, .string c.pv, .string c.g, .string c.a, .string c.v, .string c.pk, .slice a1 c.ps.length ak1, .slice a2 c.ms.length ak2, .slice a3 c.ds.length ak3] 27)) (.cells #[.bool p.hp, .string p.pg, .string p.pa, .string p.pv, .string p.g, .string p.a, .string p.v, .string p.pk, .slice b1 p.ps.length bk1, .slice b2 p.ms.length bk2, .slice b3 p.ds.length bk3] 27)
    simpa using this
  have HC := Lib.hid (hc.below hb0 (Nat.le_refl _))
  have HP := Lib.hid (hp.below hb0 (Nat.le_refl _))
  have HB0 := Lib.hid hb0
  have HLV := Lib.hid lives10
  have HOK := Lib.hid hok
  have HOK2 := Lib.hid hok2
  obtain ⟨x, hx⟩ : ∃ x, x = mergeM c p := ⟨_, rfl⟩
  have HX := Lib.hid hx
  have HL1 := Lib.hid (fun w' hr => (Light_any c (.slice a1 c.ps.length ak1) (.slice a2 c.ms.length ak2) (.slice a3 c.ds.length ak3) w' hr))
  have HL2 := Lib.hid (fun w' hr => (Light_any p (.slice b1 p.ps.length bk1) (.slice b2 p.ms.length bk2) (.slice b3 p.ds.length bk3) w' hr))
  have HMG := Lib.hid (fun w' hc hp ho ho2 => Merge_x c p x hx (.slice a1 c.ps.length ak1) (.slice a2 c.ms.length ak2) (.slice a3 c.ds.length ak3) (.slice b1 p.ps.length bk1) (.slice b2 p.ms.length bk2) (.slice b3 p.ds.length bk3) w' hc hp ho ho2)
  have HRM := Lib.hid (fun w' hc hp ho ho2 => refMerge_x c p x hx (.slice a1 c.ps.length ak1) (.slice a2 c.ms.length ak2) (.slice a3 c.ds.length ak3) (.slice b1 p.ps.length bk1) (.slice b2 p.ms.length bk2) (.slice b3 p.ds.length bk3) w' hc hp ho ho2)
  unfold pmV at HL1 HL2 HMG HRM ⊢
  clear hc hp hb0 hok hok2 hx
  go_enter Try.func3, Try.ntmps3
  go_upto_region 1 with fail
  generalize ((w.alloc (.cells #[.bool c.hp, .string c.pg, .string c.pa, .string c.pv, .string c.g, .string c.a, .string c.v, .string c.pk, .slice a1 c.ps.length ak1, .slice a2 c.ms.length ak2, .slice a3 c.ds.length ak3] 27)).alloc (.cells #[.bool p.hp, .string p.pg, .string p.pa, .string p.pv, .string p.g, .string p.a, .string p.v, .string p.pk, .slice b1 p.ps.length bk1, .slice b2 p.ms.length bk2, .slice b3 p.ds.length bk3] 27)) = w1 at hC hP HC HP HB0 ⊢
  obtain ⟨P, hPe⟩ : ∃ b, b = w.heap.size + 1 := ⟨_, rfl⟩
  rw [← hPe] at hP
  simp only [← hPe]
  obtain ⟨C, hCe⟩ : ∃ b, b = w.heap.size := ⟨_, rfl⟩
  rw [← hCe] at hC
  simp only [← hCe]
  have HCG := Lib.hid (show w.heap.size ≤ C ∧ w.heap.size ≤ P by omega)
  clear hPe hCe
  have HBX := Lib.hid (show Bx2 C P #[.bool c.hp, .string c.pg, .string c.pa, .string c.pv, .string c.g, .string c.a, .string c.v, .string c.pk, .slice a1 c.ps.length ak1, .slice a2 c.ms.length ak2, .slice a3 c.ds.length ak3] #[.bool p.hp, .string p.pg, .string p.pa, .string p.pv, .string p.g, .string p.a, .string p.v, .string p.pk, .slice b1 p.ps.length bk1, .slice b2 p.ms.length bk2, .slice b3 p.ds.length bk3] w1 from ⟨hC, hP⟩)
  have c0 : w1.cell? ⟨C, 0, none⟩ = some (.bool c.hp) := by rw [cell_of_row w1 C 0 _ _ (0, 0) hC]; rfl
  have c1 : w1.cell? ⟨C, 1, none⟩ = some (.string c.pg) := by rw [cell_of_row w1 C 1 _ _ (0, 0) hC]; rfl
  have c2 : w1.cell? ⟨C, 2, none⟩ = some (.string c.pa) := by rw [cell_of_row w1 C 2 _ _ (0, 0) hC]; rfl
  have c3 : w1.cell? ⟨C, 3, none⟩ = some (.string c.pv) := by rw [cell_of_row w1 C 3 _ _ (0, 0) hC]; rfl
  have c4 : w1.cell? ⟨C, 4, none⟩ = some (.string c.g) := by rw [cell_of_row w1 C 4 _ _ (0, 0) hC]; rfl
  have c5 : w1.cell? ⟨C, 5, none⟩ = some (.string c.a) := by rw [cell_of_row w1 C 5 _ _ (0, 0) hC]; rfl
  have c6 : w1.cell? ⟨C, 6, none⟩ = some (.string c.v) := by rw [cell_of_row w1 C 6 _ _ (0, 0) hC]; rfl
  have c7 : w1.cell? ⟨C, 7, none⟩ = some (.string c.pk) := by rw [cell_of_row w1 C 7 _ _ (0, 0) hC]; rfl
  have c8 : w1.cell? ⟨C, 8, none⟩ = some (.slice a1 c.ps.length ak1) := by rw [cell_of_row w1 C 8 _ _ (0, 0) hC]; rfl
  have c9 : w1.cell? ⟨C, 9, none⟩ = some (.slice a2 c.ms.length ak2) := by rw [cell_of_row w1 C 9 _ _ (0, 0) hC]; rfl
  have c10 : w1.cell? ⟨C, 10, none⟩ = some (.slice a3 c.ds.length ak3) := by rw [cell_of_row w1 C 10 _ _ (0, 0) hC]; rfl
  clear hC hP
  go_wp2_with fail
  refine (HL1.out _ HC.out).mono ?_
  rintro e w2 ⟨lb, rfl, hlb, hb2⟩
  have HLB := Lib.hid hlb
  have HB2 := Lib.hid hb2
  clear c0 c1 c2 c3 c4 c5 c6 c7 c8 c9 c10 hlb hb2
  cases lb
  · go_wp2_with fail
    refine (HLV.out _).mono ?_
    rintro e wz ⟨rfl, hbz⟩
    have HZ := Lib.hid (HB0.out.trans ((HB2.out.trans (hbz.mono HB2.out.size)).mono HB0.out.size))
    clear hbz
    go_wp2
    go_ret
    exact ⟨rfl, HZ.out⟩
  have HOC := Lib.hid (ok_of HOK.out (HLB.out rfl))
  have hbx := HBX.out.below HB2.out
  have p0 : w2.cell? ⟨P, 0, none⟩ = some (.bool p.hp) := by rw [cell_of_row w2 P 0 _ _ (0, 0) hbx.2]; rfl
  have p1 : w2.cell? ⟨P, 1, none⟩ = some (.string p.pg) := by rw [cell_of_row w2 P 1 _ _ (0, 0) hbx.2]; rfl
  have p2 : w2.cell? ⟨P, 2, none⟩ = some (.string p.pa) := by rw [cell_of_row w2 P 2 _ _ (0, 0) hbx.2]; rfl
  have p3 : w2.cell? ⟨P, 3, none⟩ = some (.string p.pv) := by rw [cell_of_row w2 P 3 _ _ (0, 0) hbx.2]; rfl
  have p4 : w2.cell? ⟨P, 4, none⟩ = some (.string p.g) := by rw [cell_of_row w2 P 4 _ _ (0, 0) hbx.2]; rfl
  have p5 : w2.cell? ⟨P, 5, none⟩ = some (.string p.a) := by rw [cell_of_row w2 P 5 _ _ (0, 0) hbx.2]; rfl
  have p6 : w2.cell? ⟨P, 6, none⟩ = some (.string p.v) := by rw [cell_of_row w2 P 6 _ _ (0, 0) hbx.2]; rfl
  have p7 : w2.cell? ⟨P, 7, none⟩ = some (.string p.pk) := by rw [cell_of_row w2 P 7 _ _ (0, 0) hbx.2]; rfl
  have p8 : w2.cell? ⟨P, 8, none⟩ = some (.slice b1 p.ps.length bk1) := by rw [cell_of_row w2 P 8 _ _ (0, 0) hbx.2]; rfl
  have p9 : w2.cell? ⟨P, 9, none⟩ = some (.slice b2 p.ms.length bk2) := by rw [cell_of_row w2 P 9 _ _ (0, 0) hbx.2]; rfl
  have p10 : w2.cell? ⟨P, 10, none⟩ = some (.slice b3 p.ds.length bk3) := by rw [cell_of_row w2 P 10 _ _ (0, 0) hbx.2]; rfl
  clear hbx
  go_wp2_with fail
  refine (HL2.out _ (HP.out.below HB2.out (Nat.le_refl _))).mono ?_
  rintro e w3 ⟨lb2, rfl, hlb2, hb3⟩
  have HLB2 := Lib.hid hlb2
  have HB3 := Lib.hid (HB2.out.trans (hb3.mono HB2.out.size))
  clear p0 p1 p2 p3 p4 p5 p6 p7 p8 p9 p10 hlb2 hb3
  cases lb2
  · go_wp2_with fail
    refine (HLV.out _).mono ?_
    rintro e wz ⟨rfl, hbz⟩
    have HZ := Lib.hid (HB0.out.trans ((HB3.out.trans (hbz.mono HB3.out.size)).mono HB0.out.size))
    clear hbz
    go_wp2
    go_ret
    exact ⟨rfl, HZ.out⟩
  have HOP := Lib.hid (ok_of HOK2.out (HLB2.out rfl))
  have HBX3 := Lib.hid (HBX.out.below HB3.out)
  have c0 : w3.cell? ⟨C, 0, none⟩ = some (.bool c.hp) := by rw [cell_of_row w3 C 0 _ _ (0, 0) HBX3.out.1]; rfl
  have c1 : w3.cell? ⟨C, 1, none⟩ = some (.string c.pg) := by rw [cell_of_row w3 C 1 _ _ (0, 0) HBX3.out.1]; rfl
  have c2 : w3.cell? ⟨C, 2, none⟩ = some (.string c.pa) := by rw [cell_of_row w3 C 2 _ _ (0, 0) HBX3.out.1]; rfl
  have c3 : w3.cell? ⟨C, 3, none⟩ = some (.string c.pv) := by rw [cell_of_row w3 C 3 _ _ (0, 0) HBX3.out.1]; rfl
  have c4 : w3.cell? ⟨C, 4, none⟩ = some (.string c.g) := by rw [cell_of_row w3 C 4 _ _ (0, 0) HBX3.out.1]; rfl
  have c5 : w3.cell? ⟨C, 5, none⟩ = some (.string c.a) := by rw [cell_of_row w3 C 5 _ _ (0, 0) HBX3.out.1]; rfl
  have c6 : w3.cell? ⟨C, 6, none⟩ = some (.string c.v) := by rw [cell_of_row w3 C 6 _ _ (0, 0) HBX3.out.1]; rfl
  have c7 : w3.cell? ⟨C, 7, none⟩ = some (.string c.pk) := by rw [cell_of_row w3 C 7 _ _ (0, 0) HBX3.out.1]; rfl
  have c8 : w3.cell? ⟨C, 8, none⟩ = some (.slice a1 c.ps.length ak1) := by rw [cell_of_row w3 C 8 _ _ (0, 0) HBX3.out.1]; rfl
  have c9 : w3.cell? ⟨C, 9, none⟩ = some (.slice a2 c.ms.length ak2) := by rw [cell_of_row w3 C 9 _ _ (0, 0) HBX3.out.1]; rfl
  have c10 : w3.cell? ⟨C, 10, none⟩ = some (.slice a3 c.ds.length ak3) := by rw [cell_of_row w3 C 10 _ _ (0, 0) HBX3.out.1]; rfl
  have p0 : w3.cell? ⟨P, 0, none⟩ = some (.bool p.hp) := by rw [cell_of_row w3 P 0 _ _ (0, 0) HBX3.out.2]; rfl
  have p1 : w3.cell? ⟨P, 1, none⟩ = some (.string p.pg) := by rw [cell_of_row w3 P 1 _ _ (0, 0) HBX3.out.2]; rfl
  have p2 : w3.cell? ⟨P, 2, none⟩ = some (.string p.pa) := by rw [cell_of_row w3 P 2 _ _ (0, 0) HBX3.out.2]; rfl
  have p3 : w3.cell? ⟨P, 3, none⟩ = some (.string p.pv) := by rw [cell_of_row w3 P 3 _ _ (0, 0) HBX3.out.2]; rfl
  have p4 : w3.cell? ⟨P, 4, none⟩ = some (.string p.g) := by rw [cell_of_row w3 P 4 _ _ (0, 0) HBX3.out.2]; rfl
  have p5 : w3.cell? ⟨P, 5, none⟩ = some (.string p.a) := by rw [cell_of_row w3 P 5 _ _ (0, 0) HBX3.out.2]; rfl
  have p6 : w3.cell? ⟨P, 6, none⟩ = some (.string p.v) := by rw [cell_of_row w3 P 6 _ _ (0, 0) HBX3.out.2]; rfl
  have p7 : w3.cell? ⟨P, 7, none⟩ = some (.string p.pk) := by rw [cell_of_row w3 P 7 _ _ (0, 0) HBX3.out.2]; rfl
  have p8 : w3.cell? ⟨P, 8, none⟩ = some (.slice b1 p.ps.length bk1) := by rw [cell_of_row w3 P 8 _ _ (0, 0) HBX3.out.2]; rfl
  have p9 : w3.cell? ⟨P, 9, none⟩ = some (.slice b2 p.ms.length bk2) := by rw [cell_of_row w3 P 9 _ _ (0, 0) HBX3.out.2]; rfl
  have p10 : w3.cell? ⟨P, 10, none⟩ = some (.slice b3 p.ds.length bk3) := by rw [cell_of_row w3 P 10 _ _ (0, 0) HBX3.out.2]; rfl
  have HRC3 := Lib.hid (HC.out.below HB3.out (Nat.le_refl _))
  have HRP3 := Lib.hid (HP.out.below HB3.out (Nat.le_refl _))
  clear HLB HLB2 HL1 HL2 HB2
  go_wp2_with fail
  refine (HMG.out _ HRC3.out HRP3.out HOC.out HOP.out).mono ?_
  rintro e w4 ⟨m1, mk1, m2, mk2, m3, mk3, rfl, ho1, ho2, ho3, hb4⟩
  have HO1 := Lib.hid (own_mono10 ho1 HB3.out.size)
  have HO2 := Lib.hid (ho2.mono HB3.out.size)
  have HRX := Lib.hid (MgX.rd ho1 ho2 ho3)
  have HB4 := Lib.hid (HB3.out.trans (hb4.mono HB3.out.size))
  have HBX4 := Lib.hid (HBX3.out.below hb4)
  clear ho1 ho2 ho3 hb4 c0 c1 c2 c3 c4 c5 c6 c7 c8 c9 c10 p0 p1 p2 p3 p4 p5 p6 p7 p8 p9 p10
  have hbm : Below w4.heap.size w4 (w4.alloc (.cells #[.bool x.hp, .string x.pg, .string x.pa, .string x.pv, .string x.g, .string x.a, .string x.v, .string x.pk, .slice m1 x.ps.length mk1, .slice m2 x.ms.length mk2, .slice m3 x.ds.length mk3] 27)) := (Below.refl _ _).alloc (Nat.le_refl _) _
  have hnew := heap_alloc_new w4 (.cells #[.bool x.hp, .string x.pg, .string x.pa, .string x.pv, .string x.g, .string x.a, .string x.v, .string x.pk, .slice m1 x.ps.length mk1, .slice m2 x.ms.length mk2, .slice m3 x.ds.length mk3] 27)
  have HBM := Lib.hid hbm
  clear hbm
  go_upto_region 4 with fail
  generalize w4.alloc (.cells #[.bool x.hp, .string x.pg, .string x.pa, .string x.pv, .string x.g, .string x.a, .string x.v, .string x.pk, .slice m1 x.ps.length mk1, .slice m2 x.ms.length mk2, .slice m3 x.ds.length mk3] 27) = w5 at hnew HBM ⊢
  obtain ⟨M, hM⟩ : ∃ b, b = w4.heap.size := ⟨_, rfl⟩
  rw [← hM] at hnew ⊢
  clear hM
  have HN5 := Lib.hid hnew
  have HBX5 := Lib.hid (HBX4.out.below HBM.out)
  have HB5 := Lib.hid (HB4.out.trans (HBM.out.mono HB4.out.size))
  have HO15 := Lib.hid (own_below10 HO1.out HBM.out)
  have HO25 := Lib.hid (HO2.out.below HBM.out)
  have HRX5 := Lib.hid (HRX.out.below HBM.out (Nat.le_refl _))
  have HRC5 := Lib.hid (HC.out.below HB5.out (Nat.le_refl _))
  have HRP5 := Lib.hid (HP.out.below HB5.out (Nat.le_refl _))
  clear hnew HO1 HO2 HRX HB4 HBM HBX4 HRC3 HRP3
  refine wp_region_held_drew (S := (S3 w1 M C P #[.bool x.hp, .string x.pg, .string x.pa, .string x.pv, .string x.g, .string x.a, .string x.v, .string x.pk, .slice m1 x.ps.length mk1, .slice m2 x.ms.length mk2, .slice m3 x.ds.length mk3] #[.bool c.hp, .string c.pg, .string c.pa, .string c.pv, .string c.g, .string c.a, .string c.v, .string c.pk, .slice a1 c.ps.length ak1, .slice a2 c.ms.length ak2, .slice a3 c.ds.length ak3] #[.bool p.hp, .string p.pg, .string p.pa, .string p.pv, .string p.g, .string p.a, .string p.v, .string p.pk, .slice b1 p.ps.length bk1, .slice b2 p.ms.length bk2, .slice b3 p.ds.length bk3])) (by kernel_rfl) (by (try dsimp only); exact (show (S3 w1 M C P #[.bool x.hp, .string x.pg, .string x.pa, .string x.pv, .string x.g, .string x.a, .string x.v, .string x.pk, .slice m1 x.ps.length mk1, .slice m2 x.ms.length mk2, .slice m3 x.ds.length mk3] #[.bool c.hp, .string c.pg, .string c.pa, .string c.pv, .string c.g, .string c.a, .string c.v, .string c.pk, .slice a1 c.ps.length ak1, .slice a2 c.ms.length ak2, .slice a3 c.ds.length ak3] #[.bool p.hp, .string p.pg, .string p.pa, .string p.pv, .string p.g, .string p.a, .string p.v, .string p.pk, .slice b1 p.ps.length bk1, .slice b2 p.ms.length bk2, .slice b3 p.ds.length bk3]) w5 from ⟨HN5.out, HBX5.out, HB5.out⟩).drew) (fun hHeld => ?_)
  have hbd : Below w5.heap.size w5 w5.drew := (Below.refl _ _).drew
  generalize w5.drew = wd at hHeld hbd ⊢
  have HBD := Lib.hid hbd
  clear hbd
  refine wpAnyH_take (i := 0) (v := .agg #[.bool x.hp, .string x.pg, .string x.pa, .string x.pv, .string x.g, .string x.a, .string x.v, .string x.pk, .slice m1 x.ps.length mk1, .slice m2 x.ms.length mk2, .slice m3 x.ds.length mk3]) (by (simp only [List.getElem?_toArray, List.getElem?_cons_succ, List.getElem?_cons_zero]; rfl)) (by kernel_rfl) (by kernel_rfl) (by kernel_rfl) (by intro _ _ _ h; exact h) (yields_load_pom (by rfl) _ rfl M rfl #[.bool x.hp, .string x.pg, .string x.pa, .string x.pv, .string x.g, .string x.a, .string x.v, .string x.pk, .slice m1 x.ps.length mk1, .slice m2 x.ms.length mk2, .slice m3 x.ds.length mk3] rfl (fun w h => h.1)) (by assumption) ?_
  simp only [Act.put, List.setIfInBounds_toArray, List.set_cons_zero, List.set_cons_succ]
  refine wpAnyH_take (i := 1) (v := .agg #[.bool c.hp, .string c.pg, .string c.pa, .string c.pv, .string c.g, .string c.a, .string c.v, .string c.pk, .slice a1 c.ps.length ak1, .slice a2 c.ms.length ak2, .slice a3 c.ds.length ak3]) (by (simp only [List.getElem?_toArray, List.getElem?_cons_succ, List.getElem?_cons_zero]; rfl)) (by kernel_rfl) (by kernel_rfl) (by kernel_rfl) (by intro _ _ _ h; exact h) (yields_load_pom (by rfl) _ rfl C rfl #[.bool c.hp, .string c.pg, .string c.pa, .string c.pv, .string c.g, .string c.a, .string c.v, .string c.pk, .slice a1 c.ps.length ak1, .slice a2 c.ms.length ak2, .slice a3 c.ds.length ak3] rfl (fun w h => h.2.1.1)) (by assumption) ?_
  simp only [Act.put, List.setIfInBounds_toArray, List.set_cons_zero, List.set_cons_succ]
  refine wpAnyH_take (i := 2) (v := .agg #[.bool p.hp, .string p.pg, .string p.pa, .string p.pv, .string p.g, .string p.a, .string p.v, .string p.pk, .slice b1 p.ps.length bk1, .slice b2 p.ms.length bk2, .slice b3 p.ds.length bk3]) (by (simp only [List.getElem?_toArray, List.getElem?_cons_succ, List.getElem?_cons_zero]; rfl)) (by kernel_rfl) (by kernel_rfl) (by kernel_rfl) (by intro _ _ _ h; exact h) (yields_load_pom (by rfl) _ rfl P rfl #[.bool p.hp, .string p.pg, .string p.pa, .string p.pv, .string p.g, .string p.a, .string p.v, .string p.pk, .slice b1 p.ps.length bk1, .slice b2 p.ms.length bk2, .slice b3 p.ds.length bk3] rfl (fun w h => h.2.1.2)) (by assumption) ?_
  simp only [Act.put, List.setIfInBounds_toArray, List.set_cons_zero, List.set_cons_succ]
  have hop := HRM.out _ (HC.out.below hHeld.2.2 (Nat.le_refl _)) (HP.out.below hHeld.2.2 (Nat.le_refl _)) HOC.out HOP.out
  refine wpAnyH_ready (rs := [3]) (by kernel_rfl) (by simp) ?_
  refine AllReadyH.cons (by (simp only [List.getElem?_toArray, List.getElem?_cons_succ, List.getElem?_cons_zero]; rfl)) (fun K hK => ?_) AllReadyH.nil
  go_simp
  go_at_call 10; refine hop.mono ?_; rintro e w6 ⟨r1, rk1, r2, rk2, r3, rk3, rfl, hr6, hb6⟩
  refine hK.out _ _ (by (try dsimp only); exact hHeld.below hb6) (fun hHeld => ?_)
  clear hK K
  try simp only [Act.put, List.setIfInBounds_toArray, List.set_cons_zero, List.set_cons_succ]
  have hop2 := Same_any x x _ _ _ _ _ _ w6 (HRX5.out.below (HBD.out.trans (hb6.mono HBD.out.size)) (Nat.le_refl _)) hr6
  rw [samePm_self] at hop2
  unfold pmV at hop2
  refine wpAnyH_ready (rs := [4]) (by kernel_rfl) (by simp) ?_
  refine AllReadyH.cons (by (simp only [List.getElem?_toArray, List.getElem?_cons_succ, List.getElem?_cons_zero]; rfl)) (fun K hK => ?_) AllReadyH.nil
  go_simp
  go_at_call 9; refine hop2.mono ?_; rintro e w7 ⟨rfl, hb7⟩
  refine hK.out _ _ (by (try dsimp only); exact hHeld.below hb7) (fun hHeld => ?_)
  clear hK K
  try simp only [Act.put, List.setIfInBounds_toArray, List.set_cons_zero, List.set_cons_succ]
  refine wpAnyH_take (i := 5) (v := ?_) (by (simp only [List.getElem?_toArray, List.getElem?_cons_succ, List.getElem?_cons_zero]; rfl)) (by kernel_rfl) (by kernel_rfl) (by kernel_rfl) (by intro _ _ _ h; exact h) (Or.inl ⟨by rfl, ?_⟩) (by assumption) ?_
  rotate_left
  · (intro w hSw; (try dsimp only at hSw); go_simp; try (with_reducible rfl))
  simp only [Act.put, List.setIfInBounds_toArray, List.set_cons_zero, List.set_cons_succ]
  refine wpAnyH_done (by kernel_rfl) ?_ _
  have HX7 := Lib.hid (HBD.out.trans ((hb6.trans (hb7.mono hb6.size)).mono HBD.out.size))
  have HB7 := Lib.hid hHeld.2.2
  have HN7 := Lib.hid hHeld.1
  have HO17 := Lib.hid (own_below10 HO15.out HX7.out)
  have HO27 := Lib.hid (HO25.out.below HX7.out)
  have m9 : w7.cell? ⟨M, 9, none⟩ = some (.slice m2 x.ms.length mk2) := by rw [cell_of_row w7 M 9 _ _ (0, 0) HN7.out]; rfl
  have hms : (x.ms.length : Int) ≤ 9223372036854775807 := by have := RdSl.len HO27.out.rd; omega
  have hps : (x.ps.length : Int) ≤ 9223372036854775807 := by have := RdSl.len (RdPs.of_own HO17.out); omega
  clear hHeld hop hop2 hb6 hb7 hr6 HRC5 HRP5 HRX5 HBD
  go_wp2_with fail
  clear m9
  go_loopw [29] (fun i wr => ∃ k : Nat, k ≤ x.ms.length ∧ i = .int .i64 k ∧ wr.heap[M]? = some (.cells #[.bool x.hp, .string x.pg, .string x.pa, .string x.pv, .string x.g, .string x.a, .string x.v, .string x.pk, .slice m1 x.ps.length mk1, .slice m2 x.ms.length mk2, .slice m3 x.ds.length mk3] 27 (0, 0)) ∧ (∃ xs, wr.ownsRow w1.heap.size 34 8 (.slice m2 x.ms.length mk2) x.ms.length xs) ∧ wr.ownsRow w1.heap.size 36 2 (.slice m1 x.ps.length mk1) x.ps.length (rowPr x.ps) ∧ Below w1.heap.size w1 wr) (fun i _ => x.ms.length - (intOf i).toNat)
  case atStart =>
    obtain ⟨qs, h1, h2, h3⟩ := HO27.out
    exact ⟨0, by omega, rfl, HN7.out, ⟨rowD qs, by rw [← h1, List.length_map]; rw [← h1, List.length_map] at h2; exact h2⟩, HO17.out, HB7.out⟩
  case round =>
    obtain ⟨k, hk, rfl, hm, ⟨xs, hod⟩, hop, hbw⟩ := hrel
    have HM := Lib.hid hm
    have HOD := Lib.hid hod
    have HOPR := Lib.hid hop
    have HBW := Lib.hid hbw
    have m9 : wr.cell? ⟨M, 9, none⟩ = some (.slice m2 x.ms.length mk2) := by rw [cell_of_row wr M 9 _ _ (0, 0) hm]; rfl
    clear hop hbw HN5 HN7 HO15 HO25 HO17 HO27 HX7 HB7
    by_cases hlt : k < x.ms.length
    · obtain ⟨g, hg⟩ : ∃ g, m2 = some ⟨g, 0, none⟩ := by
        rcases hod.2 with ⟨h1, h2⟩ | ⟨g, cap, cur, h1, _⟩
        · omega
        · cases h1; exact ⟨g, rfl⟩
      subst hg
      obtain ⟨cur, hcur⟩ : ∃ cur, wr.heap[g]? = some (Obj.cells cur 34 (0, 0)) := by
        rcases hod.2 with ⟨h0, _⟩ | ⟨g', cap', cur, h1, _, h3, _⟩
        · cases h0
        · cases h1; exact ⟨cur, h3⟩
      obtain ⟨u, hu⟩ : ∃ u, xs[k * 8]? = some u := ⟨_, List.getElem?_eq_getElem (by rw [hod.1]; omega)⟩
      have q0 : wr.cell? ⟨g, k * 8, none⟩ = some u := by
        have h1 := hod.cells (g := g) rfl _ _ hu
        rw [add_off10] at h1
        exact h1
      have f0 := frozen_of_row wr g (k * 8) _ _ hcur
      have hge := (hod.lt g rfl).1
      have hkI : (k : Int) < (x.ms.length : Int) := by omega
      have HPUT := Lib.hid (own_put (u := .string ⟨#[111, 116, 104, 101, 114]⟩) hod (j := k * 8) (by omega))
      have HOP2 := Lib.hid (own_setty10 (j := k * 8) (u := .string ⟨#[111, 116, 104, 101, 114]⟩) HOPR.out hcur (by decide))
      have HM2 := Lib.hid ((heap_setCell_other wr ⟨g, k * 8, none⟩ M (.string ⟨#[111, 116, 104, 101, 114]⟩) (fun e => by subst e; rw [hm] at hcur; simp at hcur)).trans hm)
      have HB8 := Lib.hid (HBW.out.setCell (p := ⟨g, k * 8, none⟩) hge (.string ⟨#[111, 116, 104, 101, 114]⟩))
      clear hod hcur hu hge hm
      go_wp2
      go_roundw
      case rel => exact ⟨k + 1, by omega, by go_num, HM2.out, ⟨_, HPUT.out⟩, HOP2.out, HB8.out⟩
      case measure => simp [intOf]; omega
    · have hle : (x.ms.length : Int) ≤ k := by omega
      have m8 : wr.cell? ⟨M, 8, none⟩ = some (.slice m1 x.ps.length mk1) := by rw [cell_of_row wr M 8 _ _ (0, 0) hm]; rfl
      clear hod m9
      have HMx := Lib.hid hm
      clear hm
      go_wp2_with fail
      clear m8 hle hlt
      generalize hwy : wr = wy at HM HOPR HBW HMx ⊢
      clear hwy wr HOD
      go_loopw [41] (fun i wr => ∃ k : Nat, k ≤ x.ps.length ∧ i = .int .i64 k ∧ wr.heap[M]? = some (.cells #[.bool x.hp, .string x.pg, .string x.pa, .string x.pv, .string x.g, .string x.a, .string x.v, .string x.pk, .slice m1 x.ps.length mk1, .slice m2 x.ms.length mk2, .slice m3 x.ds.length mk3] 27 (0, 0)) ∧ (∃ xs, wr.ownsRow w1.heap.size 36 2 (.slice m1 x.ps.length mk1) x.ps.length xs) ∧ Below w1.heap.size w1 wr) (fun i _ => x.ps.length - (intOf i).toNat)
      case atStart => exact ⟨0, by omega, rfl, HMx.out, ⟨_, HOPR.out⟩, HBW.out⟩
      case round =>
        clear HM HOPR HBW HMx hk
        obtain ⟨k, hk, rfl, hm, ⟨xs, hod⟩, hbw⟩ := hrel
        have HBW := Lib.hid hbw
        have m8 : wr.cell? ⟨M, 8, none⟩ = some (.slice m1 x.ps.length mk1) := by rw [cell_of_row wr M 8 _ _ (0, 0) hm]; rfl
        clear hbw
        by_cases hlt : k < x.ps.length
        · obtain ⟨g, hg⟩ : ∃ g, m1 = some ⟨g, 0, none⟩ := by
            rcases hod.2 with ⟨h1, h2⟩ | ⟨g, cap, cur, h1, _⟩
            · omega
            · cases h1; exact ⟨g, rfl⟩
          subst hg
          obtain ⟨cur, hcur⟩ : ∃ cur, wr.heap[g]? = some (Obj.cells cur 36 (0, 0)) := by
            rcases hod.2 with ⟨h0, _⟩ | ⟨g', cap', cur, h1, _, h3, _⟩
            · cases h0
            · cases h1; exact ⟨cur, h3⟩
          obtain ⟨u, hu⟩ : ∃ u, xs[k * 2 + 1]? = some u := ⟨_, List.getElem?_eq_getElem (by rw [hod.1]; omega)⟩
          have q0 : wr.cell? ⟨g, k * 2 + 1, none⟩ = some u := by
            have h1 := hod.cells (g := g) rfl _ _ hu
            rw [add_off10] at h1
            exact h1
          have f0 := frozen_of_row wr g (k * 2 + 1) _ _ hcur
          have hge := (hod.lt g rfl).1
          have hkI : (k : Int) < (x.ps.length : Int) := by omega
          have HPUT := Lib.hid (own_put (u := .string ⟨#[111, 116, 104, 101, 114]⟩) hod (j := k * 2 + 1) (by omega))
          have HM2 := Lib.hid ((heap_setCell_other wr ⟨g, k * 2 + 1, none⟩ M (.string ⟨#[111, 116, 104, 101, 114]⟩) (fun e => by subst e; rw [hm] at hcur; simp at hcur)).trans hm)
          have HB8 := Lib.hid (HBW.out.setCell (p := ⟨g, k * 2 + 1, none⟩) hge (.string ⟨#[111, 116, 104, 101, 114]⟩))
          clear hod hcur hu hge hm
          go_wp2
          go_roundw
          case rel => exact ⟨k + 1, by omega, by go_num, HM2.out, ⟨_, HPUT.out⟩, HB8.out⟩
          case measure => simp [intOf]; omega
        · have hle : (x.ps.length : Int) ≤ k := by omega
          clear hm hod m8
          have HBXr := Lib.hid (HBX.out.below HBW.out)
          go_upto_region 16 with fail
          refine wp_region_held_drew (S := (S2 w1 C P #[.bool c.hp, .string c.pg, .string c.pa, .string c.pv, .string c.g, .string c.a, .string c.v, .string c.pk, .slice a1 c.ps.length ak1, .slice a2 c.ms.length ak2, .slice a3 c.ds.length ak3] #[.bool p.hp, .string p.pg, .string p.pa, .string p.pv, .string p.g, .string p.a, .string p.v, .string p.pk, .slice b1 p.ps.length bk1, .slice b2 p.ms.length bk2, .slice b3 p.ds.length bk3])) (by kernel_rfl) (by (try dsimp only); exact (show (S2 w1 C P #[.bool c.hp, .string c.pg, .string c.pa, .string c.pv, .string c.g, .string c.a, .string c.v, .string c.pk, .slice a1 c.ps.length ak1, .slice a2 c.ms.length ak2, .slice a3 c.ds.length ak3] #[.bool p.hp, .string p.pg, .string p.pa, .string p.pv, .string p.g, .string p.a, .string p.v, .string p.pk, .slice b1 p.ps.length bk1, .slice b2 p.ms.length bk2, .slice b3 p.ds.length bk3]) wr from ⟨HBXr.out, HBW.out⟩).drew) (fun hHeld => ?_)
          generalize wr.drew = wd at hHeld ⊢
          refine wpAnyH_take (i := 0) (v := .agg #[.bool c.hp, .string c.pg, .string c.pa, .string c.pv, .string c.g, .string c.a, .string c.v, .string c.pk, .slice a1 c.ps.length ak1, .slice a2 c.ms.length ak2, .slice a3 c.ds.length ak3]) (by (simp only [List.getElem?_toArray, List.getElem?_cons_succ, List.getElem?_cons_zero]; rfl)) (by kernel_rfl) (by kernel_rfl) (by kernel_rfl) (by intro _ _ _ h; exact h) (yields_load_pom (by rfl) _ rfl C rfl #[.bool c.hp, .string c.pg, .string c.pa, .string c.pv, .string c.g, .string c.a, .string c.v, .string c.pk, .slice a1 c.ps.length ak1, .slice a2 c.ms.length ak2, .slice a3 c.ds.length ak3] rfl (fun w h => h.1.1)) (by assumption) ?_
          simp only [Act.put, List.setIfInBounds_toArray, List.set_cons_zero, List.set_cons_succ]
          refine wpAnyH_take (i := 1) (v := .agg #[.bool p.hp, .string p.pg, .string p.pa, .string p.pv, .string p.g, .string p.a, .string p.v, .string p.pk, .slice b1 p.ps.length bk1, .slice b2 p.ms.length bk2, .slice b3 p.ds.length bk3]) (by (simp only [List.getElem?_toArray, List.getElem?_cons_succ, List.getElem?_cons_zero]; rfl)) (by kernel_rfl) (by kernel_rfl) (by kernel_rfl) (by intro _ _ _ h; exact h) (yields_load_pom (by rfl) _ rfl P rfl #[.bool p.hp, .string p.pg, .string p.pa, .string p.pv, .string p.g, .string p.a, .string p.v, .string p.pk, .slice b1 p.ps.length bk1, .slice b2 p.ms.length bk2, .slice b3 p.ds.length bk3] rfl (fun w h => h.1.2)) (by assumption) ?_
          simp only [Act.put, List.setIfInBounds_toArray, List.set_cons_zero, List.set_cons_succ]
          refine wpAnyH_take (i := 3) (v := .agg #[.bool c.hp, .string c.pg, .string c.pa, .string c.pv, .string c.g, .string c.a, .string c.v, .string c.pk, .slice a1 c.ps.length ak1, .slice a2 c.ms.length ak2, .slice a3 c.ds.length ak3]) (by (simp only [List.getElem?_toArray, List.getElem?_cons_succ, List.getElem?_cons_zero]; rfl)) (by kernel_rfl) (by kernel_rfl) (by kernel_rfl) (by intro _ _ _ h; exact h) (yields_load_pom (by rfl) _ rfl C rfl #[.bool c.hp, .string c.pg, .string c.pa, .string c.pv, .string c.g, .string c.a, .string c.v, .string c.pk, .slice a1 c.ps.length ak1, .slice a2 c.ms.length ak2, .slice a3 c.ds.length ak3] rfl (fun w h => h.1.1)) (by assumption) ?_
          simp only [Act.put, List.setIfInBounds_toArray, List.set_cons_zero, List.set_cons_succ]
          refine wpAnyH_take (i := 4) (v := .agg #[.bool p.hp, .string p.pg, .string p.pa, .string p.pv, .string p.g, .string p.a, .string p.v, .string p.pk, .slice b1 p.ps.length bk1, .slice b2 p.ms.length bk2, .slice b3 p.ds.length bk3]) (by (simp only [List.getElem?_toArray, List.getElem?_cons_succ, List.getElem?_cons_zero]; rfl)) (by kernel_rfl) (by kernel_rfl) (by kernel_rfl) (by intro _ _ _ h; exact h) (yields_load_pom (by rfl) _ rfl P rfl #[.bool p.hp, .string p.pg, .string p.pa, .string p.pv, .string p.g, .string p.a, .string p.v, .string p.pk, .slice b1 p.ps.length bk1, .slice b2 p.ms.length bk2, .slice b3 p.ds.length bk3] rfl (fun w h => h.1.2)) (by assumption) ?_
          simp only [Act.put, List.setIfInBounds_toArray, List.set_cons_zero, List.set_cons_succ]
          have hop := HMG.out _ (HC.out.below hHeld.2 (Nat.le_refl _)) (HP.out.below hHeld.2 (Nat.le_refl _)) HOC.out HOP.out
          refine wpAnyH_ready (rs := [2]) (by kernel_rfl) (by simp) ?_
          refine AllReadyH.cons (by (simp only [List.getElem?_toArray, List.getElem?_cons_succ, List.getElem?_cons_zero]; rfl)) (fun K hK => ?_) AllReadyH.nil
          go_simp
          go_at_call 8; refine hop.mono ?_; rintro e w10 ⟨n1, nk1, n2, nk2, n3, nk3, rfl, ho1, ho2, ho3, hb10⟩
          refine hK.out _ _ (by (try dsimp only); exact hHeld.below hb10) (fun hHeld => ?_)
          clear hK K
          try simp only [Act.put, List.setIfInBounds_toArray, List.set_cons_zero, List.set_cons_succ]
          have hrx := MgX.rd ho1 ho2 ho3
          have hop2 := HRM.out _ (HC.out.below hHeld.2 (Nat.le_refl _)) (HP.out.below hHeld.2 (Nat.le_refl _)) HOC.out HOP.out
          refine wpAnyH_ready (rs := [5]) (by kernel_rfl) (by simp) ?_
          refine AllReadyH.cons (by (simp only [List.getElem?_toArray, List.getElem?_cons_succ, List.getElem?_cons_zero]; rfl)) (fun K hK => ?_) AllReadyH.nil
          go_simp
          go_at_call 10; refine hop2.mono ?_; rintro e w11 ⟨r1, rk1, r2, rk2, r3, rk3, rfl, hr11, hb11⟩
          refine hK.out _ _ (by (try dsimp only); exact hHeld.below hb11) (fun hHeld => ?_)
          clear hK K
          try simp only [Act.put, List.setIfInBounds_toArray, List.set_cons_zero, List.set_cons_succ]
          have hop3 := Same_any x x _ _ _ _ _ _ w11 (hrx.below hb11 (Nat.le_refl _)) hr11
          rw [samePm_self] at hop3
          unfold pmV at hop3
          refine wpAnyH_ready (rs := [6]) (by kernel_rfl) (by simp) ?_
          refine AllReadyH.cons (by (simp only [List.getElem?_toArray, List.getElem?_cons_succ, List.getElem?_cons_zero]; rfl)) (fun K hK => ?_) AllReadyH.nil
          go_simp
          go_at_call 9; refine hop3.mono ?_; rintro e w12 ⟨rfl, hb12⟩
          refine hK.out _ _ (by (try dsimp only); exact hHeld.below hb12) (fun hHeld => ?_)
          clear hK K
          try simp only [Act.put, List.setIfInBounds_toArray, List.set_cons_zero, List.set_cons_succ]
          refine wpAnyH_take (i := 7) (v := ?_) (by (simp only [List.getElem?_toArray, List.getElem?_cons_succ, List.getElem?_cons_zero]; rfl)) (by kernel_rfl) (by kernel_rfl) (by kernel_rfl) (by intro _ _ _ h; exact h) (Or.inl ⟨by rfl, ?_⟩) (by assumption) ?_
          rotate_left
          · (intro w hSw; (try dsimp only at hSw); go_simp; try (with_reducible rfl))
          simp only [Act.put, List.setIfInBounds_toArray, List.set_cons_zero, List.set_cons_succ]
          have hop4 := HLV.out w12
          refine wpAnyH_ready (rs := [8]) (by kernel_rfl) (by simp) ?_
          refine AllReadyH.cons (by (simp only [List.getElem?_toArray, List.getElem?_cons_succ, List.getElem?_cons_zero]; rfl)) (fun K hK => ?_) AllReadyH.nil
          go_simp
          go_at_call 7; refine hop4.mono ?_; rintro e w13 ⟨rfl, hb13⟩
          refine hK.out _ _ (by (try dsimp only); exact hHeld.below hb13) (fun hHeld => ?_)
          clear hK K
          try simp only [Act.put, List.setIfInBounds_toArray, List.set_cons_zero, List.set_cons_succ]
          refine wpAnyH_take (i := 9) (v := ?_) (by (simp only [List.getElem?_toArray, List.getElem?_cons_succ, List.getElem?_cons_zero]; rfl)) (by kernel_rfl) (by kernel_rfl) (by kernel_rfl) (by intro _ _ _ h; exact h) (Or.inl ⟨by rfl, ?_⟩) (by assumption) ?_
          rotate_left
          · (intro w hSw; (try dsimp only at hSw); go_simp; try (with_reducible rfl))
          simp only [Act.put, List.setIfInBounds_toArray, List.set_cons_zero, List.set_cons_succ]
          refine wpAnyH_take (i := 10) (v := ?_) (by (simp only [List.getElem?_toArray, List.getElem?_cons_succ, List.getElem?_cons_zero]; rfl)) (by kernel_rfl) (by kernel_rfl) (by kernel_rfl) (by intro _ _ _ h; exact h) (Or.inl ⟨by rfl, ?_⟩) (by assumption) ?_
          rotate_left
          · (intro w hSw; (try dsimp only at hSw); go_simp; try (with_reducible rfl))
          simp only [Act.put, List.setIfInBounds_toArray, List.set_cons_zero, List.set_cons_succ]
          refine wpAnyH_done (by kernel_rfl) ?_ _
          have HZ := Lib.hid (HB0.out.trans (hHeld.2.mono HB0.out.size))
          clear hHeld hop hop2 hop3 hop4 hrx ho1 ho2 ho3 hr11 hb10 hb11 hb12 hb13
          go_wp2
          go_ret
          exact ⟨rfl, HZ.out⟩

set_option maxRecDepth 100000 in
theorem lifted_ChainMerges (os : Os) (started : os.Started) (H : Type) (enc : TypeId × Value → H) :
    ReturnsInHanded {} Try.checked os 3 .any (Rows.chainMergesSpec.pre6 enc Try.prog Try.f3 Rows.chainMergesRow.domain false) (Rows.chainMergesSpec.post enc Try.prog Try.f3 false true false false) := by
  refine returnsInHanded_of_change (C := Try.checked) own_knob started (by kernel_rfl) Try.func3
    (ChangeSpec.witness6 (enc := enc) (C := Try.checked) false ⟨#[], #[.agg #[.bool false, .string .empty, .string .empty, .string .empty, .string .empty, .string .empty, .string .empty, .string .empty, .slice none 0 0, .slice none 0 0, .slice none 0 0], .agg #[.bool false, .string .empty, .string .empty, .string .empty, .string .empty, .string .empty, .string .empty, .string .empty, .slice none 0 0, .slice none 0 0, .slice none 0 0]], []⟩ 8 (by kernel_rfl) (by kernel_rfl) (by kernel_rfl) (by kernel_rfl)) ?_
  intro W base args ds gs before hval0 hW _ _
  have hval : ∀ (j : Nat) t v, Try.f3.params[j]? = some t → args[j]? = some v → Value.okWide Try.prog W .any base t v := hval0
  have hW' := hW
  obtain ⟨p, q, hA0, hV, rfl, _, _⟩ := hW
  have hA : DataW.TrodAll enc Try.prog W 0 (fun _ => true) true Try.f3.params.toList args.toList ds p := hA0
  rw [Try.params3] at hA hval
  obtain ⟨v0, vs0, d0, ds0, p0, q0, hargs, rfl, rfl, h0, r0⟩ := trodAll_cons hA
  obtain ⟨v1, vs1, d1, ds1, p1, q1, rfl, rfl, rfl, h1, r1⟩ := trodAll_cons r0
  obtain ⟨rfl, rfl, rfl⟩ := trodAll_nil r1
  obtain rfl : args = #[v0, v1] := by cases args; simp_all
  obtain ⟨rfl, rfl⟩ := trodVars_none hV
  obtain ⟨vp0, vm0, vd0, X0, rfl, rd0, ok0⟩ := open_pom (hval 0 27 v0 rfl rfl) h0
  obtain ⟨vp1, vm1, vd1, X1, rfl, rd1, ok1⟩ := open_pom (hval 1 27 v1 rfl rfl) h1
  clear hA0 hval0
  refine (walk_ChainMerges vp0 vm0 vd0 vp1 vm1 vd1 X0 X1 ok0 ok1 W rd0 rd1).mono fun e W' ⟨he, hb⟩ => ?_
  subst he
  exact ⟨_, rfl, law_post (by kernel_rfl) rfl rfl rfl hW' hb⟩

/-- the statement of ChainMerges -/
theorem proved_ChainMerges : Rows.ChainMergesSaid :=
  OpenClaim.holds_of_wide 3 Try.f3 rfl rfl rfl rfl rfl rfl rfl ⟨rfl, rfl, rfl, rfl, rfl⟩ rfl rfl rfl rfl rfl (by kernel_rfl) Try.func3 (by kernel_rfl)
    (of_decide_eq_true (by kernel_rfl)) (by unfold Func.isWrapper; first | (rw [if_pos (by decide +kernel)]; kernel_rfl) | (rw [if_neg (by decide +kernel)]; exact ⟨rfl, rfl⟩))
    (fun os started H enc _ => lifted_ChainMerges os started H enc)
end Go.Proofs.Ytjkmmmmbdfcnbaa
