/-
  Layer 10: the statement ChainCounts: what a child says counts, and what it does not say it gets. For every input. Own work.
-/
import Derived.Test.YtjkmmmmbdfcnbaaCnt10
namespace Go.Proofs.Ytjkmmmmbdfcnbaa
set_option linter.unusedVariables false
set_option linter.unusedSimpArgs false
open Go.ChangeShapes Go.WideShapes Go.ChangeAt Go.RowKit

/-- what Merge hands back to the law -/
def MgC (c : Pm) (gz vz : ByteArray) (X : List Pr) (N : Nat) (D : List Dp) (w : World) (e : Ending) (w' : World) : Prop := ∃ m1 mk1 m2 mk2 m3 mk3,
  e = .returned (.agg #[.bool c.hp, .string c.pg, .string c.pa, .string c.pv, .string gz, .string c.a, .string vz, .string c.pk, .slice m1 X.length mk1, .slice m2 N mk2, .slice m3 D.length mk3]) ∧ RdPs w' (.slice m1 X.length mk1) X ∧ RdDs w' (.slice m3 D.length mk3) D ∧ Below w.heap.size w w'
theorem Merge_c (c p : Pm) (gz vz : ByteArray) (X : List Pr) (N : Nat) (D : List Dp) (hg : gz = gOf c) (hv : vz = vOf c) (hX : X = over p.ps c.ps) (hN : N = (underL c.ms p.ms).length) (hD : D = underL c.ds p.ds) (va vb vc va2 vb2 vc2 : Value) (w : World) (hc : RdP w va vb vc c) (hp : RdP w va2 vb2 vc2 p) (ho : OkP c) (ho2 : OkP p) :
    Calls Try.prog 8 #[pmV va vb vc c, pmV va2 vb2 vc2 p] w (MgC c gz vz X N D w) := by
  subst hg hv hX hN hD
  refine (Merge_x c p _ rfl va vb vc va2 vb2 vc2 w hc hp ho ho2).mono ?_
  rintro e w' ⟨a1, c1, a2, c2, a3, c3, rfl, h1, h2, h3, h4⟩
  exact ⟨a1, c1, a2, c2, a3, c3, rfl, RdPs.of_own h1, h3.rd, h4⟩
set_option maxRecDepth 100000 in
set_option maxHeartbeats 16000000 in
theorem walk_ChainCounts (va vb vc va2 vb2 vc2 : Value) (c p : Pm) (hok : okPm c) (hok2 : okPm p) (w : World) (hc : RdP w va vb vc c) (hp : RdP w va2 vb2 vc2 p) :
    Calls Try.prog 5 #[pmV va vb vc c, pmV va2 vb2 vc2 p] w fun e w' => e = .returned (.bool true) ∧ Below w.heap.size w w' := by
  obtain ⟨a1, ak1, a2, ak2, a3, ak3, rfl, rfl, rfl⟩ := hc.shapes
  obtain ⟨b1, bk1, b2, bk2, b3, bk3, rfl, rfl, rfl⟩ := hp.shapes
  have hb0 : Below w.heap.size w ((w.alloc (.cells #[.bool c.hp, .string c.pg, .string c.pa, .string c.pv, .string c.g, .string c.a, .string c.v, .string c.pk, .slice a1 c.ps.length ak1, .slice a2 c.ms.length ak2, .slice a3 c.ds.length ak3] 27)).alloc (.cells #[.bool p.hp, .string p.pg, .string p.pa, .string p.pv, .string p.g, .string p.a, .string p.v, .string p.pk, .slice b1 p.ps.length bk1, .slice b2 p.ms.length bk2, .slice b3 p.ds.length bk3] 27)) := ((Below.refl w.heap.size w).alloc (Nat.le_refl _) _).alloc (by simp) _
  have hC : ((w.alloc (.cells #[.bool c.hp, .string c.pg, .string c.pa, .string c.pv, .string c.g, .string c.a, .string c.v, .string c.pk, .slice a1 c.ps.length ak1, .slice a2 c.ms.length ak2, .slice a3 c.ds.length ak3] 27)).alloc (.cells #[.bool p.hp, .string p.pg, .string p.pa, .string p.pv, .string p.g, .string p.a, .string p.v, .string p.pk, .slice b1 p.ps.length bk1, .slice b2 p.ms.length bk2, .slice b3 p.ds.length bk3] 27)).heap[w.heap.size]? = some (.cells #[.bool c.hp, .string c.pg, .string c.pa, .string c.pv, .string c.g, .string c.a, .string c.v, .string c.pk, .slice a1 c.ps.length ak1, .slice a2 c.ms.length ak2, .slice a3 c.ds.length ak3] 27 (0, 0)) := (Below.heap_alloc _ _ _ (by simp)).trans (heap_alloc_new w _)
  have hP : ((w.alloc (.cells #[.bool c.hp, .string c.pg, .string c.pa, .string c.pv, .string c.g, .string c.a, .string c.v, .string c.pk, .slice a1 c.ps.length ak1, .slice a2 c.ms.length ak2, .slice a3 c.ds.length ak3] 27)).alloc (.cells #[.bool p.hp, .string p.pg, .string p.pa, .string p.pv, .string p.g, .string p.a, .string p.v, .string p.pk, .slice b1 p.ps.length bk1, .slice b2 p.ms.length bk2, .slice b3 p.ds.length bk3] 27)).heap[w.heap.size + 1]? = some (.cells #[.bool p.hp, .string p.pg, .string p.pa, .string p.pv, .string p.g, .string p.a, .string p.v, .string p.pk, .slice b1 p.ps.length bk1, .slice b2 p.ms.length bk2, .slice b3 p.ds.length bk3] 27 (0, 0)) := by
    have := heap_alloc_new (w.alloc (.cells #[.bool c.hp, .string c.pg, .string c.pa, .string c.pv, .string c.g, .string c.a, .string c.v, .string c.pk, .slice a1 c.ps.length ak1, .slice a2 c.ms.length ak2, .slice a3 c.ds.length ak3] 27)) (.cells #[.bool p.hp, .string p.pg, .string p.pa, .string p.pv, .string p.g, .string p.a, .string p.v, .string p.pk, .slice b1 p.ps.length bk1, .slice b2 p.ms.length bk2, .slice b3 p.ds.length bk3] 27)
    simpa using this
  have HC := Lib.hid (hc.below hb0 (Nat.le_refl _))
  have HP := Lib.hid (hp.below hb0 (Nat.le_refl _))
  have HB0 := Lib.hid hb0
  have HLV := Lib.hid lives10
  have HOK := Lib.hid hok
  have HOK2 := Lib.hid hok2
  obtain ⟨X, hX⟩ : ∃ X, X = over p.ps c.ps := ⟨_, rfl⟩
  obtain ⟨N, hN⟩ : ∃ N, N = (underL c.ms p.ms).length := ⟨_, rfl⟩
  obtain ⟨D, hD⟩ : ∃ D, D = underL c.ds p.ds := ⟨_, rfl⟩
  obtain ⟨gz, hgz⟩ : ∃ gz, gz = gOf c := ⟨_, rfl⟩
  obtain ⟨vz, hvz⟩ : ∃ vz, vz = vOf c := ⟨_, rfl⟩
  have HL1 := Lib.hid (fun w' hr => (Light_any c (.slice a1 c.ps.length ak1) (.slice a2 c.ms.length ak2) (.slice a3 c.ds.length ak3) w' hr))
  have HL2 := Lib.hid (fun w' hr => (Light_any p (.slice b1 p.ps.length bk1) (.slice b2 p.ms.length bk2) (.slice b3 p.ds.length bk3) w' hr))
  have HMG := Lib.hid (fun w' hc hp ho ho2 => Merge_c c p gz vz X N D hgz hvz hX hN hD (.slice a1 c.ps.length ak1) (.slice a2 c.ms.length ak2) (.slice a3 c.ds.length ak3) (.slice b1 p.ps.length bk1) (.slice b2 p.ms.length bk2) (.slice b3 p.ds.length bk3) w' hc hp ho ho2)
  unfold pmV at HL1 HL2 HMG ⊢
  have HXE := Lib.hid hX
  have HDE := Lib.hid hD
  clear hc hp hb0 hok hok2 hX hN hD hgz hvz
  go_enter Try.func5, Try.ntmps5
  go_upto_region 1 with fail
  generalize ((w.alloc (.cells #[.bool c.hp, .string c.pg, .string c.pa, .string c.pv, .string c.g, .string c.a, .string c.v, .string c.pk, .slice a1 c.ps.length ak1, .slice a2 c.ms.length ak2, .slice a3 c.ds.length ak3] 27)).alloc (.cells #[.bool p.hp, .string p.pg, .string p.pa, .string p.pv, .string p.g, .string p.a, .string p.v, .string p.pk, .slice b1 p.ps.length bk1, .slice b2 p.ms.length bk2, .slice b3 p.ds.length bk3] 27)) = w1 at hC hP HC HP HB0 ⊢
  obtain ⟨P, hPe⟩ : ∃ b, b = w.heap.size + 1 := ⟨_, rfl⟩
  rw [← hPe] at hP
  simp only [← hPe]
  obtain ⟨C, hCe⟩ : ∃ b, b = w.heap.size := ⟨_, rfl⟩
  rw [← hCe] at hC
  simp only [← hCe]
  clear hPe hCe
  have HBX := Lib.hid (show Bx2 C P #[.bool c.hp, .string c.pg, .string c.pa, .string c.pv, .string c.g, .string c.a, .string c.v, .string c.pk, .slice a1 c.ps.length ak1, .slice a2 c.ms.length ak2, .slice a3 c.ds.length ak3] #[.bool p.hp, .string p.pg, .string p.pa, .string p.pv, .string p.g, .string p.a, .string p.v, .string p.pk, .slice b1 p.ps.length bk1, .slice b2 p.ms.length bk2, .slice b3 p.ds.length bk3] w1 from ⟨hC, hP⟩)
  have c0 : w1.cell? ⟨C, 0, none⟩ = some (.bool c.hp) := by rw [cell_of_row w1 C 0 _ _ (0, 0) hC]; rfl
  have c1 : w1.cell? ⟨C, 1, none⟩ = some (.string c.pg) := by rw [cell_of_row w1 C 1 _ _ (0, 0) hC]; rfl
  have c2 : w1.cell? ⟨C, 2, none⟩ = some (.string c.pa) := by rw [cell_of_row w1 C 2 _ _ (0, 0) hC]; rfl
  have c3 : w1.cell? ⟨C, 3, none⟩ = some (.string c.pv) := by rw [cell_of_row w1 C 3 _ _ (0, 0) hC]; rfl
  have c4 : w1.cell? ⟨C, 4, none⟩ = some (.string c.g) := by rw [cell_of_row w1 C 4 _ _ (0, 0) hC]; rfl
  have c5 : w1.cell? ⟨C, 5, none⟩ = some (.string c.a) := by rw [cell_of_row w1 C 5 _ _ (0, 0) hC]; rfl
  have c6 : w1.cell? ⟨C, 6, none⟩ = some (.string c.v) := by rw [cell_of_row w1 C 6 _ _ (0, 0) hC]; rfl
  have c7 : w1.cell? ⟨C, 7, none⟩ = some (.string c.pk) := by rw [cell_of_row w1 C 7 _ _ (0, 0) hC]; rfl
  have c8 : w1.cell? ⟨C, 8, none⟩ = some (.slice a1 c.ps.length ak1) := by rw [cell_of_row w1 C 8 _ _ (0, 0) hC]; rfl
  have c9 : w1.cell? ⟨C, 9, none⟩ = some (.slice a2 c.ms.length ak2) := by rw [cell_of_row w1 C 9 _ _ (0, 0) hC]; rfl
  have c10 : w1.cell? ⟨C, 10, none⟩ = some (.slice a3 c.ds.length ak3) := by rw [cell_of_row w1 C 10 _ _ (0, 0) hC]; rfl
  clear hC hP
  go_wp2_with fail
  refine (HL1.out _ HC.out).mono ?_
  rintro e w2 ⟨lb, rfl, hlb, hb2⟩
  have HLB := Lib.hid hlb
  have HB2 := Lib.hid hb2
  clear c0 c1 c2 c3 c4 c5 c6 c7 c8 c9 c10 hlb hb2
  cases lb
  · go_wp2_with fail
    refine (HLV.out _).mono ?_
    rintro e wz ⟨rfl, hbz⟩
    have HZ := Lib.hid (HB0.out.trans ((HB2.out.trans (hbz.mono HB2.out.size)).mono HB0.out.size))
    clear hbz
    go_wp2
    go_ret
    exact ⟨rfl, HZ.out⟩
  have hl := HLB.out rfl
  have HOC := Lib.hid (ok_of HOK.out hl)
  have hcps : (c.ps.length : Int) ≤ 30 := by have := hl.1; omega
  have hcds : (c.ds.length : Int) ≤ 30 := by have := hl.2.2.1; omega
  have hbx := HBX.out.below HB2.out
  have p0 : w2.cell? ⟨P, 0, none⟩ = some (.bool p.hp) := by rw [cell_of_row w2 P 0 _ _ (0, 0) hbx.2]; rfl
  have p1 : w2.cell? ⟨P, 1, none⟩ = some (.string p.pg) := by rw [cell_of_row w2 P 1 _ _ (0, 0) hbx.2]; rfl
  have p2 : w2.cell? ⟨P, 2, none⟩ = some (.string p.pa) := by rw [cell_of_row w2 P 2 _ _ (0, 0) hbx.2]; rfl
  have p3 : w2.cell? ⟨P, 3, none⟩ = some (.string p.pv) := by rw [cell_of_row w2 P 3 _ _ (0, 0) hbx.2]; rfl
  have p4 : w2.cell? ⟨P, 4, none⟩ = some (.string p.g) := by rw [cell_of_row w2 P 4 _ _ (0, 0) hbx.2]; rfl
  have p5 : w2.cell? ⟨P, 5, none⟩ = some (.string p.a) := by rw [cell_of_row w2 P 5 _ _ (0, 0) hbx.2]; rfl
  have p6 : w2.cell? ⟨P, 6, none⟩ = some (.string p.v) := by rw [cell_of_row w2 P 6 _ _ (0, 0) hbx.2]; rfl
  have p7 : w2.cell? ⟨P, 7, none⟩ = some (.string p.pk) := by rw [cell_of_row w2 P 7 _ _ (0, 0) hbx.2]; rfl
  have p8 : w2.cell? ⟨P, 8, none⟩ = some (.slice b1 p.ps.length bk1) := by rw [cell_of_row w2 P 8 _ _ (0, 0) hbx.2]; rfl
  have p9 : w2.cell? ⟨P, 9, none⟩ = some (.slice b2 p.ms.length bk2) := by rw [cell_of_row w2 P 9 _ _ (0, 0) hbx.2]; rfl
  have p10 : w2.cell? ⟨P, 10, none⟩ = some (.slice b3 p.ds.length bk3) := by rw [cell_of_row w2 P 10 _ _ (0, 0) hbx.2]; rfl
  clear hbx hl
  go_wp2_with fail
  refine (HL2.out _ (HP.out.below HB2.out (Nat.le_refl _))).mono ?_
  rintro e w3 ⟨lb2, rfl, hlb2, hb3⟩
  have HLB2 := Lib.hid hlb2
  have HB3 := Lib.hid (HB2.out.trans (hb3.mono HB2.out.size))
  clear p0 p1 p2 p3 p4 p5 p6 p7 p8 p9 p10 hlb2 hb3
  cases lb2
  · go_wp2_with fail
    refine (HLV.out _).mono ?_
    rintro e wz ⟨rfl, hbz⟩
    have HZ := Lib.hid (HB0.out.trans ((HB3.out.trans (hbz.mono HB3.out.size)).mono HB0.out.size))
    clear hbz
    go_wp2
    go_ret
    exact ⟨rfl, HZ.out⟩
  have hl := HLB2.out rfl
  have HOP := Lib.hid (ok_of HOK2.out hl)
  have hpps : (p.ps.length : Int) ≤ 30 := by have := hl.1; omega
  have hpds : (p.ds.length : Int) ≤ 30 := by have := hl.2.2.1; omega
  have HBX3 := Lib.hid (HBX.out.below HB3.out)
  have c0 : w3.cell? ⟨C, 0, none⟩ = some (.bool c.hp) := by rw [cell_of_row w3 C 0 _ _ (0, 0) HBX3.out.1]; rfl
  have c1 : w3.cell? ⟨C, 1, none⟩ = some (.string c.pg) := by rw [cell_of_row w3 C 1 _ _ (0, 0) HBX3.out.1]; rfl
  have c2 : w3.cell? ⟨C, 2, none⟩ = some (.string c.pa) := by rw [cell_of_row w3 C 2 _ _ (0, 0) HBX3.out.1]; rfl
  have c3 : w3.cell? ⟨C, 3, none⟩ = some (.string c.pv) := by rw [cell_of_row w3 C 3 _ _ (0, 0) HBX3.out.1]; rfl
  have c4 : w3.cell? ⟨C, 4, none⟩ = some (.string c.g) := by rw [cell_of_row w3 C 4 _ _ (0, 0) HBX3.out.1]; rfl
  have c5 : w3.cell? ⟨C, 5, none⟩ = some (.string c.a) := by rw [cell_of_row w3 C 5 _ _ (0, 0) HBX3.out.1]; rfl
  have c6 : w3.cell? ⟨C, 6, none⟩ = some (.string c.v) := by rw [cell_of_row w3 C 6 _ _ (0, 0) HBX3.out.1]; rfl
  have c7 : w3.cell? ⟨C, 7, none⟩ = some (.string c.pk) := by rw [cell_of_row w3 C 7 _ _ (0, 0) HBX3.out.1]; rfl
  have c8 : w3.cell? ⟨C, 8, none⟩ = some (.slice a1 c.ps.length ak1) := by rw [cell_of_row w3 C 8 _ _ (0, 0) HBX3.out.1]; rfl
  have c9 : w3.cell? ⟨C, 9, none⟩ = some (.slice a2 c.ms.length ak2) := by rw [cell_of_row w3 C 9 _ _ (0, 0) HBX3.out.1]; rfl
  have c10 : w3.cell? ⟨C, 10, none⟩ = some (.slice a3 c.ds.length ak3) := by rw [cell_of_row w3 C 10 _ _ (0, 0) HBX3.out.1]; rfl
  have p0 : w3.cell? ⟨P, 0, none⟩ = some (.bool p.hp) := by rw [cell_of_row w3 P 0 _ _ (0, 0) HBX3.out.2]; rfl
  have p1 : w3.cell? ⟨P, 1, none⟩ = some (.string p.pg) := by rw [cell_of_row w3 P 1 _ _ (0, 0) HBX3.out.2]; rfl
  have p2 : w3.cell? ⟨P, 2, none⟩ = some (.string p.pa) := by rw [cell_of_row w3 P 2 _ _ (0, 0) HBX3.out.2]; rfl
  have p3 : w3.cell? ⟨P, 3, none⟩ = some (.string p.pv) := by rw [cell_of_row w3 P 3 _ _ (0, 0) HBX3.out.2]; rfl
  have p4 : w3.cell? ⟨P, 4, none⟩ = some (.string p.g) := by rw [cell_of_row w3 P 4 _ _ (0, 0) HBX3.out.2]; rfl
  have p5 : w3.cell? ⟨P, 5, none⟩ = some (.string p.a) := by rw [cell_of_row w3 P 5 _ _ (0, 0) HBX3.out.2]; rfl
  have p6 : w3.cell? ⟨P, 6, none⟩ = some (.string p.v) := by rw [cell_of_row w3 P 6 _ _ (0, 0) HBX3.out.2]; rfl
  have p7 : w3.cell? ⟨P, 7, none⟩ = some (.string p.pk) := by rw [cell_of_row w3 P 7 _ _ (0, 0) HBX3.out.2]; rfl
  have p8 : w3.cell? ⟨P, 8, none⟩ = some (.slice b1 p.ps.length bk1) := by rw [cell_of_row w3 P 8 _ _ (0, 0) HBX3.out.2]; rfl
  have p9 : w3.cell? ⟨P, 9, none⟩ = some (.slice b2 p.ms.length bk2) := by rw [cell_of_row w3 P 9 _ _ (0, 0) HBX3.out.2]; rfl
  have p10 : w3.cell? ⟨P, 10, none⟩ = some (.slice b3 p.ds.length bk3) := by rw [cell_of_row w3 P 10 _ _ (0, 0) HBX3.out.2]; rfl
  have HRC3 := Lib.hid (HC.out.below HB3.out (Nat.le_refl _))
  have HRP3 := Lib.hid (HP.out.below HB3.out (Nat.le_refl _))
  clear HLB HLB2 HL1 HL2 HB2 hl
  go_wp2_with fail
  refine (HMG.out _ HRC3.out HRP3.out HOC.out HOP.out).mono ?_
  rintro e w4 ⟨m1, mk1, m2, mk2, m3, mk3, rfl, hrx, hrd, hb4⟩
  have HRX := Lib.hid hrx
  have HRD := Lib.hid hrd
  have HB4 := Lib.hid (HB3.out.trans (hb4.mono HB3.out.size))
  have HBX4 := Lib.hid (HBX3.out.below hb4)
  clear hrx hrd hb4 c0 c1 c2 c3 c4 c5 c6 c7 c8 c9 c10 p0 p1 p2 p3 p4 p5 p6 p7 p8 p9 p10
  have hbm : Below w4.heap.size w4 (w4.alloc (.cells #[.bool c.hp, .string c.pg, .string c.pa, .string c.pv, .string gz, .string c.a, .string vz, .string c.pk, .slice m1 X.length mk1, .slice m2 N mk2, .slice m3 D.length mk3] 27)) := (Below.refl _ _).alloc (Nat.le_refl _) _
  have hnew := heap_alloc_new w4 (.cells #[.bool c.hp, .string c.pg, .string c.pa, .string c.pv, .string gz, .string c.a, .string vz, .string c.pk, .slice m1 X.length mk1, .slice m2 N mk2, .slice m3 D.length mk3] 27)
  have HBM := Lib.hid hbm
  clear hbm
  go_upto_region 4 with fail
  generalize w4.alloc (.cells #[.bool c.hp, .string c.pg, .string c.pa, .string c.pv, .string gz, .string c.a, .string vz, .string c.pk, .slice m1 X.length mk1, .slice m2 N mk2, .slice m3 D.length mk3] 27) = w5 at hnew HBM ⊢
  obtain ⟨M, hM⟩ : ∃ b, b = w4.heap.size := ⟨_, rfl⟩
  rw [← hM] at hnew ⊢
  clear hM
  have HB5 := Lib.hid (HB4.out.trans (HBM.out.mono HB4.out.size))
  have HBZ5 := Lib.hid (HB0.out.trans (HB5.out.mono HB0.out.size))
  have HS5 := Lib.hid (show (S3 w5 M C P #[.bool c.hp, .string c.pg, .string c.pa, .string c.pv, .string gz, .string c.a, .string vz, .string c.pk, .slice m1 X.length mk1, .slice m2 N mk2, .slice m3 D.length mk3] #[.bool c.hp, .string c.pg, .string c.pa, .string c.pv, .string c.g, .string c.a, .string c.v, .string c.pk, .slice a1 c.ps.length ak1, .slice a2 c.ms.length ak2, .slice a3 c.ds.length ak3] #[.bool p.hp, .string p.pg, .string p.pa, .string p.pv, .string p.g, .string p.a, .string p.v, .string p.pk, .slice b1 p.ps.length bk1, .slice b2 p.ms.length bk2, .slice b3 p.ds.length bk3]) w5 from ⟨hnew, HBX4.out.below HBM.out, Below.refl _ _⟩)
  have HRX5 := Lib.hid (HRX.out.below HBM.out (Nat.le_refl _))
  have HRD5 := Lib.hid (HRD.out.below HBM.out (Nat.le_refl _))
  have HRC5 := Lib.hid (HC.out.below HB5.out (Nat.le_refl _))
  have HRP5 := Lib.hid (HP.out.below HB5.out (Nat.le_refl _))
  have hxl := RdSl.len HRX5.out
  have hdl := RdSl.len HRD5.out
  have c8 : w5.cell? ⟨C, 8, none⟩ = some (.slice a1 c.ps.length ak1) := by rw [cell_of_row w5 C 8 _ _ (0, 0) HS5.out.2.1.1]; rfl
  clear hnew HBM HBX4 HRC3 HRP3 HRX HRD HB4 HB5 HBX3 HB3 HBX HMG HB0 HOK HOK2
  go_wp2_with fail
  clear c8
  go_loopw [36] (fun i wr => ∃ k : Nat, k ≤ c.ps.length ∧ i = .int .i64 k ∧ Below w5.heap.size w5 wr) (fun i _ => c.ps.length - (intOf i).toNat)
  case atStart => exact ⟨0, by omega, rfl, Below.refl _ _⟩
  case round =>
    obtain ⟨ky, hky, rfl, hbw⟩ := hrel
    have HBW := Lib.hid hbw
    by_cases hlty : ky < c.ps.length
    · obtain ⟨y, hy⟩ : ∃ y, (c.ps)[ky]? = some y := ⟨_, List.getElem?_eq_getElem hlty⟩
      obtain ⟨e1y, eey, p0, p1⟩ := RdSl.elem (HRC5.out.p.below hbw (Nat.le_refl _)) hy
      cases eey
      have HHy := Lib.hid hy
      have hbb : Below wr.heap.size wr (wr.alloc (.cells #[.string y.n, .string y.v] 36)) := (Below.refl _ _).alloc (Nat.le_refl _) _
      have hnew := heap_alloc_new wr (.cells #[.string y.n, .string y.v] 36)
      have HBBy := Lib.hid hbb
      clear hbb hy
      go_upto_region 7 with fail
      generalize wr.alloc (.cells #[.string y.n, .string y.v] 36) = wy at hnew HBBy ⊢
      obtain ⟨KY, hKY⟩ : ∃ b, b = wr.heap.size := ⟨_, rfl⟩
      rw [← hKY] at hnew ⊢
      have HNy := Lib.hid hnew
      clear hKY p0 p1 hnew
      have HSY := Lib.hid ((HS5.out.below hbw).below HBBy.out)
      have HBY := Lib.hid (HBW.out.trans (HBBy.out.mono HBW.out.size))
      have m8 : wy.cell? ⟨M, 8, none⟩ = some (.slice m1 X.length mk1) := by rw [cell_of_row wy M 8 _ _ (0, 0) HSY.out.1]; rfl
      have y0 : wy.cell? ⟨KY, 0, none⟩ = some (.string y.n) := by rw [cell_of_row wy KY 0 _ _ (0, 0) HNy.out]; rfl
      obtain ⟨L, hL⟩ : ∃ L, L = lastF (c.ps.drop ky) y := ⟨_, rfl⟩
      have hop := Get_any X y.n _ wy (HRX5.out.below HBY.out (Nat.le_refl _))
      unfold GetP at hop
      rw [HXE.out, child_counts HHy.out, ← HXE.out, ← hL] at hop
      have HOP := Lib.hid hop
      have HL := Lib.hid hL
      clear hop hL hbw
      go_wp2_with fail
      refine HOP.out.mono ?_
      rintro e w6 ⟨rfl, hb6⟩
      dsimp only [Option.getD, Option.isSome]
      have HS6 := Lib.hid (HSY.out.below hb6)
      have HB6 := Lib.hid (HBY.out.trans (hb6.mono HBY.out.size))
      have HNy6 := Lib.hid ((hb6.block KY (Array.getElem?_eq_some_iff.1 HNy.out).1).trans HNy.out)
      have y1 : w6.cell? ⟨KY, 1, none⟩ = some (.string y.v) := by rw [cell_of_row w6 KY 1 _ _ (0, 0) HNy6.out]; rfl
      have c8 : w6.cell? ⟨C, 8, none⟩ = some (.slice (some e1y) c.ps.length ak1) := by rw [cell_of_row w6 C 8 _ _ (0, 0) HS6.out.2.1.1]; rfl
      have hrs := (RdSl.from HRC5.out.p (Nat.le_of_lt hlty))
      have hck : ¬ (ak1 = ky) := by
        rcases HRC5.out.p with ⟨h, _⟩ | ⟨b, cap, h, h1, _⟩
        · cases h
        · cases h; omega
      have hkI : (ky : Int) ≤ (c.ps.length : Int) := by omega
      have hcl : c.ps.length ≤ ak1 := by
        rcases HRC5.out.p with ⟨h, _⟩ | ⟨b, cap, h, h1, _⟩
        · cases h
        · cases h; omega
      have HRS := Lib.hid (show RdPs w5 (.slice (some (e1y.add (ky * 2))) (c.ps.length - ky) (ak1 - ky)) (c.ps.drop ky) from hrs)
      clear m8 y0 HOP hb6 hrs HNy HSY HBY HBBy
      go_upto_region 10 with fail
      generalize hn1 : c.ps.length - ky = n1 at HRS ⊢
      have HN1 := Lib.hid (show (c.ps.drop ky).length = n1 by rw [List.length_drop]; exact hn1)
      have hn1I : (n1 : Int) ≤ 30 := by omega
      generalize ak1 - ky = cc1 at HRS ⊢
      clear c8 y1 hck hkI hcl hn1
      go_loopw [10, 56] (fun t i wr => ∃ q : Nat, q ≤ n1 ∧ i = .int .i64 q ∧ t = .string (lastF ((c.ps.drop ky).take q) y) ∧ Below w6.heap.size w6 wr) (fun _ i _ => n1 - (intOf i).toNat)
      case atStart => exact ⟨0, by omega, rfl, rfl, Below.refl _ _⟩
      case round =>
        obtain ⟨kz, hkz, rfl, rfl, hbw⟩ := hrel
        have HBZ := Lib.hid hbw
        have HBZ5 := Lib.hid (HB6.out.trans (hbw.mono HB6.out.size))
        by_cases hltz : kz < n1
        · have hlz : kz < (c.ps.drop ky).length := by rw [HN1.out]; exact hltz
          obtain ⟨z, hz⟩ : ∃ z, (c.ps.drop ky)[kz]? = some z := ⟨_, List.getElem?_eq_getElem hlz⟩
          obtain ⟨e1z, eez, p0, p1⟩ := RdSl.elem (HRS.out.below HBZ5.out (Nat.le_refl _)) hz
          cases eez
          have HHz := Lib.hid hz
          have hbb : Below wr.heap.size wr (wr.alloc (.cells #[.string z.n, .string z.v] 36)) := (Below.refl _ _).alloc (Nat.le_refl _) _
          have hnew := heap_alloc_new wr (.cells #[.string z.n, .string z.v] 36)
          have HBBz := Lib.hid hbb
          clear hbb hz
          go_upto_region 12 with fail
          generalize wr.alloc (.cells #[.string z.n, .string z.v] 36) = wz at hnew HBBz ⊢
          obtain ⟨KZ, hKZ⟩ : ∃ b, b = wr.heap.size := ⟨_, rfl⟩
          rw [← hKZ] at hnew ⊢
          have HNz := Lib.hid hnew
          clear hKZ p0 p1 hnew
          have HBz := Lib.hid (HBZ.out.trans (HBBz.out.mono HBZ.out.size))
          have z0 : wz.cell? ⟨KZ, 0, none⟩ = some (.string z.n) := by rw [cell_of_row wz KZ 0 _ _ (0, 0) HNz.out]; rfl
          have z1 : wz.cell? ⟨KZ, 1, none⟩ = some (.string z.v) := by rw [cell_of_row wz KZ 1 _ _ (0, 0) HNz.out]; rfl
          have y0 : wz.cell? ⟨KY, 0, none⟩ = some (.string y.n) := by rw [cell_of_row wz KY 0 _ _ (0, 0) ((HBz.out.block KY (Array.getElem?_eq_some_iff.1 HNy6.out).1).trans HNy6.out)]; rfl
          have HLS := Lib.hid (last_step (y := y) HHz.out)
          clear hbw hlz
          by_cases hq : z.n = y.n
          · have hqe : (z.n.toList == y.n.toList) = true := by rw [hq]; simp
            have HV := Lib.hid (show lastF ((c.ps.drop ky).take (kz + 1)) y = z.v by rw [HLS.out]; unfold valF; rw [if_pos (eqS_iff.2 hq)])
            clear hq
            go_wp2
            go_roundw
            case rel => exact ⟨kz + 1, by omega, by go_num, congrArg Value.string HV.out.symm, HBz.out⟩
            case measure => simp [intOf]; omega
          · have hqe : (z.n.toList == y.n.toList) = false := by rw [beq_eq_false_iff_ne]; exact fun h => hq (bytes_eq10 h)
            have HV := Lib.hid (show lastF ((c.ps.drop ky).take (kz + 1)) y = lastF ((c.ps.drop ky).take kz) y by rw [HLS.out]; unfold valF; rw [if_neg (fun h => hq (eqS_iff.1 h))])
            clear hq
            go_wp2
            go_roundw
            case rel => exact ⟨kz + 1, by omega, by go_num, congrArg Value.string HV.out.symm, HBz.out⟩
            case measure => simp [intOf]; omega
        · have hle : (n1 : Int) ≤ kz := by omega
          have hlast : lastF ((c.ps.drop ky).take kz) y = L := by rw [HL.out, List.take_of_length_le (by rw [HN1.out]; omega)]
          rw [hlast]
          have HBR := Lib.hid HBZ5.out
          clear hbw hlast
          go_wp2
          go_roundw
          case rel => exact ⟨ky + 1, by omega, by go_num, HBR.out⟩
          case measure => simp [intOf]; omega
    · have hle : (c.ps.length : Int) ≤ ky := by omega
      generalize hwr : wr = wr1 at HBW hbw ⊢
      have HS7 := Lib.hid (HS5.out.below hbw)
      have p8 : wr1.cell? ⟨P, 8, none⟩ = some (.slice b1 p.ps.length bk1) := by rw [cell_of_row wr1 P 8 _ _ (0, 0) HS7.out.2.1.2]; rfl
      clear hbw
      go_wp2_with fail
      clear p8 hle hlty hky hwr wr
      go_loopw [79] (fun i wr => ∃ k : Nat, k ≤ p.ps.length ∧ i = .int .i64 k ∧ Below w5.heap.size w5 wr) (fun i _ => p.ps.length - (intOf i).toNat)
      case atStart => exact ⟨0, by omega, rfl, HBW.out⟩
      case round =>
        clear HBW HS7
        obtain ⟨kv, hkv, rfl, hbw⟩ := hrel
        have HBW := Lib.hid hbw
        by_cases hltv : kv < p.ps.length
        · obtain ⟨v, hv⟩ : ∃ v, (p.ps)[kv]? = some v := ⟨_, List.getElem?_eq_getElem hltv⟩
          obtain ⟨e1v, eev, p0, p1⟩ := RdSl.elem (HRP5.out.p.below hbw (Nat.le_refl _)) hv
          cases eev
          have HHv := Lib.hid hv
          have hbb : Below wr.heap.size wr (wr.alloc (.cells #[.string v.n, .string v.v] 36)) := (Below.refl _ _).alloc (Nat.le_refl _) _
          have hnew := heap_alloc_new wr (.cells #[.string v.n, .string v.v] 36)
          have HBBv := Lib.hid hbb
          clear hbb hv
          go_upto_region 21 with fail
          generalize wr.alloc (.cells #[.string v.n, .string v.v] 36) = wv at hnew HBBv ⊢
          obtain ⟨KV, hKV⟩ : ∃ b, b = wr.heap.size := ⟨_, rfl⟩
          rw [← hKV] at hnew ⊢
          have HNv := Lib.hid hnew
          clear hKV p0 p1 hnew
          have HSV := Lib.hid ((HS5.out.below hbw).below HBBv.out)
          have HBV := Lib.hid (HBW.out.trans (HBBv.out.mono HBW.out.size))
          have m8 : wv.cell? ⟨M, 8, none⟩ = some (.slice m1 X.length mk1) := by rw [cell_of_row wv M 8 _ _ (0, 0) HSV.out.1]; rfl
          have v0 : wv.cell? ⟨KV, 0, none⟩ = some (.string v.n) := by rw [cell_of_row wv KV 0 _ _ (0, 0) HNv.out]; rfl
          have hth := parent_there (m := c.ps) (List.mem_of_getElem? HHv.out)
          rw [← HXE.out] at hth
          obtain ⟨V, hV⟩ := Option.isSome_iff_exists.1 hth
          have hop := Get_any X v.n _ wv (HRX5.out.below HBV.out (Nat.le_refl _))
          unfold GetP at hop
          rw [hV] at hop
          have HOP := Lib.hid hop
          clear hop hV hth hbw
          go_wp2_with fail
          refine HOP.out.mono ?_
          rintro e w6 ⟨rfl, hb6⟩
          dsimp only [Option.getD, Option.isSome]
          have HB6 := Lib.hid (HBV.out.trans (hb6.mono HBV.out.size))
          clear hb6 HOP m8 v0
          go_wp2
          go_roundw
          case rel => exact ⟨kv + 1, by omega, by go_num, HB6.out⟩
          case measure => simp [intOf]; omega
        · have hle : (p.ps.length : Int) ≤ kv := by omega
          generalize hwr : wr = wr2 at HBW hbw ⊢
          have HS8 := Lib.hid (HS5.out.below hbw)
          have m10 : wr2.cell? ⟨M, 10, none⟩ = some (.slice m3 D.length mk3) := by rw [cell_of_row wr2 M 10 _ _ (0, 0) HS8.out.1]; rfl
          have c10 : wr2.cell? ⟨C, 10, none⟩ = some (.slice a3 c.ds.length ak3) := by rw [cell_of_row wr2 C 10 _ _ (0, 0) HS8.out.2.1.1]; rfl
          have hdc : c.ds.length ≤ D.length := by rw [HDE.out]; unfold underL; simp
          have hdcI : ¬ ((D.length : Int) < (c.ds.length : Int)) := by omega
          clear hbw
          go_upto_region 25 with fail
          clear hle hltv hkv hwr wr
          obtain ⟨sa, hsl, hrt, hkc⟩ := RdDs.upto2 HRD5.out hdc
          have htk : D.take c.ds.length = c.ds := by rw [HDE.out]; exact under_take c.ds p.ds
          rw [htk] at hrt
          have HSL := Lib.hid hsl
          have HRT := Lib.hid hrt
          have hdcN : ¬ (D.length < c.ds.length) := by omega
          clear hsl hrt htk
          refine wp_region_held_drew (S := (fun w' => w'.cell? ⟨M, 10, none⟩ = some (.slice m3 D.length mk3) ∧ (w'.cell? ⟨C, 10, none⟩ = some (.slice a3 c.ds.length ak3) ∧ ((S3 w5 M C P #[.bool c.hp, .string c.pg, .string c.pa, .string c.pv, .string gz, .string c.a, .string vz, .string c.pk, .slice m1 X.length mk1, .slice m2 N mk2, .slice m3 D.length mk3] #[.bool c.hp, .string c.pg, .string c.pa, .string c.pv, .string c.g, .string c.a, .string c.v, .string c.pk, .slice a1 c.ps.length ak1, .slice a2 c.ms.length ak2, .slice a3 c.ds.length ak3] #[.bool p.hp, .string p.pg, .string p.pa, .string p.pv, .string p.g, .string p.a, .string p.v, .string p.pk, .slice b1 p.ps.length bk1, .slice b2 p.ms.length bk2, .slice b3 p.ds.length bk3]) w')))) (by kernel_rfl) (by (try dsimp only); exact ⟨m10, c10, HS8.out.drew⟩) (fun hHeld => ?_)
          generalize wr2.drew = wq at hHeld ⊢
          refine wpAnyH_take (i := 0) (v := ?_) (by (simp only [List.getElem?_toArray, List.getElem?_cons_succ, List.getElem?_cons_zero]; rfl)) (by kernel_rfl) (by kernel_rfl) (by kernel_rfl) (by intro _ _ _ h; exact h) (Or.inl ⟨by rfl, ?_⟩) (by assumption) ?_
          rotate_left
          · (intro w hSw; (try dsimp only at hSw); go_simp; try (with_reducible rfl))
          simp only [Act.put, List.setIfInBounds_toArray, List.set_cons_zero, List.set_cons_succ]
          refine wpAnyH_take (i := 1) (v := ?_) (by (simp only [List.getElem?_toArray, List.getElem?_cons_succ, List.getElem?_cons_zero]; rfl)) (by kernel_rfl) (by kernel_rfl) (by kernel_rfl) (by intro _ _ _ h; exact h) (Or.inl ⟨by rfl, ?_⟩) (by assumption) ?_
          rotate_left
          · (intro w hSw; (try dsimp only at hSw); go_simp; try (with_reducible rfl))
          simp only [Act.put, List.setIfInBounds_toArray, List.set_cons_zero, List.set_cons_succ]
          refine wpAnyH_take (i := 2) (v := ?_) (by (simp only [List.getElem?_toArray, List.getElem?_cons_succ, List.getElem?_cons_zero]; rfl)) (by kernel_rfl) (by kernel_rfl) (by kernel_rfl) (by intro _ _ _ h; exact h) (Or.inl ⟨by rfl, ?_⟩) (by assumption) ?_
          rotate_left
          · (intro w hSw; (try dsimp only at hSw); go_simp; try (with_reducible rfl))
          simp only [Act.put, List.setIfInBounds_toArray, List.set_cons_zero, List.set_cons_succ]
          refine wpAnyH_take (i := 3) (v := ?_) (by (simp only [List.getElem?_toArray, List.getElem?_cons_succ, List.getElem?_cons_zero]; rfl)) (by kernel_rfl) (by kernel_rfl) (by kernel_rfl) (by intro _ _ _ h; exact h) (Or.inl ⟨by rfl, ?_⟩) (by assumption) ?_
          rotate_left
          · (intro w hSw; (try dsimp only at hSw); go_simp; try (with_reducible rfl))
          simp only [Act.put, List.setIfInBounds_toArray, List.set_cons_zero, List.set_cons_succ]
          refine wpAnyH_take (i := 4) (v := ?_) (by (simp only [List.getElem?_toArray, List.getElem?_cons_succ, List.getElem?_cons_zero]; rfl)) (by kernel_rfl) (by kernel_rfl) (by kernel_rfl) (by intro _ _ _ h; exact h) (Or.inl ⟨by rfl, ?_⟩) (by assumption) ?_
          rotate_left
          · (intro w hSw; (try dsimp only at hSw); go_simp; try (with_reducible rfl))
          simp only [Act.put, List.setIfInBounds_toArray, List.set_cons_zero, List.set_cons_succ]
          refine wpAnyH_take (i := 5) (v := ?_) (by (simp only [List.getElem?_toArray, List.getElem?_cons_succ, List.getElem?_cons_zero]; rfl)) (by kernel_rfl) (by kernel_rfl) (by kernel_rfl) (by intro _ _ _ h; exact h) (Or.inl ⟨by rfl, ?_⟩) (by assumption) ?_
          rotate_left
          · (intro w hSw; (try dsimp only at hSw); go_simp; try (with_reducible rfl))
          simp only [Act.put, List.setIfInBounds_toArray, List.set_cons_zero, List.set_cons_succ]
          refine wpAnyH_take (i := 6) (v := ?_) (by (simp only [List.getElem?_toArray, List.getElem?_cons_succ, List.getElem?_cons_zero]; rfl)) (by kernel_rfl) (by kernel_rfl) (by kernel_rfl) (by intro _ _ _ h; exact h) (Or.inl ⟨by rfl, ?_⟩) (by assumption) ?_
          rotate_left
          · (intro w hSw; (try dsimp only at hSw); go_simp; try (with_reducible rfl))
          simp only [Act.put, List.setIfInBounds_toArray, List.set_cons_zero, List.set_cons_succ]
          refine wpAnyH_take (i := 7) (v := ?_) (by (simp only [List.getElem?_toArray, List.getElem?_cons_succ, List.getElem?_cons_zero]; rfl)) (by kernel_rfl) (by kernel_rfl) (by kernel_rfl) (by intro _ _ _ h; exact h) (Or.inl ⟨by rfl, ?_⟩) (by assumption) ?_
          rotate_left
          · (intro w hSw; (try dsimp only at hSw); go_simp; try (with_reducible rfl))
          simp only [Act.put, List.setIfInBounds_toArray, List.set_cons_zero, List.set_cons_succ]
          refine wpAnyH_take (i := 8) (v := ?_) (by (simp only [List.getElem?_toArray, List.getElem?_cons_succ, List.getElem?_cons_zero]; rfl)) (by kernel_rfl) (by kernel_rfl) (by kernel_rfl) (by intro _ _ _ h; exact h) (Or.inl ⟨by rfl, ?_⟩) (by assumption) ?_
          rotate_left
          · (intro w hSw; (try dsimp only at hSw); go_simp; try (with_reducible rfl))
          simp only [Act.put, List.setIfInBounds_toArray, List.set_cons_zero, List.set_cons_succ]
          refine wpAnyH_take (i := 9) (v := ?_) (by (simp only [List.getElem?_toArray, List.getElem?_cons_succ, List.getElem?_cons_zero]; rfl)) (by kernel_rfl) (by kernel_rfl) (by kernel_rfl) (by intro _ _ _ h; exact h) (Or.inl ⟨by rfl, ?_⟩) (by assumption) ?_
          rotate_left
          · (intro w hSw; (try dsimp only at hSw); go_simp; try (with_reducible rfl))
          simp only [Act.put, List.setIfInBounds_toArray, List.set_cons_zero, List.set_cons_succ]
          refine wpAnyH_take (i := 10) (v := ?_) (by (simp only [List.getElem?_toArray, List.getElem?_cons_succ, List.getElem?_cons_zero]; rfl)) (by kernel_rfl) (by kernel_rfl) (by kernel_rfl) (by intro _ _ _ h; exact h) (Or.inl ⟨by rfl, ?_⟩) (by assumption) ?_
          rotate_left
          · (intro w hSw; (try dsimp only at hSw); go_simp; try (with_reducible rfl))
          simp only [Act.put, List.setIfInBounds_toArray, List.set_cons_zero, List.set_cons_succ]
          refine wpAnyH_take (i := 11) (v := ?_) (by (simp only [List.getElem?_toArray, List.getElem?_cons_succ, List.getElem?_cons_zero]; rfl)) (by kernel_rfl) (by kernel_rfl) (by kernel_rfl) (by intro _ _ _ h; exact h) (Or.inl ⟨by rfl, ?_⟩) (by assumption) ?_
          rotate_left
          · (intro w hSw; (try dsimp only at hSw); go_simp; try (with_reducible rfl))
          simp only [Act.put, List.setIfInBounds_toArray, List.set_cons_zero, List.set_cons_succ]
          refine wpAnyH_take (i := 12) (v := ?_) (by (simp only [List.getElem?_toArray, List.getElem?_cons_succ, List.getElem?_cons_zero]; rfl)) (by kernel_rfl) (by kernel_rfl) (by kernel_rfl) (by intro _ _ _ h; exact h) (Or.inl ⟨by rfl, ?_⟩) (by assumption) ?_
          rotate_left
          · (intro w hSw; (try dsimp only at hSw); go_simp; try (with_reducible rfl))
          simp only [Act.put, List.setIfInBounds_toArray, List.set_cons_zero, List.set_cons_succ]
          refine wpAnyH_take (i := 13) (v := .slice sa c.ds.length mk3) (by (simp only [List.getElem?_toArray, List.getElem?_cons_succ, List.getElem?_cons_zero]; rfl)) (by kernel_rfl) (by kernel_rfl) (by kernel_rfl) (by intro _ _ _ h; exact h) (yields_upD HSL.out (by rfl) _ _ rfl rfl rfl hkc) (by assumption) ?_
          simp only [Act.put, List.setIfInBounds_toArray, List.set_cons_zero, List.set_cons_succ]
          refine wpAnyH_take (i := 14) (v := ?_) (by (simp only [List.getElem?_toArray, List.getElem?_cons_succ, List.getElem?_cons_zero]; rfl)) (by kernel_rfl) (by kernel_rfl) (by kernel_rfl) (by intro _ _ _ h; exact h) (Or.inl ⟨by rfl, ?_⟩) (by assumption) ?_
          rotate_left
          · (intro w hSw; (try dsimp only at hSw); go_simp; try (with_reducible rfl))
          simp only [Act.put, List.setIfInBounds_toArray, List.set_cons_zero, List.set_cons_succ]
          refine wpAnyH_take (i := 15) (v := ?_) (by (simp only [List.getElem?_toArray, List.getElem?_cons_succ, List.getElem?_cons_zero]; rfl)) (by kernel_rfl) (by kernel_rfl) (by kernel_rfl) (by intro _ _ _ h; exact h) (Or.inl ⟨by rfl, ?_⟩) (by assumption) ?_
          rotate_left
          · (intro w hSw; (try dsimp only at hSw); go_simp; try (with_reducible rfl))
          simp only [Act.put, List.setIfInBounds_toArray, List.set_cons_zero, List.set_cons_succ]
          have hop := SameDeps_any (.slice sa c.ds.length mk3) (.slice a3 c.ds.length ak3) c.ds c.ds _ (HRT.out.below hHeld.2.2.2.2 (Nat.le_refl _)) (HRC5.out.d.below hHeld.2.2.2.2 (Nat.le_refl _))
          rw [sameL_self sameDp_self] at hop
          refine wpAnyH_ready (rs := [16]) (by kernel_rfl) (by simp) ?_
          refine AllReadyH.cons (by (simp only [List.getElem?_toArray, List.getElem?_cons_succ, List.getElem?_cons_zero]; rfl)) (fun K hK => ?_) AllReadyH.nil
          go_simp
          go_at_call 13; refine hop.mono ?_; rintro e w6 ⟨rfl, hb6⟩
          refine hK.out _ _ (by (try dsimp only); exact ⟨(hb6.cell (World.block_lt_of_cell? _ _ hHeld.1)).trans hHeld.1, (hb6.cell (World.block_lt_of_cell? _ _ hHeld.2.1)).trans hHeld.2.1, hHeld.2.2.below hb6⟩) (fun hHeld => ?_)
          clear hK K
          try simp only [Act.put, List.setIfInBounds_toArray, List.set_cons_zero, List.set_cons_succ]
          refine wpAnyH_take (i := 17) (v := ?_) (by (simp only [List.getElem?_toArray, List.getElem?_cons_succ, List.getElem?_cons_zero]; rfl)) (by kernel_rfl) (by kernel_rfl) (by kernel_rfl) (by intro _ _ _ h; exact h) (Or.inl ⟨by rfl, ?_⟩) (by assumption) ?_
          rotate_left
          · (intro w hSw; (try dsimp only at hSw); go_simp; try (with_reducible rfl))
          simp only [Act.put, List.setIfInBounds_toArray, List.set_cons_zero, List.set_cons_succ]
          refine wpAnyH_take (i := 18) (v := ?_) (by (simp only [List.getElem?_toArray, List.getElem?_cons_succ, List.getElem?_cons_zero]; rfl)) (by kernel_rfl) (by kernel_rfl) (by kernel_rfl) (by intro _ _ _ h; exact h) (Or.inl ⟨by rfl, ?_⟩) (by assumption) ?_
          rotate_left
          · (intro w hSw; (try dsimp only at hSw); go_simp; try (with_reducible rfl))
          simp only [Act.put, List.setIfInBounds_toArray, List.set_cons_zero, List.set_cons_succ]
          refine wpAnyH_done (by kernel_rfl) ?_ _
          have HB9 := Lib.hid hHeld.2.2.2.2
          have HS9 := Lib.hid hHeld.2.2
          clear hHeld hop hb6 m10 c10 hdcI hdcN
          go_upto_region 27 with fail
          have m10 : w6.cell? ⟨M, 10, none⟩ = some (.slice m3 D.length mk3) := by rw [cell_of_row w6 M 10 _ _ (0, 0) HS9.out.1]; rfl
          have c10 : w6.cell? ⟨C, 10, none⟩ = some (.slice a3 c.ds.length ak3) := by rw [cell_of_row w6 C 10 _ _ (0, 0) HS9.out.2.1.1]; rfl
          obtain ⟨sd, hsd, hrr⟩ := RdDs.from2 HRD5.out hdc
          have HSD := Lib.hid hsd
          have HRR := Lib.hid hrr
          clear hsd hrr
          have hdcI : (c.ds.length : Int) ≤ (D.length : Int) := by omega
          go_cut [118, 119, 120] from 21 to 195 (fun t u i wx => t = .slice sd (D.length - c.ds.length) (mk3 - c.ds.length) ∧ u = .int .i64 ((D.length - c.ds.length : Nat) : Int) ∧ i = .int .i64 0 ∧ wx = w6)
          case first =>
            by_cases hmk : mk3 = c.ds.length
            · have h1 := HSD.out
              simp only [sliced] at h1
              rw [if_pos hmk] at h1
              have HS1 := Lib.hid (show Value.slice m3 (D.length - c.ds.length) 0 = .slice sd (D.length - c.ds.length) (mk3 - c.ds.length) by rw [← h1, show mk3 - c.ds.length = 0 by omega])
              clear h1
              go_wp2_with fail
              go_meet
              exact ⟨HS1.out, rfl, rfl, rfl⟩
            · have h1 := HSD.out
              simp only [sliced] at h1
              rw [if_neg hmk] at h1
              have HS1 := Lib.hid h1
              clear h1
              go_wp2_with fail
              go_meet
              exact ⟨HS1.out, rfl, rfl, rfl⟩
          case rest =>
          obtain ⟨rfl, rfl, rfl, rfl⟩ := hcut
          generalize hn4 : D.length - c.ds.length = n4 at HRR ⊢
          have HN4 := Lib.hid (show (D.drop c.ds.length).length = n4 by rw [List.length_drop]; exact hn4)
          have hn4I : (n4 : Int) ≤ 9223372036854775807 := by omega
          generalize mk3 - c.ds.length = cc4 at HRR ⊢
          clear m10 c10 hn4
          go_wp2_with fail
          go_loopw [120] (fun i wr => ∃ k : Nat, k ≤ n4 ∧ i = .int .i64 k ∧ Below w5.heap.size w5 wr) (fun i _ => n4 - (intOf i).toNat)
          case atStart => exact ⟨0, by omega, rfl, HB9.out⟩
          case round =>
            clear HB9 HS9 HBW HS8
            obtain ⟨k, hk, rfl, hbw⟩ := hrel
            have HBW := Lib.hid hbw
            by_cases hlt : k < n4
            · have hlt2 : k < (D.drop c.ds.length).length := by rw [HN4.out]; exact hlt
              obtain ⟨d, hd⟩ : ∃ d, (D.drop c.ds.length)[k]? = some d := ⟨_, List.getElem?_eq_getElem hlt2⟩
              obtain ⟨e1d, eed, ex, p0, rx⟩ := RdSl.elem (HRR.out.below hbw (Nat.le_refl _)) hd
              cases eed
              obtain ⟨xa, xc, rfl⟩ := RdSl.shape rx
              obtain ⟨c0, c1, c2, c3, c4, c5, c6, c7⟩ := p0
              have HHd := Lib.hid hd
              have hbb : Below wr.heap.size wr (wr.alloc (.cells #[.string d.g, .string d.a, .string d.v, .string d.t, .string d.c, .int .i64 d.sc, .int .i64 d.op, .slice xa d.ex.length xc] 34)) := (Below.refl _ _).alloc (Nat.le_refl _) _
              have hnew := heap_alloc_new wr (.cells #[.string d.g, .string d.a, .string d.v, .string d.t, .string d.c, .int .i64 d.sc, .int .i64 d.op, .slice xa d.ex.length xc] 34)
              have HBBd := Lib.hid hbb
              clear hbb hd rx
              go_upto_region 30 with fail
              generalize wr.alloc (.cells #[.string d.g, .string d.a, .string d.v, .string d.t, .string d.c, .int .i64 d.sc, .int .i64 d.op, .slice xa d.ex.length xc] 34) = wd at hnew HBBd ⊢
              obtain ⟨KD, hKD⟩ : ∃ b, b = wr.heap.size := ⟨_, rfl⟩
              rw [← hKD] at hnew ⊢
              have HNd := Lib.hid hnew
              clear hKD c0 c1 c2 c3 c4 c5 c6 c7 hnew
              have HSd := Lib.hid ((HS5.out.below hbw).below HBBd.out)
              have c10 : wd.cell? ⟨C, 10, none⟩ = some (.slice a3 c.ds.length ak3) := by rw [cell_of_row wd C 10 _ _ (0, 0) HSd.out.2.1.1]; rfl
              have p10 : wd.cell? ⟨P, 10, none⟩ = some (.slice b3 p.ds.length bk3) := by rw [cell_of_row wd P 10 _ _ (0, 0) HSd.out.2.1.2]; rfl
              have r0 : wd.cell? ⟨KD, 0, none⟩ = some (.string d.g) := by rw [cell_of_row wd KD 0 _ _ (0, 0) HNd.out]; rfl
              have r1 : wd.cell? ⟨KD, 1, none⟩ = some (.string d.a) := by rw [cell_of_row wd KD 1 _ _ (0, 0) HNd.out]; rfl
              have r2 : wd.cell? ⟨KD, 2, none⟩ = some (.string d.v) := by rw [cell_of_row wd KD 2 _ _ (0, 0) HNd.out]; rfl
              have r3 : wd.cell? ⟨KD, 3, none⟩ = some (.string d.t) := by rw [cell_of_row wd KD 3 _ _ (0, 0) HNd.out]; rfl
              have r4 : wd.cell? ⟨KD, 4, none⟩ = some (.string d.c) := by rw [cell_of_row wd KD 4 _ _ (0, 0) HNd.out]; rfl
              have r5 : wd.cell? ⟨KD, 5, none⟩ = some (.int .i64 d.sc) := by rw [cell_of_row wd KD 5 _ _ (0, 0) HNd.out]; rfl
              have r6 : wd.cell? ⟨KD, 6, none⟩ = some (.int .i64 d.op) := by rw [cell_of_row wd KD 6 _ _ (0, 0) HNd.out]; rfl
              have r7 : wd.cell? ⟨KD, 7, none⟩ = some (.slice xa d.ex.length xc) := by rw [cell_of_row wd KD 7 _ _ (0, 0) HNd.out]; rfl
              have hri := rest_is (by rw [← HDE.out]; exact List.mem_of_getElem? HHd.out)
              obtain ⟨kx, hkx⟩ : ∃ kx, kx = keyD d := ⟨_, rfl⟩
              rw [← hkx] at hri
              have hRK := fun w' => refKey_any d (.slice xa d.ex.length xc) w' ⟨_, _, rfl⟩
              have hCK := fun w' => Key_any d (.slice xa d.ex.length xc) w' ⟨_, _, rfl⟩
              unfold dpV at hRK hCK
              rw [← hkx] at hRK hCK
              have HRK := Lib.hid (show ∀ w', Calls Try.prog 15 #[.agg #[.string d.g, .string d.a, .string d.v, .string d.t, .string d.c, .int .i64 d.sc, .int .i64 d.op, .slice xa d.ex.length xc]] w' fun e w'' => e = .returned (.agg #[.string kx.g, .string kx.a, .string kx.t, .string kx.c]) ∧ Below w'.heap.size w' w'' from hRK)
              have HCK := Lib.hid (show ∀ w', Calls Try.prog 16 #[.agg #[.string d.g, .string d.a, .string d.v, .string d.t, .string d.c, .int .i64 d.sc, .int .i64 d.op, .slice xa d.ex.length xc]] w' fun e w'' => e = .returned (.agg #[.string kx.g, .string kx.a, .string kx.t, .string kx.c]) ∧ Below w'.heap.size w' w'' from hCK)
              have HRI := Lib.hid hri
              have hne1 : ∀ w', (Op.equalIn 10000 45 (.agg #[.string kx.g, .string kx.a, .string kx.t, .string kx.c]) (.agg #[.string kx.g, .string kx.a, .string kx.t, .string kx.c])).run Try.prog w' = .ok true w' := fun w' => by
                have h1 := eqI_ky kx kx 9998 w'
                rw [sameKy_iff.2 rfl] at h1
                exact h1
              clear hri hkx hRK hCK hbw hlt2
              refine wp_region_held_drew (S := (fun w' => w'.cell? ⟨C, 10, none⟩ = some (.slice a3 c.ds.length ak3) ∧ (w'.cell? ⟨P, 10, none⟩ = some (.slice b3 p.ds.length bk3) ∧ (w'.cell? ⟨KD, 0, none⟩ = some (.string d.g) ∧ (w'.cell? ⟨KD, 1, none⟩ = some (.string d.a) ∧ (w'.cell? ⟨KD, 2, none⟩ = some (.string d.v) ∧ (w'.cell? ⟨KD, 3, none⟩ = some (.string d.t) ∧ (w'.cell? ⟨KD, 4, none⟩ = some (.string d.c) ∧ (w'.cell? ⟨KD, 5, none⟩ = some (.int .i64 d.sc) ∧ (w'.cell? ⟨KD, 6, none⟩ = some (.int .i64 d.op) ∧ (w'.cell? ⟨KD, 7, none⟩ = some (.slice xa d.ex.length xc) ∧ ((S3 w5 M C P #[.bool c.hp, .string c.pg, .string c.pa, .string c.pv, .string gz, .string c.a, .string vz, .string c.pk, .slice m1 X.length mk1, .slice m2 N mk2, .slice m3 D.length mk3] #[.bool c.hp, .string c.pg, .string c.pa, .string c.pv, .string c.g, .string c.a, .string c.v, .string c.pk, .slice a1 c.ps.length ak1, .slice a2 c.ms.length ak2, .slice a3 c.ds.length ak3] #[.bool p.hp, .string p.pg, .string p.pa, .string p.pv, .string p.g, .string p.a, .string p.v, .string p.pk, .slice b1 p.ps.length bk1, .slice b2 p.ms.length bk2, .slice b3 p.ds.length bk3]) w')))))))))))) (by kernel_rfl) (by (try dsimp only); exact ⟨c10, p10, r0, r1, r2, r3, r4, r5, r6, r7, HSd.out.drew⟩) (fun hHeld => ?_)
              generalize wd.drew = wq at hHeld ⊢
              refine wpAnyH_take (i := 0) (v := ?_) (by (simp only [List.getElem?_toArray, List.getElem?_cons_succ, List.getElem?_cons_zero]; rfl)) (by kernel_rfl) (by kernel_rfl) (by kernel_rfl) (by intro _ _ _ h; exact h) (Or.inl ⟨by rfl, ?_⟩) (by assumption) ?_
              rotate_left
              · (intro w hSw; (try dsimp only at hSw); go_simp; try (with_reducible rfl))
              simp only [Act.put, List.setIfInBounds_toArray, List.set_cons_zero, List.set_cons_succ]
              refine wpAnyH_take (i := 1) (v := ?_) (by (simp only [List.getElem?_toArray, List.getElem?_cons_succ, List.getElem?_cons_zero]; rfl)) (by kernel_rfl) (by kernel_rfl) (by kernel_rfl) (by intro _ _ _ h; exact h) (Or.inl ⟨by rfl, ?_⟩) (by assumption) ?_
              rotate_left
              · (intro w hSw; (try dsimp only at hSw); go_simp; try (with_reducible rfl))
              simp only [Act.put, List.setIfInBounds_toArray, List.set_cons_zero, List.set_cons_succ]
              refine wpAnyH_take (i := 2) (v := ?_) (by (simp only [List.getElem?_toArray, List.getElem?_cons_succ, List.getElem?_cons_zero]; rfl)) (by kernel_rfl) (by kernel_rfl) (by kernel_rfl) (by intro _ _ _ h; exact h) (Or.inl ⟨by rfl, ?_⟩) (by assumption) ?_
              rotate_left
              · (intro w hSw; (try dsimp only at hSw); go_simp; try (with_reducible rfl))
              simp only [Act.put, List.setIfInBounds_toArray, List.set_cons_zero, List.set_cons_succ]
              have hop := HRK.out wq
              refine wpAnyH_ready (rs := [3]) (by kernel_rfl) (by simp) ?_
              refine AllReadyH.cons (by (simp only [List.getElem?_toArray, List.getElem?_cons_succ, List.getElem?_cons_zero]; rfl)) (fun K hK => ?_) AllReadyH.nil
              go_simp
              go_at_call 15; refine hop.mono ?_; rintro e w7 ⟨rfl, hb7⟩
              refine hK.out _ _ (by (try dsimp only); exact ⟨(hb7.cell (World.block_lt_of_cell? _ _ hHeld.1)).trans hHeld.1, (hb7.cell (World.block_lt_of_cell? _ _ hHeld.2.1)).trans hHeld.2.1, (hb7.cell (World.block_lt_of_cell? _ _ hHeld.2.2.1)).trans hHeld.2.2.1, (hb7.cell (World.block_lt_of_cell? _ _ hHeld.2.2.2.1)).trans hHeld.2.2.2.1, (hb7.cell (World.block_lt_of_cell? _ _ hHeld.2.2.2.2.1)).trans hHeld.2.2.2.2.1, (hb7.cell (World.block_lt_of_cell? _ _ hHeld.2.2.2.2.2.1)).trans hHeld.2.2.2.2.2.1, (hb7.cell (World.block_lt_of_cell? _ _ hHeld.2.2.2.2.2.2.1)).trans hHeld.2.2.2.2.2.2.1, (hb7.cell (World.block_lt_of_cell? _ _ hHeld.2.2.2.2.2.2.2.1)).trans hHeld.2.2.2.2.2.2.2.1, (hb7.cell (World.block_lt_of_cell? _ _ hHeld.2.2.2.2.2.2.2.2.1)).trans hHeld.2.2.2.2.2.2.2.2.1, (hb7.cell (World.block_lt_of_cell? _ _ hHeld.2.2.2.2.2.2.2.2.2.1)).trans hHeld.2.2.2.2.2.2.2.2.2.1, hHeld.2.2.2.2.2.2.2.2.2.2.below hb7⟩) (fun hHeld => ?_)
              clear hK K
              try simp only [Act.put, List.setIfInBounds_toArray, List.set_cons_zero, List.set_cons_succ]
              have hop2 := Has_any c.ds kx _ w7 (HRC5.out.d.below hHeld.2.2.2.2.2.2.2.2.2.2.2.2 (Nat.le_refl _))
              rw [HRI.out.1] at hop2
              unfold Ky.val at hop2
              refine wpAnyH_ready (rs := [4]) (by kernel_rfl) (by simp) ?_
              refine AllReadyH.cons (by (simp only [List.getElem?_toArray, List.getElem?_cons_succ, List.getElem?_cons_zero]; rfl)) (fun K hK => ?_) AllReadyH.nil
              go_simp
              go_at_call 14; refine hop2.mono ?_; rintro e w8 ⟨rfl, hb8⟩
              refine hK.out _ _ (by (try dsimp only); exact ⟨(hb8.cell (World.block_lt_of_cell? _ _ hHeld.1)).trans hHeld.1, (hb8.cell (World.block_lt_of_cell? _ _ hHeld.2.1)).trans hHeld.2.1, (hb8.cell (World.block_lt_of_cell? _ _ hHeld.2.2.1)).trans hHeld.2.2.1, (hb8.cell (World.block_lt_of_cell? _ _ hHeld.2.2.2.1)).trans hHeld.2.2.2.1, (hb8.cell (World.block_lt_of_cell? _ _ hHeld.2.2.2.2.1)).trans hHeld.2.2.2.2.1, (hb8.cell (World.block_lt_of_cell? _ _ hHeld.2.2.2.2.2.1)).trans hHeld.2.2.2.2.2.1, (hb8.cell (World.block_lt_of_cell? _ _ hHeld.2.2.2.2.2.2.1)).trans hHeld.2.2.2.2.2.2.1, (hb8.cell (World.block_lt_of_cell? _ _ hHeld.2.2.2.2.2.2.2.1)).trans hHeld.2.2.2.2.2.2.2.1, (hb8.cell (World.block_lt_of_cell? _ _ hHeld.2.2.2.2.2.2.2.2.1)).trans hHeld.2.2.2.2.2.2.2.2.1, (hb8.cell (World.block_lt_of_cell? _ _ hHeld.2.2.2.2.2.2.2.2.2.1)).trans hHeld.2.2.2.2.2.2.2.2.2.1, hHeld.2.2.2.2.2.2.2.2.2.2.below hb8⟩) (fun hHeld => ?_)
              clear hK K
              try simp only [Act.put, List.setIfInBounds_toArray, List.set_cons_zero, List.set_cons_succ]
              refine wpAnyH_take (i := 5) (v := ?_) (by (simp only [List.getElem?_toArray, List.getElem?_cons_succ, List.getElem?_cons_zero]; rfl)) (by kernel_rfl) (by kernel_rfl) (by kernel_rfl) (by intro _ _ _ h; exact h) (Or.inl ⟨by rfl, ?_⟩) (by assumption) ?_
              rotate_left
              · (intro w hSw; (try dsimp only at hSw); go_simp; try (with_reducible rfl))
              simp only [Act.put, List.setIfInBounds_toArray, List.set_cons_zero, List.set_cons_succ]
              refine wpAnyH_take (i := 6) (v := ?_) (by (simp only [List.getElem?_toArray, List.getElem?_cons_succ, List.getElem?_cons_zero]; rfl)) (by kernel_rfl) (by kernel_rfl) (by kernel_rfl) (by intro _ _ _ h; exact h) (Or.inl ⟨by rfl, ?_⟩) (by assumption) ?_
              rotate_left
              · (intro w hSw; (try dsimp only at hSw); go_simp; try (with_reducible rfl))
              simp only [Act.put, List.setIfInBounds_toArray, List.set_cons_zero, List.set_cons_succ]
              refine wpAnyH_take (i := 7) (v := ?_) (by (simp only [List.getElem?_toArray, List.getElem?_cons_succ, List.getElem?_cons_zero]; rfl)) (by kernel_rfl) (by kernel_rfl) (by kernel_rfl) (by intro _ _ _ h; exact h) (Or.inl ⟨by rfl, ?_⟩) (by assumption) ?_
              rotate_left
              · (intro w hSw; (try dsimp only at hSw); go_simp; try (with_reducible rfl))
              simp only [Act.put, List.setIfInBounds_toArray, List.set_cons_zero, List.set_cons_succ]
              refine wpAnyH_take (i := 8) (v := ?_) (by (simp only [List.getElem?_toArray, List.getElem?_cons_succ, List.getElem?_cons_zero]; rfl)) (by kernel_rfl) (by kernel_rfl) (by kernel_rfl) (by intro _ _ _ h; exact h) (Or.inl ⟨by rfl, ?_⟩) (by assumption) ?_
              rotate_left
              · (intro w hSw; (try dsimp only at hSw); go_simp; try (with_reducible rfl))
              simp only [Act.put, List.setIfInBounds_toArray, List.set_cons_zero, List.set_cons_succ]
              have hop3 := HRK.out w8
              clear hop
              refine wpAnyH_ready (rs := [9]) (by kernel_rfl) (by simp) ?_
              refine AllReadyH.cons (by (simp only [List.getElem?_toArray, List.getElem?_cons_succ, List.getElem?_cons_zero]; rfl)) (fun K hK => ?_) AllReadyH.nil
              go_simp
              go_at_call 15; refine hop3.mono ?_; rintro e w9 ⟨rfl, hb9⟩
              refine hK.out _ _ (by (try dsimp only); exact ⟨(hb9.cell (World.block_lt_of_cell? _ _ hHeld.1)).trans hHeld.1, (hb9.cell (World.block_lt_of_cell? _ _ hHeld.2.1)).trans hHeld.2.1, (hb9.cell (World.block_lt_of_cell? _ _ hHeld.2.2.1)).trans hHeld.2.2.1, (hb9.cell (World.block_lt_of_cell? _ _ hHeld.2.2.2.1)).trans hHeld.2.2.2.1, (hb9.cell (World.block_lt_of_cell? _ _ hHeld.2.2.2.2.1)).trans hHeld.2.2.2.2.1, (hb9.cell (World.block_lt_of_cell? _ _ hHeld.2.2.2.2.2.1)).trans hHeld.2.2.2.2.2.1, (hb9.cell (World.block_lt_of_cell? _ _ hHeld.2.2.2.2.2.2.1)).trans hHeld.2.2.2.2.2.2.1, (hb9.cell (World.block_lt_of_cell? _ _ hHeld.2.2.2.2.2.2.2.1)).trans hHeld.2.2.2.2.2.2.2.1, (hb9.cell (World.block_lt_of_cell? _ _ hHeld.2.2.2.2.2.2.2.2.1)).trans hHeld.2.2.2.2.2.2.2.2.1, (hb9.cell (World.block_lt_of_cell? _ _ hHeld.2.2.2.2.2.2.2.2.2.1)).trans hHeld.2.2.2.2.2.2.2.2.2.1, hHeld.2.2.2.2.2.2.2.2.2.2.below hb9⟩) (fun hHeld => ?_)
              clear hK K
              try simp only [Act.put, List.setIfInBounds_toArray, List.set_cons_zero, List.set_cons_succ]
              have hop4 := Has_any p.ds kx _ w9 (HRP5.out.d.below hHeld.2.2.2.2.2.2.2.2.2.2.2.2 (Nat.le_refl _))
              rw [HRI.out.2] at hop4
              unfold Ky.val at hop4
              clear hop2
              refine wpAnyH_ready (rs := [10]) (by kernel_rfl) (by simp) ?_
              refine AllReadyH.cons (by (simp only [List.getElem?_toArray, List.getElem?_cons_succ, List.getElem?_cons_zero]; rfl)) (fun K hK => ?_) AllReadyH.nil
              go_simp
              go_at_call 14; refine hop4.mono ?_; rintro e w10 ⟨rfl, hb10⟩
              refine hK.out _ _ (by (try dsimp only); exact ⟨(hb10.cell (World.block_lt_of_cell? _ _ hHeld.1)).trans hHeld.1, (hb10.cell (World.block_lt_of_cell? _ _ hHeld.2.1)).trans hHeld.2.1, (hb10.cell (World.block_lt_of_cell? _ _ hHeld.2.2.1)).trans hHeld.2.2.1, (hb10.cell (World.block_lt_of_cell? _ _ hHeld.2.2.2.1)).trans hHeld.2.2.2.1, (hb10.cell (World.block_lt_of_cell? _ _ hHeld.2.2.2.2.1)).trans hHeld.2.2.2.2.1, (hb10.cell (World.block_lt_of_cell? _ _ hHeld.2.2.2.2.2.1)).trans hHeld.2.2.2.2.2.1, (hb10.cell (World.block_lt_of_cell? _ _ hHeld.2.2.2.2.2.2.1)).trans hHeld.2.2.2.2.2.2.1, (hb10.cell (World.block_lt_of_cell? _ _ hHeld.2.2.2.2.2.2.2.1)).trans hHeld.2.2.2.2.2.2.2.1, (hb10.cell (World.block_lt_of_cell? _ _ hHeld.2.2.2.2.2.2.2.2.1)).trans hHeld.2.2.2.2.2.2.2.2.1, (hb10.cell (World.block_lt_of_cell? _ _ hHeld.2.2.2.2.2.2.2.2.2.1)).trans hHeld.2.2.2.2.2.2.2.2.2.1, hHeld.2.2.2.2.2.2.2.2.2.2.below hb10⟩) (fun hHeld => ?_)
              clear hK K
              try simp only [Act.put, List.setIfInBounds_toArray, List.set_cons_zero, List.set_cons_succ]
              refine wpAnyH_take (i := 11) (v := ?_) (by (simp only [List.getElem?_toArray, List.getElem?_cons_succ, List.getElem?_cons_zero]; rfl)) (by kernel_rfl) (by kernel_rfl) (by kernel_rfl) (by intro _ _ _ h; exact h) (Or.inl ⟨by rfl, ?_⟩) (by assumption) ?_
              rotate_left
              · (intro w hSw; (try dsimp only at hSw); go_simp; try (with_reducible rfl))
              simp only [Act.put, List.setIfInBounds_toArray, List.set_cons_zero, List.set_cons_succ]
              refine wpAnyH_take (i := 12) (v := ?_) (by (simp only [List.getElem?_toArray, List.getElem?_cons_succ, List.getElem?_cons_zero]; rfl)) (by kernel_rfl) (by kernel_rfl) (by kernel_rfl) (by intro _ _ _ h; exact h) (Or.inl ⟨by rfl, ?_⟩) (by assumption) ?_
              rotate_left
              · (intro w hSw; (try dsimp only at hSw); go_simp; try (with_reducible rfl))
              simp only [Act.put, List.setIfInBounds_toArray, List.set_cons_zero, List.set_cons_succ]
              refine wpAnyH_take (i := 13) (v := ?_) (by (simp only [List.getElem?_toArray, List.getElem?_cons_succ, List.getElem?_cons_zero]; rfl)) (by kernel_rfl) (by kernel_rfl) (by kernel_rfl) (by intro _ _ _ h; exact h) (Or.inl ⟨by rfl, ?_⟩) (by assumption) ?_
              rotate_left
              · (intro w hSw; (try dsimp only at hSw); go_simp; try (with_reducible rfl))
              simp only [Act.put, List.setIfInBounds_toArray, List.set_cons_zero, List.set_cons_succ]
              refine wpAnyH_take (i := 14) (v := ?_) (by (simp only [List.getElem?_toArray, List.getElem?_cons_succ, List.getElem?_cons_zero]; rfl)) (by kernel_rfl) (by kernel_rfl) (by kernel_rfl) (by intro _ _ _ h; exact h) (Or.inl ⟨by rfl, ?_⟩) (by assumption) ?_
              rotate_left
              · (intro w hSw; (try dsimp only at hSw); go_simp; try (with_reducible rfl))
              simp only [Act.put, List.setIfInBounds_toArray, List.set_cons_zero, List.set_cons_succ]
              refine wpAnyH_take (i := 16) (v := ?_) (by (simp only [List.getElem?_toArray, List.getElem?_cons_succ, List.getElem?_cons_zero]; rfl)) (by kernel_rfl) (by kernel_rfl) (by kernel_rfl) (by intro _ _ _ h; exact h) (Or.inl ⟨by rfl, ?_⟩) (by assumption) ?_
              rotate_left
              · (intro w hSw; (try dsimp only at hSw); go_simp; try (with_reducible rfl))
              simp only [Act.put, List.setIfInBounds_toArray, List.set_cons_zero, List.set_cons_succ]
              have hop5 := HCK.out w10
              clear hop3 hop4
              refine wpAnyH_ready (rs := [15]) (by kernel_rfl) (by simp) ?_
              refine AllReadyH.cons (by (simp only [List.getElem?_toArray, List.getElem?_cons_succ, List.getElem?_cons_zero]; rfl)) (fun K hK => ?_) AllReadyH.nil
              go_simp
              go_at_call 16; refine hop5.mono ?_; rintro e w11 ⟨rfl, hb11⟩
              refine hK.out _ _ (by (try dsimp only); exact ⟨(hb11.cell (World.block_lt_of_cell? _ _ hHeld.1)).trans hHeld.1, (hb11.cell (World.block_lt_of_cell? _ _ hHeld.2.1)).trans hHeld.2.1, (hb11.cell (World.block_lt_of_cell? _ _ hHeld.2.2.1)).trans hHeld.2.2.1, (hb11.cell (World.block_lt_of_cell? _ _ hHeld.2.2.2.1)).trans hHeld.2.2.2.1, (hb11.cell (World.block_lt_of_cell? _ _ hHeld.2.2.2.2.1)).trans hHeld.2.2.2.2.1, (hb11.cell (World.block_lt_of_cell? _ _ hHeld.2.2.2.2.2.1)).trans hHeld.2.2.2.2.2.1, (hb11.cell (World.block_lt_of_cell? _ _ hHeld.2.2.2.2.2.2.1)).trans hHeld.2.2.2.2.2.2.1, (hb11.cell (World.block_lt_of_cell? _ _ hHeld.2.2.2.2.2.2.2.1)).trans hHeld.2.2.2.2.2.2.2.1, (hb11.cell (World.block_lt_of_cell? _ _ hHeld.2.2.2.2.2.2.2.2.1)).trans hHeld.2.2.2.2.2.2.2.2.1, (hb11.cell (World.block_lt_of_cell? _ _ hHeld.2.2.2.2.2.2.2.2.2.1)).trans hHeld.2.2.2.2.2.2.2.2.2.1, hHeld.2.2.2.2.2.2.2.2.2.2.below hb11⟩) (fun hHeld => ?_)
              clear hK K
              try simp only [Act.put, List.setIfInBounds_toArray, List.set_cons_zero, List.set_cons_succ]
              have hop6 := HRK.out w11
              refine wpAnyH_ready (rs := [17]) (by kernel_rfl) (by simp) ?_
              refine AllReadyH.cons (by (simp only [List.getElem?_toArray, List.getElem?_cons_succ, List.getElem?_cons_zero]; rfl)) (fun K hK => ?_) AllReadyH.nil
              go_simp
              go_at_call 15; refine hop6.mono ?_; rintro e w12 ⟨rfl, hb12⟩
              refine hK.out _ _ (by (try dsimp only); exact ⟨(hb12.cell (World.block_lt_of_cell? _ _ hHeld.1)).trans hHeld.1, (hb12.cell (World.block_lt_of_cell? _ _ hHeld.2.1)).trans hHeld.2.1, (hb12.cell (World.block_lt_of_cell? _ _ hHeld.2.2.1)).trans hHeld.2.2.1, (hb12.cell (World.block_lt_of_cell? _ _ hHeld.2.2.2.1)).trans hHeld.2.2.2.1, (hb12.cell (World.block_lt_of_cell? _ _ hHeld.2.2.2.2.1)).trans hHeld.2.2.2.2.1, (hb12.cell (World.block_lt_of_cell? _ _ hHeld.2.2.2.2.2.1)).trans hHeld.2.2.2.2.2.1, (hb12.cell (World.block_lt_of_cell? _ _ hHeld.2.2.2.2.2.2.1)).trans hHeld.2.2.2.2.2.2.1, (hb12.cell (World.block_lt_of_cell? _ _ hHeld.2.2.2.2.2.2.2.1)).trans hHeld.2.2.2.2.2.2.2.1, (hb12.cell (World.block_lt_of_cell? _ _ hHeld.2.2.2.2.2.2.2.2.1)).trans hHeld.2.2.2.2.2.2.2.2.1, (hb12.cell (World.block_lt_of_cell? _ _ hHeld.2.2.2.2.2.2.2.2.2.1)).trans hHeld.2.2.2.2.2.2.2.2.2.1, hHeld.2.2.2.2.2.2.2.2.2.2.below hb12⟩) (fun hHeld => ?_)
              clear hK K
              try simp only [Act.put, List.setIfInBounds_toArray, List.set_cons_zero, List.set_cons_succ]
              refine wpAnyH_take (i := 18) (v := ?_) (by (simp only [List.getElem?_toArray, List.getElem?_cons_succ, List.getElem?_cons_zero]; rfl)) (by kernel_rfl) (by kernel_rfl) (by kernel_rfl) (by intro _ _ _ h; exact h) (Or.inl ⟨by rfl, ?_⟩) (by assumption) ?_
              rotate_left
              · (intro w hSw; (try dsimp only at hSw); go_simp; try (with_reducible rfl))
              simp only [Act.put, List.setIfInBounds_toArray, List.set_cons_zero, List.set_cons_succ]
              refine wpAnyH_take (i := 19) (v := ?_) (by (simp only [List.getElem?_toArray, List.getElem?_cons_succ, List.getElem?_cons_zero]; rfl)) (by kernel_rfl) (by kernel_rfl) (by kernel_rfl) (by intro _ _ _ h; exact h) (Or.inl ⟨by rfl, ?_⟩) (by assumption) ?_
              rotate_left
              · (intro w hSw; (try dsimp only at hSw); go_simp; try (with_reducible rfl))
              simp only [Act.put, List.setIfInBounds_toArray, List.set_cons_zero, List.set_cons_succ]
              refine wpAnyH_done (by kernel_rfl) ?_ _
              have HBZ := Lib.hid hHeld.2.2.2.2.2.2.2.2.2.2.2.2
              clear hHeld hop5 hop6 hb7 hb8 hb9 hb10 hb11 hb12 c10 p10 r0 r1 r2 r3 r4 r5 r6 r7 hne1
              go_wp2
              go_roundw
              case rel => exact ⟨k + 1, by omega, by go_num, HBZ.out⟩
              case measure => simp [intOf]; omega
            · have hle : (n4 : Int) ≤ k := by omega
              generalize hwr : wr = wr3 at HBW hbw ⊢
              have HS10 := Lib.hid (HS5.out.below hbw)
              have p10 : wr3.cell? ⟨P, 10, none⟩ = some (.slice b3 p.ds.length bk3) := by rw [cell_of_row wr3 P 10 _ _ (0, 0) HS10.out.2.1.2]; rfl
              clear hbw
              go_wp2_with fail
              clear p10 hle hlt hk hwr wr
              go_loopw [148] (fun i wr => ∃ k : Nat, k ≤ p.ds.length ∧ i = .int .i64 k ∧ Below w5.heap.size w5 wr) (fun i _ => p.ds.length - (intOf i).toNat)
              case atStart => exact ⟨0, by omega, rfl, HBW.out⟩
              case round =>
                clear HBW HS10
                obtain ⟨k, hk, rfl, hbw⟩ := hrel
                have HBW := Lib.hid hbw
                by_cases hlt : k < p.ds.length
                · obtain ⟨d, hd⟩ : ∃ d, (p.ds)[k]? = some d := ⟨_, List.getElem?_eq_getElem hlt⟩
                  obtain ⟨e1d, eed, ex, p0, rx⟩ := RdSl.elem (HRP5.out.d.below hbw (Nat.le_refl _)) hd
                  cases eed
                  obtain ⟨xa, xc, rfl⟩ := RdSl.shape rx
                  obtain ⟨c0, c1, c2, c3, c4, c5, c6, c7⟩ := p0
                  have HHd := Lib.hid hd
                  have hbb : Below wr.heap.size wr (wr.alloc (.cells #[.string d.g, .string d.a, .string d.v, .string d.t, .string d.c, .int .i64 d.sc, .int .i64 d.op, .slice xa d.ex.length xc] 34)) := (Below.refl _ _).alloc (Nat.le_refl _) _
                  have hnew := heap_alloc_new wr (.cells #[.string d.g, .string d.a, .string d.v, .string d.t, .string d.c, .int .i64 d.sc, .int .i64 d.op, .slice xa d.ex.length xc] 34)
                  have HBBd := Lib.hid hbb
                  clear hbb hd rx
                  go_upto_region 36 with fail
                  generalize wr.alloc (.cells #[.string d.g, .string d.a, .string d.v, .string d.t, .string d.c, .int .i64 d.sc, .int .i64 d.op, .slice xa d.ex.length xc] 34) = wd at hnew HBBd ⊢
                  obtain ⟨KD, hKD⟩ : ∃ b, b = wr.heap.size := ⟨_, rfl⟩
                  rw [← hKD] at hnew ⊢
                  have HNd := Lib.hid hnew
                  clear hKD c0 c1 c2 c3 c4 c5 c6 c7 hnew
                  have HSd := Lib.hid ((HS5.out.below hbw).below HBBd.out)
                  have m10 : wd.cell? ⟨M, 10, none⟩ = some (.slice m3 D.length mk3) := by rw [cell_of_row wd M 10 _ _ (0, 0) HSd.out.1]; rfl
                  have r0 : wd.cell? ⟨KD, 0, none⟩ = some (.string d.g) := by rw [cell_of_row wd KD 0 _ _ (0, 0) HNd.out]; rfl
                  have r1 : wd.cell? ⟨KD, 1, none⟩ = some (.string d.a) := by rw [cell_of_row wd KD 1 _ _ (0, 0) HNd.out]; rfl
                  have r2 : wd.cell? ⟨KD, 2, none⟩ = some (.string d.v) := by rw [cell_of_row wd KD 2 _ _ (0, 0) HNd.out]; rfl
                  have r3 : wd.cell? ⟨KD, 3, none⟩ = some (.string d.t) := by rw [cell_of_row wd KD 3 _ _ (0, 0) HNd.out]; rfl
                  have r4 : wd.cell? ⟨KD, 4, none⟩ = some (.string d.c) := by rw [cell_of_row wd KD 4 _ _ (0, 0) HNd.out]; rfl
                  have r5 : wd.cell? ⟨KD, 5, none⟩ = some (.int .i64 d.sc) := by rw [cell_of_row wd KD 5 _ _ (0, 0) HNd.out]; rfl
                  have r6 : wd.cell? ⟨KD, 6, none⟩ = some (.int .i64 d.op) := by rw [cell_of_row wd KD 6 _ _ (0, 0) HNd.out]; rfl
                  have r7 : wd.cell? ⟨KD, 7, none⟩ = some (.slice xa d.ex.length xc) := by rw [cell_of_row wd KD 7 _ _ (0, 0) HNd.out]; rfl
                  have hri := parents_in (l := c.ds) (List.mem_of_getElem? HHd.out)
                  rw [← HDE.out] at hri
                  obtain ⟨kx, hkx⟩ : ∃ kx, kx = keyD d := ⟨_, rfl⟩
                  rw [← hkx] at hri
                  have hRK := fun w' => refKey_any d (.slice xa d.ex.length xc) w' ⟨_, _, rfl⟩
                  unfold dpV at hRK
                  rw [← hkx] at hRK
                  have HRK := Lib.hid (show ∀ w', Calls Try.prog 15 #[.agg #[.string d.g, .string d.a, .string d.v, .string d.t, .string d.c, .int .i64 d.sc, .int .i64 d.op, .slice xa d.ex.length xc]] w' fun e w'' => e = .returned (.agg #[.string kx.g, .string kx.a, .string kx.t, .string kx.c]) ∧ Below w'.heap.size w' w'' from hRK)
                  have HRI := Lib.hid hri
                  clear hri hkx hRK hbw
                  refine wp_region_held_drew (S := (fun w' => w'.cell? ⟨M, 10, none⟩ = some (.slice m3 D.length mk3) ∧ (w'.cell? ⟨KD, 0, none⟩ = some (.string d.g) ∧ (w'.cell? ⟨KD, 1, none⟩ = some (.string d.a) ∧ (w'.cell? ⟨KD, 2, none⟩ = some (.string d.v) ∧ (w'.cell? ⟨KD, 3, none⟩ = some (.string d.t) ∧ (w'.cell? ⟨KD, 4, none⟩ = some (.string d.c) ∧ (w'.cell? ⟨KD, 5, none⟩ = some (.int .i64 d.sc) ∧ (w'.cell? ⟨KD, 6, none⟩ = some (.int .i64 d.op) ∧ (w'.cell? ⟨KD, 7, none⟩ = some (.slice xa d.ex.length xc) ∧ ((S3 w5 M C P #[.bool c.hp, .string c.pg, .string c.pa, .string c.pv, .string gz, .string c.a, .string vz, .string c.pk, .slice m1 X.length mk1, .slice m2 N mk2, .slice m3 D.length mk3] #[.bool c.hp, .string c.pg, .string c.pa, .string c.pv, .string c.g, .string c.a, .string c.v, .string c.pk, .slice a1 c.ps.length ak1, .slice a2 c.ms.length ak2, .slice a3 c.ds.length ak3] #[.bool p.hp, .string p.pg, .string p.pa, .string p.pv, .string p.g, .string p.a, .string p.v, .string p.pk, .slice b1 p.ps.length bk1, .slice b2 p.ms.length bk2, .slice (some e1d) p.ds.length bk3]) w'))))))))))) (by kernel_rfl) (by (try dsimp only); exact ⟨m10, r0, r1, r2, r3, r4, r5, r6, r7, HSd.out.drew⟩) (fun hHeld => ?_)
                  generalize wd.drew = wq at hHeld ⊢
                  refine wpAnyH_take (i := 0) (v := ?_) (by (simp only [List.getElem?_toArray, List.getElem?_cons_succ, List.getElem?_cons_zero]; rfl)) (by kernel_rfl) (by kernel_rfl) (by kernel_rfl) (by intro _ _ _ h; exact h) (Or.inl ⟨by rfl, ?_⟩) (by assumption) ?_
                  rotate_left
                  · (intro w hSw; (try dsimp only at hSw); go_simp; try (with_reducible rfl))
                  simp only [Act.put, List.setIfInBounds_toArray, List.set_cons_zero, List.set_cons_succ]
                  refine wpAnyH_take (i := 1) (v := ?_) (by (simp only [List.getElem?_toArray, List.getElem?_cons_succ, List.getElem?_cons_zero]; rfl)) (by kernel_rfl) (by kernel_rfl) (by kernel_rfl) (by intro _ _ _ h; exact h) (Or.inl ⟨by rfl, ?_⟩) (by assumption) ?_
                  rotate_left
                  · (intro w hSw; (try dsimp only at hSw); go_simp; try (with_reducible rfl))
                  simp only [Act.put, List.setIfInBounds_toArray, List.set_cons_zero, List.set_cons_succ]
                  refine wpAnyH_take (i := 2) (v := ?_) (by (simp only [List.getElem?_toArray, List.getElem?_cons_succ, List.getElem?_cons_zero]; rfl)) (by kernel_rfl) (by kernel_rfl) (by kernel_rfl) (by intro _ _ _ h; exact h) (Or.inl ⟨by rfl, ?_⟩) (by assumption) ?_
                  rotate_left
                  · (intro w hSw; (try dsimp only at hSw); go_simp; try (with_reducible rfl))
                  simp only [Act.put, List.setIfInBounds_toArray, List.set_cons_zero, List.set_cons_succ]
                  have hop := HRK.out wq
                  refine wpAnyH_ready (rs := [3]) (by kernel_rfl) (by simp) ?_
                  refine AllReadyH.cons (by (simp only [List.getElem?_toArray, List.getElem?_cons_succ, List.getElem?_cons_zero]; rfl)) (fun K hK => ?_) AllReadyH.nil
                  go_simp
                  go_at_call 15; refine hop.mono ?_; rintro e w7 ⟨rfl, hb7⟩
                  refine hK.out _ _ (by (try dsimp only); exact ⟨(hb7.cell (World.block_lt_of_cell? _ _ hHeld.1)).trans hHeld.1, (hb7.cell (World.block_lt_of_cell? _ _ hHeld.2.1)).trans hHeld.2.1, (hb7.cell (World.block_lt_of_cell? _ _ hHeld.2.2.1)).trans hHeld.2.2.1, (hb7.cell (World.block_lt_of_cell? _ _ hHeld.2.2.2.1)).trans hHeld.2.2.2.1, (hb7.cell (World.block_lt_of_cell? _ _ hHeld.2.2.2.2.1)).trans hHeld.2.2.2.2.1, (hb7.cell (World.block_lt_of_cell? _ _ hHeld.2.2.2.2.2.1)).trans hHeld.2.2.2.2.2.1, (hb7.cell (World.block_lt_of_cell? _ _ hHeld.2.2.2.2.2.2.1)).trans hHeld.2.2.2.2.2.2.1, (hb7.cell (World.block_lt_of_cell? _ _ hHeld.2.2.2.2.2.2.2.1)).trans hHeld.2.2.2.2.2.2.2.1, (hb7.cell (World.block_lt_of_cell? _ _ hHeld.2.2.2.2.2.2.2.2.1)).trans hHeld.2.2.2.2.2.2.2.2.1, hHeld.2.2.2.2.2.2.2.2.2.below hb7⟩) (fun hHeld => ?_)
                  clear hK K
                  try simp only [Act.put, List.setIfInBounds_toArray, List.set_cons_zero, List.set_cons_succ]
                  have hop2 := Has_any D kx _ w7 (HRD5.out.below hHeld.2.2.2.2.2.2.2.2.2.2.2 (Nat.le_refl _))
                  rw [HRI.out] at hop2
                  unfold Ky.val at hop2
                  refine wpAnyH_ready (rs := [4]) (by kernel_rfl) (by simp) ?_
                  refine AllReadyH.cons (by (simp only [List.getElem?_toArray, List.getElem?_cons_succ, List.getElem?_cons_zero]; rfl)) (fun K hK => ?_) AllReadyH.nil
                  go_simp
                  go_at_call 14; refine hop2.mono ?_; rintro e w8 ⟨rfl, hb8⟩
                  refine hK.out _ _ (by (try dsimp only); exact ⟨(hb8.cell (World.block_lt_of_cell? _ _ hHeld.1)).trans hHeld.1, (hb8.cell (World.block_lt_of_cell? _ _ hHeld.2.1)).trans hHeld.2.1, (hb8.cell (World.block_lt_of_cell? _ _ hHeld.2.2.1)).trans hHeld.2.2.1, (hb8.cell (World.block_lt_of_cell? _ _ hHeld.2.2.2.1)).trans hHeld.2.2.2.1, (hb8.cell (World.block_lt_of_cell? _ _ hHeld.2.2.2.2.1)).trans hHeld.2.2.2.2.1, (hb8.cell (World.block_lt_of_cell? _ _ hHeld.2.2.2.2.2.1)).trans hHeld.2.2.2.2.2.1, (hb8.cell (World.block_lt_of_cell? _ _ hHeld.2.2.2.2.2.2.1)).trans hHeld.2.2.2.2.2.2.1, (hb8.cell (World.block_lt_of_cell? _ _ hHeld.2.2.2.2.2.2.2.1)).trans hHeld.2.2.2.2.2.2.2.1, (hb8.cell (World.block_lt_of_cell? _ _ hHeld.2.2.2.2.2.2.2.2.1)).trans hHeld.2.2.2.2.2.2.2.2.1, hHeld.2.2.2.2.2.2.2.2.2.below hb8⟩) (fun hHeld => ?_)
                  clear hK K
                  try simp only [Act.put, List.setIfInBounds_toArray, List.set_cons_zero, List.set_cons_succ]
                  refine wpAnyH_take (i := 5) (v := ?_) (by (simp only [List.getElem?_toArray, List.getElem?_cons_succ, List.getElem?_cons_zero]; rfl)) (by kernel_rfl) (by kernel_rfl) (by kernel_rfl) (by intro _ _ _ h; exact h) (Or.inl ⟨by rfl, ?_⟩) (by assumption) ?_
                  rotate_left
                  · (intro w hSw; (try dsimp only at hSw); go_simp; try (with_reducible rfl))
                  simp only [Act.put, List.setIfInBounds_toArray, List.set_cons_zero, List.set_cons_succ]
                  refine wpAnyH_done (by kernel_rfl) ?_ _
                  have HBZ := Lib.hid hHeld.2.2.2.2.2.2.2.2.2.2.2
                  clear hHeld hop hop2 hb7 hb8 m10 r0 r1 r2 r3 r4 r5 r6 r7
                  go_wp2
                  go_roundw
                  case rel => exact ⟨k + 1, by omega, by go_num, HBZ.out⟩
                  case measure => simp [intOf]; omega
                · have hle : (p.ds.length : Int) ≤ k := by omega
                  have HS11 := Lib.hid (HS5.out.below hbw)
                  clear hbw
                  go_upto_region 39 with fail
                  have c_9 : wr.cell? ⟨C, 9, none⟩ = some (.slice a2 c.ms.length ak2) := by rw [cell_of_row wr C 9 _ _ (0, 0) HS11.out.2.1.1]; rfl
                  have p_9 : wr.cell? ⟨P, 9, none⟩ = some (.slice b2 p.ms.length bk2) := by rw [cell_of_row wr P 9 _ _ (0, 0) HS11.out.2.1.2]; rfl
                  have m_5 : wr.cell? ⟨M, 5, none⟩ = some (.string c.a) := by rw [cell_of_row wr M 5 _ _ (0, 0) HS11.out.1]; rfl
                  have c_5 : wr.cell? ⟨C, 5, none⟩ = some (.string c.a) := by rw [cell_of_row wr C 5 _ _ (0, 0) HS11.out.2.1.1]; rfl
                  have m_0 : wr.cell? ⟨M, 0, none⟩ = some (.bool c.hp) := by rw [cell_of_row wr M 0 _ _ (0, 0) HS11.out.1]; rfl
                  have c_0 : wr.cell? ⟨C, 0, none⟩ = some (.bool c.hp) := by rw [cell_of_row wr C 0 _ _ (0, 0) HS11.out.2.1.1]; rfl
                  have m_1 : wr.cell? ⟨M, 1, none⟩ = some (.string c.pg) := by rw [cell_of_row wr M 1 _ _ (0, 0) HS11.out.1]; rfl
                  have m_2 : wr.cell? ⟨M, 2, none⟩ = some (.string c.pa) := by rw [cell_of_row wr M 2 _ _ (0, 0) HS11.out.1]; rfl
                  have m_3 : wr.cell? ⟨M, 3, none⟩ = some (.string c.pv) := by rw [cell_of_row wr M 3 _ _ (0, 0) HS11.out.1]; rfl
                  have c_1 : wr.cell? ⟨C, 1, none⟩ = some (.string c.pg) := by rw [cell_of_row wr C 1 _ _ (0, 0) HS11.out.2.1.1]; rfl
                  have c_2 : wr.cell? ⟨C, 2, none⟩ = some (.string c.pa) := by rw [cell_of_row wr C 2 _ _ (0, 0) HS11.out.2.1.1]; rfl
                  have c_3 : wr.cell? ⟨C, 3, none⟩ = some (.string c.pv) := by rw [cell_of_row wr C 3 _ _ (0, 0) HS11.out.2.1.1]; rfl
                  have hgv : ∀ w', (Op.equalIn 10000 23 (.agg #[.string c.pg, .string c.pa, .string c.pv]) (.agg #[.string c.pg, .string c.pa, .string c.pv])).run Try.prog w' = .ok true w' := fun w' => by
                    have h1 := eqI_gav c.pg c.pa c.pv c.pg c.pa c.pv 9998 w'
                    rw [show sameG c.pg c.pa c.pv c.pg c.pa c.pv = true by unfold sameG; rw [eqS_self, eqS_self, eqS_self]; rfl] at h1
                    exact h1
                  refine wp_region_held_drew (S := (fun w' => w'.cell? ⟨C, 9, none⟩ = some (.slice a2 c.ms.length ak2) ∧ (w'.cell? ⟨P, 9, none⟩ = some (.slice b2 p.ms.length bk2) ∧ (w'.cell? ⟨M, 5, none⟩ = some (.string c.a) ∧ (w'.cell? ⟨C, 5, none⟩ = some (.string c.a) ∧ (w'.cell? ⟨M, 0, none⟩ = some (.bool c.hp) ∧ (w'.cell? ⟨C, 0, none⟩ = some (.bool c.hp) ∧ (w'.cell? ⟨M, 1, none⟩ = some (.string c.pg) ∧ (w'.cell? ⟨M, 2, none⟩ = some (.string c.pa) ∧ (w'.cell? ⟨M, 3, none⟩ = some (.string c.pv) ∧ (w'.cell? ⟨C, 1, none⟩ = some (.string c.pg) ∧ (w'.cell? ⟨C, 2, none⟩ = some (.string c.pa) ∧ (w'.cell? ⟨C, 3, none⟩ = some (.string c.pv) ∧ ((S3 w5 M C P #[.bool c.hp, .string c.pg, .string c.pa, .string c.pv, .string gz, .string c.a, .string vz, .string c.pk, .slice m1 X.length mk1, .slice m2 N mk2, .slice m3 D.length mk3] #[.bool c.hp, .string c.pg, .string c.pa, .string c.pv, .string c.g, .string c.a, .string c.v, .string c.pk, .slice a1 c.ps.length ak1, .slice a2 c.ms.length ak2, .slice a3 c.ds.length ak3] #[.bool p.hp, .string p.pg, .string p.pa, .string p.pv, .string p.g, .string p.a, .string p.v, .string p.pk, .slice b1 p.ps.length bk1, .slice b2 p.ms.length bk2, .slice b3 p.ds.length bk3]) w')))))))))))))) (by kernel_rfl) (by (try dsimp only); exact ⟨c_9, p_9, m_5, c_5, m_0, c_0, m_1, m_2, m_3, c_1, c_2, c_3, HS11.out.drew⟩) (fun hHeld => ?_)
                  generalize wr.drew = wq at hHeld ⊢
                  refine wpAnyH_take (i := 0) (v := ?_) (by (simp only [List.getElem?_toArray, List.getElem?_cons_succ, List.getElem?_cons_zero]; rfl)) (by kernel_rfl) (by kernel_rfl) (by kernel_rfl) (by intro _ _ _ h; exact h) (Or.inl ⟨by rfl, ?_⟩) (by assumption) ?_
                  rotate_left
                  · (intro w hSw; (try dsimp only at hSw); go_simp; try (with_reducible rfl))
                  simp only [Act.put, List.setIfInBounds_toArray, List.set_cons_zero, List.set_cons_succ]
                  refine wpAnyH_take (i := 1) (v := ?_) (by (simp only [List.getElem?_toArray, List.getElem?_cons_succ, List.getElem?_cons_zero]; rfl)) (by kernel_rfl) (by kernel_rfl) (by kernel_rfl) (by intro _ _ _ h; exact h) (Or.inl ⟨by rfl, ?_⟩) (by assumption) ?_
                  rotate_left
                  · (intro w hSw; (try dsimp only at hSw); go_simp; try (with_reducible rfl))
                  simp only [Act.put, List.setIfInBounds_toArray, List.set_cons_zero, List.set_cons_succ]
                  refine wpAnyH_take (i := 2) (v := ?_) (by (simp only [List.getElem?_toArray, List.getElem?_cons_succ, List.getElem?_cons_zero]; rfl)) (by kernel_rfl) (by kernel_rfl) (by kernel_rfl) (by intro _ _ _ h; exact h) (Or.inl ⟨by rfl, ?_⟩) (by assumption) ?_
                  rotate_left
                  · (intro w hSw; (try dsimp only at hSw); go_simp; try (with_reducible rfl))
                  simp only [Act.put, List.setIfInBounds_toArray, List.set_cons_zero, List.set_cons_succ]
                  refine wpAnyH_take (i := 3) (v := ?_) (by (simp only [List.getElem?_toArray, List.getElem?_cons_succ, List.getElem?_cons_zero]; rfl)) (by kernel_rfl) (by kernel_rfl) (by kernel_rfl) (by intro _ _ _ h; exact h) (Or.inl ⟨by rfl, ?_⟩) (by assumption) ?_
                  rotate_left
                  · (intro w hSw; (try dsimp only at hSw); go_simp; try (with_reducible rfl))
                  simp only [Act.put, List.setIfInBounds_toArray, List.set_cons_zero, List.set_cons_succ]
                  refine wpAnyH_take (i := 5) (v := ?_) (by (simp only [List.getElem?_toArray, List.getElem?_cons_succ, List.getElem?_cons_zero]; rfl)) (by kernel_rfl) (by kernel_rfl) (by kernel_rfl) (by intro _ _ _ h; exact h) (Or.inl ⟨by rfl, ?_⟩) (by assumption) ?_
                  rotate_left
                  · (intro w hSw; (try dsimp only at hSw); go_simp; try (with_reducible rfl))
                  simp only [Act.put, List.setIfInBounds_toArray, List.set_cons_zero, List.set_cons_succ]
                  refine wpAnyH_take (i := 6) (v := ?_) (by (simp only [List.getElem?_toArray, List.getElem?_cons_succ, List.getElem?_cons_zero]; rfl)) (by kernel_rfl) (by kernel_rfl) (by kernel_rfl) (by intro _ _ _ h; exact h) (Or.inl ⟨by rfl, ?_⟩) (by assumption) ?_
                  rotate_left
                  · (intro w hSw; (try dsimp only at hSw); go_simp; try (with_reducible rfl))
                  simp only [Act.put, List.setIfInBounds_toArray, List.set_cons_zero, List.set_cons_succ]
                  refine wpAnyH_take (i := 7) (v := ?_) (by (simp only [List.getElem?_toArray, List.getElem?_cons_succ, List.getElem?_cons_zero]; rfl)) (by kernel_rfl) (by kernel_rfl) (by kernel_rfl) (by intro _ _ _ h; exact h) (Or.inl ⟨by rfl, ?_⟩) (by assumption) ?_
                  rotate_left
                  · (intro w hSw; (try dsimp only at hSw); go_simp; try (with_reducible rfl))
                  simp only [Act.put, List.setIfInBounds_toArray, List.set_cons_zero, List.set_cons_succ]
                  refine wpAnyH_take (i := 8) (v := ?_) (by (simp only [List.getElem?_toArray, List.getElem?_cons_succ, List.getElem?_cons_zero]; rfl)) (by kernel_rfl) (by kernel_rfl) (by kernel_rfl) (by intro _ _ _ h; exact h) (Or.inl ⟨by rfl, ?_⟩) (by assumption) ?_
                  rotate_left
                  · (intro w hSw; (try dsimp only at hSw); go_simp; try (with_reducible rfl))
                  simp only [Act.put, List.setIfInBounds_toArray, List.set_cons_zero, List.set_cons_succ]
                  have hop := Under_any c.ms p.ms _ _ w5 _ (HRC5.out.m) (HRP5.out.m) (hHeld.2.2.2.2.2.2.2.2.2.2.2.2.2.2) (by have := HOC.out.l2; omega) (by have := HOP.out.l2; omega) (fun d hd => (HOC.out.km d hd).1) (fun d hd => (HOP.out.km d hd).1) (fun d hd => (under_ex HOC.out.km HOP.out.km d hd).2)
                  refine wpAnyH_ready (rs := [4]) (by kernel_rfl) (by simp) ?_
                  refine AllReadyH.cons (by (simp only [List.getElem?_toArray, List.getElem?_cons_succ, List.getElem?_cons_zero]; rfl)) (fun K hK => ?_) AllReadyH.nil
                  go_simp
                  go_at_call 17; refine hop.mono ?_; rintro e w7 ⟨u7, rfl, hu7, hb7⟩
                  refine hK.out _ _ (by (try dsimp only); exact ⟨(hb7.cell (World.block_lt_of_cell? _ _ hHeld.1)).trans hHeld.1, (hb7.cell (World.block_lt_of_cell? _ _ hHeld.2.1)).trans hHeld.2.1, (hb7.cell (World.block_lt_of_cell? _ _ hHeld.2.2.1)).trans hHeld.2.2.1, (hb7.cell (World.block_lt_of_cell? _ _ hHeld.2.2.2.1)).trans hHeld.2.2.2.1, (hb7.cell (World.block_lt_of_cell? _ _ hHeld.2.2.2.2.1)).trans hHeld.2.2.2.2.1, (hb7.cell (World.block_lt_of_cell? _ _ hHeld.2.2.2.2.2.1)).trans hHeld.2.2.2.2.2.1, (hb7.cell (World.block_lt_of_cell? _ _ hHeld.2.2.2.2.2.2.1)).trans hHeld.2.2.2.2.2.2.1, (hb7.cell (World.block_lt_of_cell? _ _ hHeld.2.2.2.2.2.2.2.1)).trans hHeld.2.2.2.2.2.2.2.1, (hb7.cell (World.block_lt_of_cell? _ _ hHeld.2.2.2.2.2.2.2.2.1)).trans hHeld.2.2.2.2.2.2.2.2.1, (hb7.cell (World.block_lt_of_cell? _ _ hHeld.2.2.2.2.2.2.2.2.2.1)).trans hHeld.2.2.2.2.2.2.2.2.2.1, (hb7.cell (World.block_lt_of_cell? _ _ hHeld.2.2.2.2.2.2.2.2.2.2.1)).trans hHeld.2.2.2.2.2.2.2.2.2.2.1, (hb7.cell (World.block_lt_of_cell? _ _ hHeld.2.2.2.2.2.2.2.2.2.2.2.1)).trans hHeld.2.2.2.2.2.2.2.2.2.2.2.1, hHeld.2.2.2.2.2.2.2.2.2.2.2.2.below hb7⟩) (fun hHeld => ?_)
                  clear hK K
                  try simp only [Act.put, List.setIfInBounds_toArray, List.set_cons_zero, List.set_cons_succ]
                  have hop2 := refUnder_any c.ms p.ms _ _ w5 _ (HRC5.out.m) (HRP5.out.m) (hHeld.2.2.2.2.2.2.2.2.2.2.2.2.2.2) (by have := HOC.out.l2; omega) (by have := HOP.out.l2; omega)
                  refine wpAnyH_ready (rs := [9]) (by kernel_rfl) (by simp) ?_
                  refine AllReadyH.cons (by (simp only [List.getElem?_toArray, List.getElem?_cons_succ, List.getElem?_cons_zero]; rfl)) (fun K hK => ?_) AllReadyH.nil
                  go_simp
                  go_at_call 18; refine hop2.mono ?_; rintro e w8 ⟨u8, rfl, hu8, hb8⟩
                  refine hK.out _ _ (by (try dsimp only); exact ⟨(hb8.cell (World.block_lt_of_cell? _ _ hHeld.1)).trans hHeld.1, (hb8.cell (World.block_lt_of_cell? _ _ hHeld.2.1)).trans hHeld.2.1, (hb8.cell (World.block_lt_of_cell? _ _ hHeld.2.2.1)).trans hHeld.2.2.1, (hb8.cell (World.block_lt_of_cell? _ _ hHeld.2.2.2.1)).trans hHeld.2.2.2.1, (hb8.cell (World.block_lt_of_cell? _ _ hHeld.2.2.2.2.1)).trans hHeld.2.2.2.2.1, (hb8.cell (World.block_lt_of_cell? _ _ hHeld.2.2.2.2.2.1)).trans hHeld.2.2.2.2.2.1, (hb8.cell (World.block_lt_of_cell? _ _ hHeld.2.2.2.2.2.2.1)).trans hHeld.2.2.2.2.2.2.1, (hb8.cell (World.block_lt_of_cell? _ _ hHeld.2.2.2.2.2.2.2.1)).trans hHeld.2.2.2.2.2.2.2.1, (hb8.cell (World.block_lt_of_cell? _ _ hHeld.2.2.2.2.2.2.2.2.1)).trans hHeld.2.2.2.2.2.2.2.2.1, (hb8.cell (World.block_lt_of_cell? _ _ hHeld.2.2.2.2.2.2.2.2.2.1)).trans hHeld.2.2.2.2.2.2.2.2.2.1, (hb8.cell (World.block_lt_of_cell? _ _ hHeld.2.2.2.2.2.2.2.2.2.2.1)).trans hHeld.2.2.2.2.2.2.2.2.2.2.1, (hb8.cell (World.block_lt_of_cell? _ _ hHeld.2.2.2.2.2.2.2.2.2.2.2.1)).trans hHeld.2.2.2.2.2.2.2.2.2.2.2.1, hHeld.2.2.2.2.2.2.2.2.2.2.2.2.below hb8⟩) (fun hHeld => ?_)
                  clear hK K
                  try simp only [Act.put, List.setIfInBounds_toArray, List.set_cons_zero, List.set_cons_succ]
                  have hop3 := SameDeps_any u7 u8 _ _ w8 (hu7.rd.below hb8 (Nat.le_refl _)) (hu8.rd hHeld.2.2.2.2.2.2.2.2.2.2.2.2.2.2)
                  rw [sameL_self sameDp_self] at hop3
                  refine wpAnyH_ready (rs := [10]) (by kernel_rfl) (by simp) ?_
                  refine AllReadyH.cons (by (simp only [List.getElem?_toArray, List.getElem?_cons_succ, List.getElem?_cons_zero]; rfl)) (fun K hK => ?_) AllReadyH.nil
                  go_simp
                  go_at_call 13; refine hop3.mono ?_; rintro e w9 ⟨rfl, hb9⟩
                  refine hK.out _ _ (by (try dsimp only); exact ⟨(hb9.cell (World.block_lt_of_cell? _ _ hHeld.1)).trans hHeld.1, (hb9.cell (World.block_lt_of_cell? _ _ hHeld.2.1)).trans hHeld.2.1, (hb9.cell (World.block_lt_of_cell? _ _ hHeld.2.2.1)).trans hHeld.2.2.1, (hb9.cell (World.block_lt_of_cell? _ _ hHeld.2.2.2.1)).trans hHeld.2.2.2.1, (hb9.cell (World.block_lt_of_cell? _ _ hHeld.2.2.2.2.1)).trans hHeld.2.2.2.2.1, (hb9.cell (World.block_lt_of_cell? _ _ hHeld.2.2.2.2.2.1)).trans hHeld.2.2.2.2.2.1, (hb9.cell (World.block_lt_of_cell? _ _ hHeld.2.2.2.2.2.2.1)).trans hHeld.2.2.2.2.2.2.1, (hb9.cell (World.block_lt_of_cell? _ _ hHeld.2.2.2.2.2.2.2.1)).trans hHeld.2.2.2.2.2.2.2.1, (hb9.cell (World.block_lt_of_cell? _ _ hHeld.2.2.2.2.2.2.2.2.1)).trans hHeld.2.2.2.2.2.2.2.2.1, (hb9.cell (World.block_lt_of_cell? _ _ hHeld.2.2.2.2.2.2.2.2.2.1)).trans hHeld.2.2.2.2.2.2.2.2.2.1, (hb9.cell (World.block_lt_of_cell? _ _ hHeld.2.2.2.2.2.2.2.2.2.2.1)).trans hHeld.2.2.2.2.2.2.2.2.2.2.1, (hb9.cell (World.block_lt_of_cell? _ _ hHeld.2.2.2.2.2.2.2.2.2.2.2.1)).trans hHeld.2.2.2.2.2.2.2.2.2.2.2.1, hHeld.2.2.2.2.2.2.2.2.2.2.2.2.below hb9⟩) (fun hHeld => ?_)
                  clear hK K
                  try simp only [Act.put, List.setIfInBounds_toArray, List.set_cons_zero, List.set_cons_succ]
                  refine wpAnyH_take (i := 11) (v := ?_) (by (simp only [List.getElem?_toArray, List.getElem?_cons_succ, List.getElem?_cons_zero]; rfl)) (by kernel_rfl) (by kernel_rfl) (by kernel_rfl) (by intro _ _ _ h; exact h) (Or.inl ⟨by rfl, ?_⟩) (by assumption) ?_
                  rotate_left
                  · (intro w hSw; (try dsimp only at hSw); go_simp; try (with_reducible rfl))
                  simp only [Act.put, List.setIfInBounds_toArray, List.set_cons_zero, List.set_cons_succ]
                  refine wpAnyH_take (i := 12) (v := ?_) (by (simp only [List.getElem?_toArray, List.getElem?_cons_succ, List.getElem?_cons_zero]; rfl)) (by kernel_rfl) (by kernel_rfl) (by kernel_rfl) (by intro _ _ _ h; exact h) (Or.inl ⟨by rfl, ?_⟩) (by assumption) ?_
                  rotate_left
                  · (intro w hSw; (try dsimp only at hSw); go_simp; try (with_reducible rfl))
                  simp only [Act.put, List.setIfInBounds_toArray, List.set_cons_zero, List.set_cons_succ]
                  refine wpAnyH_take (i := 13) (v := ?_) (by (simp only [List.getElem?_toArray, List.getElem?_cons_succ, List.getElem?_cons_zero]; rfl)) (by kernel_rfl) (by kernel_rfl) (by kernel_rfl) (by intro _ _ _ h; exact h) (Or.inl ⟨by rfl, ?_⟩) (by assumption) ?_
                  rotate_left
                  · (intro w hSw; (try dsimp only at hSw); go_simp; try (with_reducible rfl))
                  simp only [Act.put, List.setIfInBounds_toArray, List.set_cons_zero, List.set_cons_succ]
                  refine wpAnyH_take (i := 14) (v := ?_) (by (simp only [List.getElem?_toArray, List.getElem?_cons_succ, List.getElem?_cons_zero]; rfl)) (by kernel_rfl) (by kernel_rfl) (by kernel_rfl) (by intro _ _ _ h; exact h) (Or.inl ⟨by rfl, ?_⟩) (by assumption) ?_
                  rotate_left
                  · (intro w hSw; (try dsimp only at hSw); go_simp; try (with_reducible rfl))
                  simp only [Act.put, List.setIfInBounds_toArray, List.set_cons_zero, List.set_cons_succ]
                  refine wpAnyH_take (i := 15) (v := ?_) (by (simp only [List.getElem?_toArray, List.getElem?_cons_succ, List.getElem?_cons_zero]; rfl)) (by kernel_rfl) (by kernel_rfl) (by kernel_rfl) (by intro _ _ _ h; exact h) (Or.inl ⟨by rfl, ?_⟩) (by assumption) ?_
                  rotate_left
                  · (intro w hSw; (try dsimp only at hSw); go_simp; try (with_reducible rfl))
                  simp only [Act.put, List.setIfInBounds_toArray, List.set_cons_zero, List.set_cons_succ]
                  refine wpAnyH_take (i := 16) (v := ?_) (by (simp only [List.getElem?_toArray, List.getElem?_cons_succ, List.getElem?_cons_zero]; rfl)) (by kernel_rfl) (by kernel_rfl) (by kernel_rfl) (by intro _ _ _ h; exact h) (Or.inl ⟨by rfl, ?_⟩) (by assumption) ?_
                  rotate_left
                  · (intro w hSw; (try dsimp only at hSw); go_simp; try (with_reducible rfl))
                  simp only [Act.put, List.setIfInBounds_toArray, List.set_cons_zero, List.set_cons_succ]
                  refine wpAnyH_take (i := 17) (v := ?_) (by (simp only [List.getElem?_toArray, List.getElem?_cons_succ, List.getElem?_cons_zero]; rfl)) (by kernel_rfl) (by kernel_rfl) (by kernel_rfl) (by intro _ _ _ h; exact h) (Or.inl ⟨by rfl, ?_⟩) (by assumption) ?_
                  rotate_left
                  · (intro w hSw; (try dsimp only at hSw); go_simp; try (with_reducible rfl))
                  simp only [Act.put, List.setIfInBounds_toArray, List.set_cons_zero, List.set_cons_succ]
                  refine wpAnyH_take (i := 18) (v := ?_) (by (simp only [List.getElem?_toArray, List.getElem?_cons_succ, List.getElem?_cons_zero]; rfl)) (by kernel_rfl) (by kernel_rfl) (by kernel_rfl) (by intro _ _ _ h; exact h) (Or.inl ⟨by rfl, ?_⟩) (by assumption) ?_
                  rotate_left
                  · (intro w hSw; (try dsimp only at hSw); go_simp; try (with_reducible rfl))
                  simp only [Act.put, List.setIfInBounds_toArray, List.set_cons_zero, List.set_cons_succ]
                  refine wpAnyH_take (i := 19) (v := ?_) (by (simp only [List.getElem?_toArray, List.getElem?_cons_succ, List.getElem?_cons_zero]; rfl)) (by kernel_rfl) (by kernel_rfl) (by kernel_rfl) (by intro _ _ _ h; exact h) (Or.inl ⟨by rfl, ?_⟩) (by assumption) ?_
                  rotate_left
                  · (intro w hSw; (try dsimp only at hSw); go_simp; try (with_reducible rfl))
                  simp only [Act.put, List.setIfInBounds_toArray, List.set_cons_zero, List.set_cons_succ]
                  refine wpAnyH_take (i := 20) (v := ?_) (by (simp only [List.getElem?_toArray, List.getElem?_cons_succ, List.getElem?_cons_zero]; rfl)) (by kernel_rfl) (by kernel_rfl) (by kernel_rfl) (by intro _ _ _ h; exact h) (Or.inl ⟨by rfl, ?_⟩) (by assumption) ?_
                  rotate_left
                  · (intro w hSw; (try dsimp only at hSw); go_simp; try (with_reducible rfl))
                  simp only [Act.put, List.setIfInBounds_toArray, List.set_cons_zero, List.set_cons_succ]
                  refine wpAnyH_take (i := 21) (v := ?_) (by (simp only [List.getElem?_toArray, List.getElem?_cons_succ, List.getElem?_cons_zero]; rfl)) (by kernel_rfl) (by kernel_rfl) (by kernel_rfl) (by intro _ _ _ h; exact h) (Or.inl ⟨by rfl, ?_⟩) (by assumption) ?_
                  rotate_left
                  · (intro w hSw; (try dsimp only at hSw); go_simp; try (with_reducible rfl))
                  simp only [Act.put, List.setIfInBounds_toArray, List.set_cons_zero, List.set_cons_succ]
                  refine wpAnyH_take (i := 22) (v := ?_) (by (simp only [List.getElem?_toArray, List.getElem?_cons_succ, List.getElem?_cons_zero]; rfl)) (by kernel_rfl) (by kernel_rfl) (by kernel_rfl) (by intro _ _ _ h; exact h) (Or.inl ⟨by rfl, ?_⟩) (by assumption) ?_
                  rotate_left
                  · (intro w hSw; (try dsimp only at hSw); go_simp; try (with_reducible rfl))
                  simp only [Act.put, List.setIfInBounds_toArray, List.set_cons_zero, List.set_cons_succ]
                  refine wpAnyH_take (i := 23) (v := ?_) (by (simp only [List.getElem?_toArray, List.getElem?_cons_succ, List.getElem?_cons_zero]; rfl)) (by kernel_rfl) (by kernel_rfl) (by kernel_rfl) (by intro _ _ _ h; exact h) (Or.inl ⟨by rfl, ?_⟩) (by assumption) ?_
                  rotate_left
                  · (intro w hSw; (try dsimp only at hSw); go_simp; try (with_reducible rfl))
                  simp only [Act.put, List.setIfInBounds_toArray, List.set_cons_zero, List.set_cons_succ]
                  refine wpAnyH_take (i := 24) (v := ?_) (by (simp only [List.getElem?_toArray, List.getElem?_cons_succ, List.getElem?_cons_zero]; rfl)) (by kernel_rfl) (by kernel_rfl) (by kernel_rfl) (by intro _ _ _ h; exact h) (Or.inl ⟨by rfl, ?_⟩) (by assumption) ?_
                  rotate_left
                  · (intro w hSw; (try dsimp only at hSw); go_simp; try (with_reducible rfl))
                  simp only [Act.put, List.setIfInBounds_toArray, List.set_cons_zero, List.set_cons_succ]
                  refine wpAnyH_take (i := 25) (v := ?_) (by (simp only [List.getElem?_toArray, List.getElem?_cons_succ, List.getElem?_cons_zero]; rfl)) (by kernel_rfl) (by kernel_rfl) (by kernel_rfl) (by intro _ _ _ h; exact h) (Or.inl ⟨by rfl, ?_⟩) (by assumption) ?_
                  rotate_left
                  · (intro w hSw; (try dsimp only at hSw); go_simp; try (with_reducible rfl))
                  simp only [Act.put, List.setIfInBounds_toArray, List.set_cons_zero, List.set_cons_succ]
                  refine wpAnyH_take (i := 26) (v := ?_) (by (simp only [List.getElem?_toArray, List.getElem?_cons_succ, List.getElem?_cons_zero]; rfl)) (by kernel_rfl) (by kernel_rfl) (by kernel_rfl) (by intro _ _ _ h; exact h) (Or.inl ⟨by rfl, ?_⟩) (by assumption) ?_
                  rotate_left
                  · (intro w hSw; (try dsimp only at hSw); go_simp; try (with_reducible rfl))
                  simp only [Act.put, List.setIfInBounds_toArray, List.set_cons_zero, List.set_cons_succ]
                  refine wpAnyH_take (i := 27) (v := ?_) (by (simp only [List.getElem?_toArray, List.getElem?_cons_succ, List.getElem?_cons_zero]; rfl)) (by kernel_rfl) (by kernel_rfl) (by kernel_rfl) (by intro _ _ _ h; exact h) (Or.inl ⟨by rfl, ?_⟩) (by assumption) ?_
                  rotate_left
                  · (intro w hSw; (try dsimp only at hSw); go_simp; try (with_reducible rfl))
                  simp only [Act.put, List.setIfInBounds_toArray, List.set_cons_zero, List.set_cons_succ]
                  refine wpAnyH_take (i := 28) (v := ?_) (by (simp only [List.getElem?_toArray, List.getElem?_cons_succ, List.getElem?_cons_zero]; rfl)) (by kernel_rfl) (by kernel_rfl) (by kernel_rfl) (by intro _ _ _ h; exact h) (Or.inl ⟨by rfl, ?_⟩) (by assumption) ?_
                  rotate_left
                  · (intro w hSw; (try dsimp only at hSw); go_simp; try (with_reducible rfl))
                  simp only [Act.put, List.setIfInBounds_toArray, List.set_cons_zero, List.set_cons_succ]
                  refine wpAnyH_take (i := 29) (v := ?_) (by (simp only [List.getElem?_toArray, List.getElem?_cons_succ, List.getElem?_cons_zero]; rfl)) (by kernel_rfl) (by kernel_rfl) (by kernel_rfl) (by intro _ _ _ h; exact h) (Or.inl ⟨by rfl, ?_⟩) (by assumption) ?_
                  rotate_left
                  · (intro w hSw; (try dsimp only at hSw); go_simp; try (with_reducible rfl))
                  simp only [Act.put, List.setIfInBounds_toArray, List.set_cons_zero, List.set_cons_succ]
                  refine wpAnyH_take (i := 30) (v := ?_) (by (simp only [List.getElem?_toArray, List.getElem?_cons_succ, List.getElem?_cons_zero]; rfl)) (by kernel_rfl) (by kernel_rfl) (by kernel_rfl) (by intro _ _ _ h; exact h) (Or.inl ⟨by rfl, ?_⟩) (by assumption) ?_
                  rotate_left
                  · (intro w hSw; (try dsimp only at hSw); go_simp; try (with_reducible rfl))
                  simp only [Act.put, List.setIfInBounds_toArray, List.set_cons_zero, List.set_cons_succ]
                  refine wpAnyH_take (i := 31) (v := ?_) (by (simp only [List.getElem?_toArray, List.getElem?_cons_succ, List.getElem?_cons_zero]; rfl)) (by kernel_rfl) (by kernel_rfl) (by kernel_rfl) (by intro _ _ _ h; exact h) (Or.inl ⟨by rfl, ?_⟩) (by assumption) ?_
                  rotate_left
                  · (intro w hSw; (try dsimp only at hSw); go_simp; try (with_reducible rfl))
                  simp only [Act.put, List.setIfInBounds_toArray, List.set_cons_zero, List.set_cons_succ]
                  refine wpAnyH_take (i := 32) (v := ?_) (by (simp only [List.getElem?_toArray, List.getElem?_cons_succ, List.getElem?_cons_zero]; rfl)) (by kernel_rfl) (by kernel_rfl) (by kernel_rfl) (by intro _ _ _ h; exact h) (Or.inl ⟨by rfl, ?_⟩) (by assumption) ?_
                  rotate_left
                  · (intro w hSw; (try dsimp only at hSw); go_simp; try (with_reducible rfl))
                  simp only [Act.put, List.setIfInBounds_toArray, List.set_cons_zero, List.set_cons_succ]
                  have hop4 := HLV.out w9
                  refine wpAnyH_ready (rs := [33]) (by kernel_rfl) (by simp) ?_
                  refine AllReadyH.cons (by (simp only [List.getElem?_toArray, List.getElem?_cons_succ, List.getElem?_cons_zero]; rfl)) (fun K hK => ?_) AllReadyH.nil
                  go_simp
                  go_at_call 7; refine hop4.mono ?_; rintro e w10 ⟨rfl, hb10⟩
                  refine hK.out _ _ (by (try dsimp only); exact ⟨(hb10.cell (World.block_lt_of_cell? _ _ hHeld.1)).trans hHeld.1, (hb10.cell (World.block_lt_of_cell? _ _ hHeld.2.1)).trans hHeld.2.1, (hb10.cell (World.block_lt_of_cell? _ _ hHeld.2.2.1)).trans hHeld.2.2.1, (hb10.cell (World.block_lt_of_cell? _ _ hHeld.2.2.2.1)).trans hHeld.2.2.2.1, (hb10.cell (World.block_lt_of_cell? _ _ hHeld.2.2.2.2.1)).trans hHeld.2.2.2.2.1, (hb10.cell (World.block_lt_of_cell? _ _ hHeld.2.2.2.2.2.1)).trans hHeld.2.2.2.2.2.1, (hb10.cell (World.block_lt_of_cell? _ _ hHeld.2.2.2.2.2.2.1)).trans hHeld.2.2.2.2.2.2.1, (hb10.cell (World.block_lt_of_cell? _ _ hHeld.2.2.2.2.2.2.2.1)).trans hHeld.2.2.2.2.2.2.2.1, (hb10.cell (World.block_lt_of_cell? _ _ hHeld.2.2.2.2.2.2.2.2.1)).trans hHeld.2.2.2.2.2.2.2.2.1, (hb10.cell (World.block_lt_of_cell? _ _ hHeld.2.2.2.2.2.2.2.2.2.1)).trans hHeld.2.2.2.2.2.2.2.2.2.1, (hb10.cell (World.block_lt_of_cell? _ _ hHeld.2.2.2.2.2.2.2.2.2.2.1)).trans hHeld.2.2.2.2.2.2.2.2.2.2.1, (hb10.cell (World.block_lt_of_cell? _ _ hHeld.2.2.2.2.2.2.2.2.2.2.2.1)).trans hHeld.2.2.2.2.2.2.2.2.2.2.2.1, hHeld.2.2.2.2.2.2.2.2.2.2.2.2.below hb10⟩) (fun hHeld => ?_)
                  clear hK K
                  try simp only [Act.put, List.setIfInBounds_toArray, List.set_cons_zero, List.set_cons_succ]
                  refine wpAnyH_take (i := 34) (v := ?_) (by (simp only [List.getElem?_toArray, List.getElem?_cons_succ, List.getElem?_cons_zero]; rfl)) (by kernel_rfl) (by kernel_rfl) (by kernel_rfl) (by intro _ _ _ h; exact h) (Or.inl ⟨by rfl, ?_⟩) (by assumption) ?_
                  rotate_left
                  · (intro w hSw; (try dsimp only at hSw); go_simp; try (with_reducible rfl))
                  simp only [Act.put, List.setIfInBounds_toArray, List.set_cons_zero, List.set_cons_succ]
                  refine wpAnyH_take (i := 35) (v := ?_) (by (simp only [List.getElem?_toArray, List.getElem?_cons_succ, List.getElem?_cons_zero]; rfl)) (by kernel_rfl) (by kernel_rfl) (by kernel_rfl) (by intro _ _ _ h; exact h) (Or.inl ⟨by rfl, ?_⟩) (by assumption) ?_
                  rotate_left
                  · (intro w hSw; (try dsimp only at hSw); go_simp; try (with_reducible rfl))
                  simp only [Act.put, List.setIfInBounds_toArray, List.set_cons_zero, List.set_cons_succ]
                  refine wpAnyH_done (by kernel_rfl) ?_ _
                  have HZ := Lib.hid (HBZ5.out.trans (hHeld.2.2.2.2.2.2.2.2.2.2.2.2.2.2.mono HBZ5.out.size))
                  clear hHeld hop hop2 hop3 hop4 hu7 hu8 hb7 hb8 hb9 hb10 hgv
                  go_wp2
                  go_ret
                  exact ⟨rfl, HZ.out⟩

set_option maxRecDepth 100000 in
theorem lifted_ChainCounts (os : Os) (started : os.Started) (H : Type) (enc : TypeId × Value → H) :
    ReturnsInHanded {} Try.checked os 5 .any (Rows.chainCountsSpec.pre6 enc Try.prog Try.f5 Rows.chainCountsRow.domain false) (Rows.chainCountsSpec.post enc Try.prog Try.f5 false true false false) := by
  refine returnsInHanded_of_change (C := Try.checked) own_knob started (by kernel_rfl) Try.func5
    (ChangeSpec.witness6 (enc := enc) (C := Try.checked) false ⟨#[], #[.agg #[.bool false, .string .empty, .string .empty, .string .empty, .string .empty, .string .empty, .string .empty, .string .empty, .slice none 0 0, .slice none 0 0, .slice none 0 0], .agg #[.bool false, .string .empty, .string .empty, .string .empty, .string .empty, .string .empty, .string .empty, .string .empty, .slice none 0 0, .slice none 0 0, .slice none 0 0]], []⟩ 8 (by kernel_rfl) (by kernel_rfl) (by kernel_rfl) (by kernel_rfl)) ?_
  intro W base args ds gs before hval0 hW _ _
  have hval : ∀ (j : Nat) t v, Try.f5.params[j]? = some t → args[j]? = some v → Value.okWide Try.prog W .any base t v := hval0
  have hW' := hW
  obtain ⟨p, q, hA0, hV, rfl, _, _⟩ := hW
  have hA : DataW.TrodAll enc Try.prog W 0 (fun _ => true) true Try.f5.params.toList args.toList ds p := hA0
  rw [Try.params5] at hA hval
  obtain ⟨v0, vs0, d0, ds0, p0, q0, hargs, rfl, rfl, h0, r0⟩ := trodAll_cons hA
  obtain ⟨v1, vs1, d1, ds1, p1, q1, rfl, rfl, rfl, h1, r1⟩ := trodAll_cons r0
  obtain ⟨rfl, rfl, rfl⟩ := trodAll_nil r1
  obtain rfl : args = #[v0, v1] := by cases args; simp_all
  obtain ⟨rfl, rfl⟩ := trodVars_none hV
  obtain ⟨vp0, vm0, vd0, X0, rfl, rd0, ok0⟩ := open_pom (hval 0 27 v0 rfl rfl) h0
  obtain ⟨vp1, vm1, vd1, X1, rfl, rd1, ok1⟩ := open_pom (hval 1 27 v1 rfl rfl) h1
  clear hA0 hval0
  refine (walk_ChainCounts vp0 vm0 vd0 vp1 vm1 vd1 X0 X1 ok0 ok1 W rd0 rd1).mono fun e W' ⟨he, hb⟩ => ?_
  subst he
  exact ⟨_, rfl, law_post (by kernel_rfl) rfl rfl rfl hW' hb⟩

/-- the statement of ChainCounts -/
theorem proved_ChainCounts : Rows.ChainCountsSaid :=
  OpenClaim.holds_of_wide 5 Try.f5 rfl rfl rfl rfl rfl rfl rfl ⟨rfl, rfl, rfl, rfl, rfl⟩ rfl rfl rfl rfl rfl (by kernel_rfl) Try.func5 (by kernel_rfl)
    (of_decide_eq_true (by kernel_rfl)) (by unfold Func.isWrapper; first | (rw [if_pos (by decide +kernel)]; kernel_rfl) | (rw [if_neg (by decide +kernel)]; exact ⟨rfl, rfl⟩))
    (fun os started H enc _ => lifted_ChainCounts os started H enc)
end Go.Proofs.Ytjkmmmmbdfcnbaa
