/-
  Layer 10: which projects are looked at: Light whole. Own work.
-/
import Derived.Test.YtjkmmmmbdfcnbaaLight10
namespace Go.Proofs.Ytjkmmmmbdfcnbaa
set_option linter.unusedVariables false
set_option linter.unusedSimpArgs false
open Go.RowKit

def lightM (p : Pm) : Prop := p.ps.length ≤ 30 ∧ p.ms.length ≤ 30 ∧ p.ds.length ≤ 30 ∧ (∀ d ∈ p.ms, d.ex.length ≤ 10) ∧ ∀ d ∈ p.ds, d.ex.length ≤ 10
def LiP (p : Pm) (w : World) (e : Ending) (w' : World) : Prop := ∃ b : Bool, e = .returned (.bool b) ∧ (b = true → lightM p) ∧ Below w.heap.size w w'
theorem small_step {l : List Dp} {k : Nat} {d : Dp} (hd : l[k]? = some d) (h : ∀ x ∈ l.take k, x.ex.length ≤ 10) (h1 : d.ex.length ≤ 10) : ∀ x ∈ l.take (k + 1), x.ex.length ≤ 10 := by
  intro x hx
  rw [List.take_add_one, hd, List.mem_append] at hx
  rcases hx with hx | hx
  · exact h x hx
  · simp at hx; subst hx; exact h1
set_option maxRecDepth 100000 in
set_option maxHeartbeats 8000000 in
theorem Light_any (p : Pm) (vp vm vd : Value) (w : World) (ha : RdP w vp vm vd p) :
    Calls Try.prog 6 #[pmV vp vm vd p] w (LiP p w) := by
  obtain ⟨e8, k8, rfl⟩ := RdSl.shape ha.p
  obtain ⟨e9, k9, rfl⟩ := RdSl.shape ha.m
  obtain ⟨e10, k10, rfl⟩ := RdSl.shape ha.d
  have hl8 := RdSl.len ha.p
  have hl9 := RdSl.len ha.m
  have hl10 := RdSl.len ha.d
  have hI8 : (p.ps.length : Int) ≤ 9223372036854775807 := by omega
  have hI9 : (p.ms.length : Int) ≤ 9223372036854775807 := by omega
  have hI10 : (p.ds.length : Int) ≤ 9223372036854775807 := by omega
  unfold pmV
  have hb0 : Below w.heap.size w (w.alloc (.cells #[.bool p.hp, .string p.pg, .string p.pa, .string p.pv, .string p.g, .string p.a, .string p.v, .string p.pk, .slice e8 p.ps.length k8, .slice e9 p.ms.length k9, .slice e10 p.ds.length k10] 27)) := (Below.refl w.heap.size w).alloc (Nat.le_refl _) _
  have h1 := heap_alloc_new w (.cells #[.bool p.hp, .string p.pg, .string p.pa, .string p.pv, .string p.g, .string p.a, .string p.v, .string p.pk, .slice e8 p.ps.length k8, .slice e9 p.ms.length k9, .slice e10 p.ds.length k10] 27)
  have HA := Lib.hid (ha.below hb0 (Nat.le_refl _))
  have HB0 := Lib.hid hb0
  clear ha hb0
  go_enter Try.func6, Try.ntmps6
  go_upto_region 1 with fail
  generalize w.alloc (.cells #[.bool p.hp, .string p.pg, .string p.pa, .string p.pv, .string p.g, .string p.a, .string p.v, .string p.pk, .slice e8 p.ps.length k8, .slice e9 p.ms.length k9, .slice e10 p.ds.length k10] 27) = w1 at h1 HA HB0 ⊢
  generalize w.heap.size = D at h1 ⊢
  have H1 := Lib.hid h1
  have x0 : w1.cell? ⟨D, 0, none⟩ = some (.bool p.hp) := by rw [cell_of_row w1 D 0 _ _ (0, 0) h1]; rfl
  have x1 : w1.cell? ⟨D, 1, none⟩ = some (.string p.pg) := by rw [cell_of_row w1 D 1 _ _ (0, 0) h1]; rfl
  have x2 : w1.cell? ⟨D, 2, none⟩ = some (.string p.pa) := by rw [cell_of_row w1 D 2 _ _ (0, 0) h1]; rfl
  have x3 : w1.cell? ⟨D, 3, none⟩ = some (.string p.pv) := by rw [cell_of_row w1 D 3 _ _ (0, 0) h1]; rfl
  have x4 : w1.cell? ⟨D, 4, none⟩ = some (.string p.g) := by rw [cell_of_row w1 D 4 _ _ (0, 0) h1]; rfl
  have x5 : w1.cell? ⟨D, 5, none⟩ = some (.string p.a) := by rw [cell_of_row w1 D 5 _ _ (0, 0) h1]; rfl
  have x6 : w1.cell? ⟨D, 6, none⟩ = some (.string p.v) := by rw [cell_of_row w1 D 6 _ _ (0, 0) h1]; rfl
  have x7 : w1.cell? ⟨D, 7, none⟩ = some (.string p.pk) := by rw [cell_of_row w1 D 7 _ _ (0, 0) h1]; rfl
  have x8 : w1.cell? ⟨D, 8, none⟩ = some (.slice e8 p.ps.length k8) := by rw [cell_of_row w1 D 8 _ _ (0, 0) h1]; rfl
  have x9 : w1.cell? ⟨D, 9, none⟩ = some (.slice e9 p.ms.length k9) := by rw [cell_of_row w1 D 9 _ _ (0, 0) h1]; rfl
  have x10 : w1.cell? ⟨D, 10, none⟩ = some (.slice e10 p.ds.length k10) := by rw [cell_of_row w1 D 10 _ _ (0, 0) h1]; rfl
  clear h1
  by_cases hbig : 30 < p.ps.length
  · have hbI : (30 : Int) < p.ps.length := by omega
    clear hbig
    go_wp2
    go_ret
    exact ⟨_, rfl, by simp, HB0.out⟩
  have hb8 : decide ((30 : Int) < p.ps.length) = false := by simp; omega
  have HL8 := Lib.hid (show p.ps.length ≤ 30 by omega)
  clear hbig
  by_cases hbig : 30 < p.ms.length
  · have hbI : (30 : Int) < p.ms.length := by omega
    clear hbig
    go_wp2
    go_ret
    exact ⟨_, rfl, by simp, HB0.out⟩
  have hb9 : decide ((30 : Int) < p.ms.length) = false := by simp; omega
  have HL9 := Lib.hid (show p.ms.length ≤ 30 by omega)
  clear hbig
  by_cases hbig : 30 < p.ds.length
  · have hbI : (30 : Int) < p.ds.length := by omega
    clear hbig
    go_wp2
    go_ret
    exact ⟨_, rfl, by simp, HB0.out⟩
  have hb10 : decide ((30 : Int) < p.ds.length) = false := by simp; omega
  have HL10 := Lib.hid (show p.ds.length ≤ 30 by omega)
  clear hbig
  have hba : Below w1.heap.size w1 (w1.alloc (.cells #[.string p.g, .string p.a, .string p.v, .string p.pk, .string p.pg, .string p.pa, .string p.pv] 9)) := (Below.refl _ _).alloc (Nat.le_refl _) _
  have HBA := Lib.hid hba
  have hop := short_any w1.heap.size [p.g, p.a, p.v, p.pk, p.pg, p.pa, p.pv] (by simp) (w1.alloc (.cells #[.string p.g, .string p.a, .string p.v, .string p.pk, .string p.pg, .string p.pa, .string p.pv] 9)) (heap_alloc_new w1 _)
  have HOP := Lib.hid hop
  clear hop hba
  go_wp2_with fail
  refine HOP.out.mono ?_
  rintro e w2 ⟨⟨b, rfl⟩, rfl⟩
  clear x0 x1 x2 x3 x4 x5 x6 x7 x8 x9 x10 HOP
  cases b
  · go_wp2
    go_ret
    exact ⟨_, rfl, by simp, HB0.out.trans (HBA.out.mono HB0.out.size)⟩
  generalize w1.alloc (.cells #[.string p.g, .string p.a, .string p.v, .string p.pk, .string p.pg, .string p.pa, .string p.pv] 9) = w2 at HBA ⊢
  have HD := Lib.hid (fun (wz : World) (hz : Below w1.heap.size w1 wz) => (hz.block D (Array.getElem?_eq_some_iff.1 H1.out).1).trans H1.out)
  have h2 := HD.out w2 HBA.out
  have x8 : w2.cell? ⟨D, 8, none⟩ = some (.slice e8 p.ps.length k8) := by rw [cell_of_row w2 D 8 _ _ (0, 0) h2]; rfl
  clear h2
  go_wp2_with fail
  clear x8
  go_loopw [50] (fun i wr => ∃ k : Nat, k ≤ p.ps.length ∧ i = .int .i64 k ∧ Below w1.heap.size w1 wr) (fun i _ => p.ps.length - (intOf i).toNat)
  case atStart => exact ⟨0, by omega, rfl, HBA.out⟩
  case round =>
    obtain ⟨k, hk, rfl, hbw⟩ := hrel
    have HB := Lib.hid hbw
    by_cases hlt : k < p.ps.length
    · obtain ⟨x, hx⟩ : ∃ x, p.ps[k]? = some x := ⟨_, List.getElem?_eq_getElem hlt⟩
      obtain ⟨a1, e1, p0, p1⟩ := RdSl.elem (HA.out.p.below hbw (Nat.le_refl _)) hx
      subst e1
      have hbb : Below wr.heap.size wr (wr.alloc (.cells #[.string x.n, .string x.v] 36)) := (Below.refl _ _).alloc (Nat.le_refl _) _
      have hnew := heap_alloc_new wr (.cells #[.string x.n, .string x.v] 36)
      have HBB := Lib.hid (HB.out.trans (hbb.mono HB.out.size))
      clear hbw hbb hx
      go_upto_region 6 with fail
      generalize wr.alloc (.cells #[.string x.n, .string x.v] 36) = wb at hnew HBB ⊢
      generalize wr.heap.size = KB at hnew ⊢
      have r0 : wb.cell? ⟨KB, 0, none⟩ = some (.string x.n) := by rw [cell_of_row wb KB 0 _ _ (0, 0) hnew]; rfl
      have r1 : wb.cell? ⟨KB, 1, none⟩ = some (.string x.v) := by rw [cell_of_row wb KB 1 _ _ (0, 0) hnew]; rfl
      have hop := short_any wb.heap.size [x.n, x.v] (by simp) (wb.alloc (.cells #[.string x.n, .string x.v] 9)) (heap_alloc_new wb _)
      have hbc : Below wb.heap.size wb (wb.alloc (.cells #[.string x.n, .string x.v] 9)) := (Below.refl _ _).alloc (Nat.le_refl _) _
      have HBC := Lib.hid (HBB.out.trans (hbc.mono HBB.out.size))
      have HOP := Lib.hid hop
      clear hop hbc hnew p0 p1
      go_wp2_with fail
      refine HOP.out.mono ?_
      rintro e w5 ⟨⟨b, rfl⟩, rfl⟩
      clear r0 r1 HOP
      cases b
      · go_wp2
        go_ret
        exact ⟨_, rfl, by simp, HB0.out.trans (HBC.out.mono HB0.out.size)⟩
      · go_wp2
        go_roundw
        case rel => exact ⟨k + 1, by omega, by go_num, HBC.out⟩
        case measure => simp [intOf]; omega
    · have hle : (p.ps.length : Int) ≤ k := by omega
      clear hbw
      have h2 := HD.out _ HB.out
      have x9 := show wr.cell? ⟨D, 9, none⟩ = some (.slice e9 p.ms.length k9) by rw [cell_of_row _ D 9 _ _ (0, 0) h2]; rfl
      clear h2
      go_wp2_with fail
      clear x9
      go_loopw [65] (fun i wz => ∃ k : Nat, k ≤ p.ms.length ∧ i = .int .i64 k ∧ (∀ d ∈ p.ms.take k, d.ex.length ≤ 10) ∧ Below w1.heap.size w1 wz) (fun i _ => p.ms.length - (intOf i).toNat)
      case atStart => exact ⟨0, by omega, rfl, (fun d hd => by simp at hd), HB.out⟩
      case round =>
        obtain ⟨k9, hk9, rfl, hall, hbw⟩ := hrel
        have HALL9 := Lib.hid hall
        have HB9 := Lib.hid hbw
        clear hall
        by_cases hlt9 : k9 < p.ms.length
        · obtain ⟨x, hx⟩ : ∃ x, p.ms[k9]? = some x := ⟨_, List.getElem?_eq_getElem hlt9⟩
          obtain ⟨a1, e1, ex, p0, rx⟩ := RdSl.elem (HA.out.m.below hbw (Nat.le_refl _)) hx
          subst e1
          obtain ⟨c0, c1, c2, c3, c4, c5, c6, c7⟩ := p0
          have hbb : Below wr.heap.size wr (wr.alloc (.cells #[.string x.g, .string x.a, .string x.v, .string x.t, .string x.c, .int .i64 x.sc, .int .i64 x.op, ex] 34)) := (Below.refl _ _).alloc (Nat.le_refl _) _
          have hnew := heap_alloc_new wr (.cells #[.string x.g, .string x.a, .string x.v, .string x.t, .string x.c, .int .i64 x.sc, .int .i64 x.op, ex] 34)
          have HBB := Lib.hid (HB9.out.trans (hbb.mono HB9.out.size))
          have HX := Lib.hid hx
          obtain ⟨xa, xc, rfl⟩ := RdSl.shape rx
          have hop := LightDep_any x _ _ (RdXs.below rx hbb (Nat.le_refl _))
          unfold dpV at hop
          clear hbw hbb hx rx
          go_upto_region 12 with fail
          generalize wr.alloc (.cells #[.string x.g, .string x.a, .string x.v, .string x.t, .string x.c, .int .i64 x.sc, .int .i64 x.op, .slice xa x.ex.length xc] 34) = wb at hnew HBB hop ⊢
          have HOP := Lib.hid hop
          generalize wr.heap.size = KB at hnew ⊢
          have r0 : wb.cell? ⟨KB, 0, none⟩ = some (.string x.g) := by rw [cell_of_row wb KB 0 _ _ (0, 0) hnew]; rfl
          have r1 : wb.cell? ⟨KB, 1, none⟩ = some (.string x.a) := by rw [cell_of_row wb KB 1 _ _ (0, 0) hnew]; rfl
          have r2 : wb.cell? ⟨KB, 2, none⟩ = some (.string x.v) := by rw [cell_of_row wb KB 2 _ _ (0, 0) hnew]; rfl
          have r3 : wb.cell? ⟨KB, 3, none⟩ = some (.string x.t) := by rw [cell_of_row wb KB 3 _ _ (0, 0) hnew]; rfl
          have r4 : wb.cell? ⟨KB, 4, none⟩ = some (.string x.c) := by rw [cell_of_row wb KB 4 _ _ (0, 0) hnew]; rfl
          have r5 : wb.cell? ⟨KB, 5, none⟩ = some (.int .i64 x.sc) := by rw [cell_of_row wb KB 5 _ _ (0, 0) hnew]; rfl
          have r6 : wb.cell? ⟨KB, 6, none⟩ = some (.int .i64 x.op) := by rw [cell_of_row wb KB 6 _ _ (0, 0) hnew]; rfl
          have r7 : wb.cell? ⟨KB, 7, none⟩ = some (.slice xa x.ex.length xc) := by rw [cell_of_row wb KB 7 _ _ (0, 0) hnew]; rfl
          clear hop hnew c0 c1 c2 c3 c4 c5 c6 c7
          go_wp2_with fail
          refine HOP.out.mono ?_
          rintro e w5 ⟨b, rfl, hbl, hb5⟩
          have HBL := Lib.hid hbl
          have HB5 := Lib.hid (HBB.out.trans (hb5.mono HBB.out.size))
          clear r0 r1 r2 r3 r4 r5 r6 r7 HOP hb5 hbl
          cases b
          · go_wp2
            go_ret
            exact ⟨_, rfl, by simp, HB0.out.trans (HB5.out.mono HB0.out.size)⟩
          · go_wp2
            go_roundw
            case rel => exact ⟨k9 + 1, by omega, by go_num, small_step HX.out HALL9.out (HBL.out trivial), HB5.out⟩
            case measure => simp [intOf]; omega
        · have hle9 : (p.ms.length : Int) ≤ k9 := by omega
          have HK9 := Lib.hid (show ∀ d ∈ p.ms, d.ex.length ≤ 10 by have := HALL9.out; rw [List.take_of_length_le (by omega)] at this; exact this)
          clear hbw
          have h2 := HD.out _ HB9.out
          have x10 := show wr.cell? ⟨D, 10, none⟩ = some (.slice e10 p.ds.length k10) by rw [cell_of_row _ D 10 _ _ (0, 0) h2]; rfl
          clear h2
          go_wp2_with fail
          clear x10
          go_loopw [76] (fun i wz => ∃ k : Nat, k ≤ p.ds.length ∧ i = .int .i64 k ∧ (∀ d ∈ p.ds.take k, d.ex.length ≤ 10) ∧ Below w1.heap.size w1 wz) (fun i _ => p.ds.length - (intOf i).toNat)
          case atStart => exact ⟨0, by omega, rfl, (fun d hd => by simp at hd), HB9.out⟩
          case round =>
            obtain ⟨k10, hk10, rfl, hall, hbw⟩ := hrel
            have HALL10 := Lib.hid hall
            have HB10 := Lib.hid hbw
            clear hall
            by_cases hlt10 : k10 < p.ds.length
            · obtain ⟨x, hx⟩ : ∃ x, p.ds[k10]? = some x := ⟨_, List.getElem?_eq_getElem hlt10⟩
              obtain ⟨a1, e1, ex, p0, rx⟩ := RdSl.elem (HA.out.d.below hbw (Nat.le_refl _)) hx
              subst e1
              obtain ⟨c0, c1, c2, c3, c4, c5, c6, c7⟩ := p0
              have hbb : Below wr.heap.size wr (wr.alloc (.cells #[.string x.g, .string x.a, .string x.v, .string x.t, .string x.c, .int .i64 x.sc, .int .i64 x.op, ex] 34)) := (Below.refl _ _).alloc (Nat.le_refl _) _
              have hnew := heap_alloc_new wr (.cells #[.string x.g, .string x.a, .string x.v, .string x.t, .string x.c, .int .i64 x.sc, .int .i64 x.op, ex] 34)
              have HBB := Lib.hid (HB10.out.trans (hbb.mono HB10.out.size))
              have HX := Lib.hid hx
              obtain ⟨xa, xc, rfl⟩ := RdSl.shape rx
              have hop := LightDep_any x _ _ (RdXs.below rx hbb (Nat.le_refl _))
              unfold dpV at hop
              clear hbw hbb hx rx
              go_upto_region 18 with fail
              generalize wr.alloc (.cells #[.string x.g, .string x.a, .string x.v, .string x.t, .string x.c, .int .i64 x.sc, .int .i64 x.op, .slice xa x.ex.length xc] 34) = wb at hnew HBB hop ⊢
              have HOP := Lib.hid hop
              generalize wr.heap.size = KB at hnew ⊢
              have r0 : wb.cell? ⟨KB, 0, none⟩ = some (.string x.g) := by rw [cell_of_row wb KB 0 _ _ (0, 0) hnew]; rfl
              have r1 : wb.cell? ⟨KB, 1, none⟩ = some (.string x.a) := by rw [cell_of_row wb KB 1 _ _ (0, 0) hnew]; rfl
              have r2 : wb.cell? ⟨KB, 2, none⟩ = some (.string x.v) := by rw [cell_of_row wb KB 2 _ _ (0, 0) hnew]; rfl
              have r3 : wb.cell? ⟨KB, 3, none⟩ = some (.string x.t) := by rw [cell_of_row wb KB 3 _ _ (0, 0) hnew]; rfl
              have r4 : wb.cell? ⟨KB, 4, none⟩ = some (.string x.c) := by rw [cell_of_row wb KB 4 _ _ (0, 0) hnew]; rfl
              have r5 : wb.cell? ⟨KB, 5, none⟩ = some (.int .i64 x.sc) := by rw [cell_of_row wb KB 5 _ _ (0, 0) hnew]; rfl
              have r6 : wb.cell? ⟨KB, 6, none⟩ = some (.int .i64 x.op) := by rw [cell_of_row wb KB 6 _ _ (0, 0) hnew]; rfl
              have r7 : wb.cell? ⟨KB, 7, none⟩ = some (.slice xa x.ex.length xc) := by rw [cell_of_row wb KB 7 _ _ (0, 0) hnew]; rfl
              clear hop hnew c0 c1 c2 c3 c4 c5 c6 c7
              go_wp2_with fail
              refine HOP.out.mono ?_
              rintro e w5 ⟨b, rfl, hbl, hb5⟩
              have HBL := Lib.hid hbl
              have HB5 := Lib.hid (HBB.out.trans (hb5.mono HBB.out.size))
              clear r0 r1 r2 r3 r4 r5 r6 r7 HOP hb5 hbl
              cases b
              · go_wp2
                go_ret
                exact ⟨_, rfl, by simp, HB0.out.trans (HB5.out.mono HB0.out.size)⟩
              · go_wp2
                go_roundw
                case rel => exact ⟨k10 + 1, by omega, by go_num, small_step HX.out HALL10.out (HBL.out trivial), HB5.out⟩
                case measure => simp [intOf]; omega
            · have hle10 : (p.ds.length : Int) ≤ k10 := by omega
              have HK10 := Lib.hid (show ∀ d ∈ p.ds, d.ex.length ≤ 10 by have := HALL10.out; rw [List.take_of_length_le (by omega)] at this; exact this)
              clear hbw
              go_wp2
              go_ret
              exact ⟨_, rfl, (fun _ => ⟨HL8.out, HL9.out, HL10.out, HK9.out, HK10.out⟩), HB0.out.trans (HB10.out.mono HB0.out.size)⟩
end Go.Proofs.Ytjkmmmmbdfcnbaa
