/-
  Layer 10: the statement ChainTogether: three projects in a line may be merged from either end. For every input. Own work.
-/
import Derived.Test.YtjkmmmmbdfcnbaaTog10
namespace Go.Proofs.Ytjkmmmmbdfcnbaa
set_option linter.unusedVariables false
set_option linter.unusedSimpArgs false
open Go.ChangeShapes Go.WideShapes Go.ChangeAt Go.RowKit

/-- a project of few and different names -/
def G10 (y : Pm) : Prop := lightM y ∧ Dist y.ps
set_option maxRecDepth 100000 in
set_option maxHeartbeats 8000000 in
theorem walk_ChainTogether (va vb vc va2 vb2 vc2 va3 vb3 vc3 : Value) (a b c : Pm) (hok : okPm a) (hok2 : okPm b) (hok3 : okPm c) (w : World) (ha : RdP w va vb vc a) (hb : RdP w va2 vb2 vc2 b) (hc : RdP w va3 vb3 vc3 c) :
    Calls Try.prog 4 #[pmV va vb vc a, pmV va2 vb2 vc2 b, pmV va3 vb3 vc3 c] w fun e w' => e = .returned (.bool true) ∧ Below w.heap.size w w' := by
  obtain ⟨a1, ak1, a2, ak2, a3, ak3, rfl, rfl, rfl⟩ := ha.shapes
  obtain ⟨b1, bk1, b2, bk2, b3, bk3, rfl, rfl, rfl⟩ := hb.shapes
  obtain ⟨c1, ck1, c2, ck2, c3, ck3, rfl, rfl, rfl⟩ := hc.shapes
  have hb0 : Below w.heap.size w (((w.alloc (.cells #[.bool a.hp, .string a.pg, .string a.pa, .string a.pv, .string a.g, .string a.a, .string a.v, .string a.pk, .slice a1 a.ps.length ak1, .slice a2 a.ms.length ak2, .slice a3 a.ds.length ak3] 27)).alloc (.cells #[.bool b.hp, .string b.pg, .string b.pa, .string b.pv, .string b.g, .string b.a, .string b.v, .string b.pk, .slice b1 b.ps.length bk1, .slice b2 b.ms.length bk2, .slice b3 b.ds.length bk3] 27)).alloc (.cells #[.bool c.hp, .string c.pg, .string c.pa, .string c.pv, .string c.g, .string c.a, .string c.v, .string c.pk, .slice c1 c.ps.length ck1, .slice c2 c.ms.length ck2, .slice c3 c.ds.length ck3] 27)) := (((Below.refl w.heap.size w).alloc (Nat.le_refl _) _).alloc (by simp) _).alloc (by simp <;> omega) _
  have hA : (((w.alloc (.cells #[.bool a.hp, .string a.pg, .string a.pa, .string a.pv, .string a.g, .string a.a, .string a.v, .string a.pk, .slice a1 a.ps.length ak1, .slice a2 a.ms.length ak2, .slice a3 a.ds.length ak3] 27)).alloc (.cells #[.bool b.hp, .string b.pg, .string b.pa, .string b.pv, .string b.g, .string b.a, .string b.v, .string b.pk, .slice b1 b.ps.length bk1, .slice b2 b.ms.length bk2, .slice b3 b.ds.length bk3] 27)).alloc (.cells #[.bool c.hp, .string c.pg, .string c.pa, .string c.pv, .string c.g, .string c.a, .string c.v, .string c.pk, .slice c1 c.ps.length ck1, .slice c2 c.ms.length ck2, .slice c3 c.ds.length ck3] 27)).heap[w.heap.size]? = some (.cells #[.bool a.hp, .string a.pg, .string a.pa, .string a.pv, .string a.g, .string a.a, .string a.v, .string a.pk, .slice a1 a.ps.length ak1, .slice a2 a.ms.length ak2, .slice a3 a.ds.length ak3] 27 (0, 0)) := (Below.heap_alloc _ _ _ (by simp <;> omega)).trans ((Below.heap_alloc _ _ _ (by simp)).trans (heap_alloc_new w _))
  have hB : (((w.alloc (.cells #[.bool a.hp, .string a.pg, .string a.pa, .string a.pv, .string a.g, .string a.a, .string a.v, .string a.pk, .slice a1 a.ps.length ak1, .slice a2 a.ms.length ak2, .slice a3 a.ds.length ak3] 27)).alloc (.cells #[.bool b.hp, .string b.pg, .string b.pa, .string b.pv, .string b.g, .string b.a, .string b.v, .string b.pk, .slice b1 b.ps.length bk1, .slice b2 b.ms.length bk2, .slice b3 b.ds.length bk3] 27)).alloc (.cells #[.bool c.hp, .string c.pg, .string c.pa, .string c.pv, .string c.g, .string c.a, .string c.v, .string c.pk, .slice c1 c.ps.length ck1, .slice c2 c.ms.length ck2, .slice c3 c.ds.length ck3] 27)).heap[w.heap.size + 1]? = some (.cells #[.bool b.hp, .string b.pg, .string b.pa, .string b.pv, .string b.g, .string b.a, .string b.v, .string b.pk, .slice b1 b.ps.length bk1, .slice b2 b.ms.length bk2, .slice b3 b.ds.length bk3] 27 (0, 0)) := by
    have := heap_alloc_new (w.alloc (.cells #[.bool a.hp, .string a.pg, .string a.pa, .string a.pv, .string a.g, .string a.a, .string a.v, .string a.pk, .slice a1 a.ps.length ak1, .slice a2 a.ms.length ak2, .slice a3 a.ds.length ak3] 27)) (.cells #[.bool b.hp, .string b.pg, .string b.pa, .string b.pv, .string b.g, .string b.a, .string b.v, .string b.pk, .slice b1 b.ps.length bk1, .slice b2 b.ms.length bk2, .slice b3 b.ds.length bk3] 27)
    refine (Below.heap_alloc _ _ _ (by simp)).trans ?_
    simpa using this
  have hC : (((w.alloc (.cells #[.bool a.hp, .string a.pg, .string a.pa, .string a.pv, .string a.g, .string a.a, .string a.v, .string a.pk, .slice a1 a.ps.length ak1, .slice a2 a.ms.length ak2, .slice a3 a.ds.length ak3] 27)).alloc (.cells #[.bool b.hp, .string b.pg, .string b.pa, .string b.pv, .string b.g, .string b.a, .string b.v, .string b.pk, .slice b1 b.ps.length bk1, .slice b2 b.ms.length bk2, .slice b3 b.ds.length bk3] 27)).alloc (.cells #[.bool c.hp, .string c.pg, .string c.pa, .string c.pv, .string c.g, .string c.a, .string c.v, .string c.pk, .slice c1 c.ps.length ck1, .slice c2 c.ms.length ck2, .slice c3 c.ds.length ck3] 27)).heap[w.heap.size + 1 + 1]? = some (.cells #[.bool c.hp, .string c.pg, .string c.pa, .string c.pv, .string c.g, .string c.a, .string c.v, .string c.pk, .slice c1 c.ps.length ck1, .slice c2 c.ms.length ck2, .slice c3 c.ds.length ck3] 27 (0, 0)) := by
    have := heap_alloc_new ((w.alloc (.cells #[.bool a.hp, .string a.pg, .string a.pa, .string a.pv, .string a.g, .string a.a, .string a.v, .string a.pk, .slice a1 a.ps.length ak1, .slice a2 a.ms.length ak2, .slice a3 a.ds.length ak3] 27)).alloc (.cells #[.bool b.hp, .string b.pg, .string b.pa, .string b.pv, .string b.g, .string b.a, .string b.v, .string b.pk, .slice b1 b.ps.length bk1, .slice b2 b.ms.length bk2, .slice b3 b.ds.length bk3] 27)) (.cells #[.bool c.hp, .string c.pg, .string c.pa, .string c.pv, .string c.g, .string c.a, .string c.v, .string c.pk, .slice c1 c.ps.length ck1, .slice c2 c.ms.length ck2, .slice c3 c.ds.length ck3] 27)
    simpa using this
  have HRa0 := Lib.hid (ha.below hb0 (Nat.le_refl _))
  have HRb0 := Lib.hid (hb.below hb0 (Nat.le_refl _))
  have HRc0 := Lib.hid (hc.below hb0 (Nat.le_refl _))
  have HB00 := Lib.hid hb0
  have HLV := Lib.hid lives10
  have HOK := Lib.hid hok
  have HOK2 := Lib.hid hok2
  have HOK3 := Lib.hid hok3
  have HLa := Lib.hid (fun w' hr => (Light_any a (.slice a1 a.ps.length ak1) (.slice a2 a.ms.length ak2) (.slice a3 a.ds.length ak3) w' hr))
  have HLb := Lib.hid (fun w' hr => (Light_any b (.slice b1 b.ps.length bk1) (.slice b2 b.ms.length bk2) (.slice b3 b.ds.length bk3) w' hr))
  have HLc := Lib.hid (fun w' hr => (Light_any c (.slice c1 c.ps.length ck1) (.slice c2 c.ms.length ck2) (.slice c3 c.ds.length ck3) w' hr))
  unfold pmV at HLa HLb HLc ⊢
  clear ha hb hc hb0 hok hok2 hok3
  go_enter Try.func4, Try.ntmps4
  go_upto_region 1 with fail
  generalize (((w.alloc (.cells #[.bool a.hp, .string a.pg, .string a.pa, .string a.pv, .string a.g, .string a.a, .string a.v, .string a.pk, .slice a1 a.ps.length ak1, .slice a2 a.ms.length ak2, .slice a3 a.ds.length ak3] 27)).alloc (.cells #[.bool b.hp, .string b.pg, .string b.pa, .string b.pv, .string b.g, .string b.a, .string b.v, .string b.pk, .slice b1 b.ps.length bk1, .slice b2 b.ms.length bk2, .slice b3 b.ds.length bk3] 27)).alloc (.cells #[.bool c.hp, .string c.pg, .string c.pa, .string c.pv, .string c.g, .string c.a, .string c.v, .string c.pk, .slice c1 c.ps.length ck1, .slice c2 c.ms.length ck2, .slice c3 c.ds.length ck3] 27)) = w0 at hA hB hC HRa0 HRb0 HRc0 HB00 ⊢
  obtain ⟨C, hCe⟩ : ∃ b, b = w.heap.size + 1 + 1 := ⟨_, rfl⟩
  rw [← hCe] at hC
  simp only [← hCe]
  obtain ⟨B, hBe⟩ : ∃ b, b = w.heap.size + 1 := ⟨_, rfl⟩
  rw [← hBe] at hB
  simp only [← hBe]
  obtain ⟨A, hAe⟩ : ∃ b, b = w.heap.size := ⟨_, rfl⟩
  rw [← hAe] at hA
  simp only [← hAe]
  clear hCe hBe hAe
  have HXA := Lib.hid hA
  have HXB := Lib.hid hB
  have HXC := Lib.hid hC
  have ca0 : w0.cell? ⟨A, 0, none⟩ = some (.bool a.hp) := by rw [cell_of_row w0 A 0 _ _ (0, 0) hA]; rfl
  have ca1 : w0.cell? ⟨A, 1, none⟩ = some (.string a.pg) := by rw [cell_of_row w0 A 1 _ _ (0, 0) hA]; rfl
  have ca2 : w0.cell? ⟨A, 2, none⟩ = some (.string a.pa) := by rw [cell_of_row w0 A 2 _ _ (0, 0) hA]; rfl
  have ca3 : w0.cell? ⟨A, 3, none⟩ = some (.string a.pv) := by rw [cell_of_row w0 A 3 _ _ (0, 0) hA]; rfl
  have ca4 : w0.cell? ⟨A, 4, none⟩ = some (.string a.g) := by rw [cell_of_row w0 A 4 _ _ (0, 0) hA]; rfl
  have ca5 : w0.cell? ⟨A, 5, none⟩ = some (.string a.a) := by rw [cell_of_row w0 A 5 _ _ (0, 0) hA]; rfl
  have ca6 : w0.cell? ⟨A, 6, none⟩ = some (.string a.v) := by rw [cell_of_row w0 A 6 _ _ (0, 0) hA]; rfl
  have ca7 : w0.cell? ⟨A, 7, none⟩ = some (.string a.pk) := by rw [cell_of_row w0 A 7 _ _ (0, 0) hA]; rfl
  have ca8 : w0.cell? ⟨A, 8, none⟩ = some (.slice a1 a.ps.length ak1) := by rw [cell_of_row w0 A 8 _ _ (0, 0) hA]; rfl
  have ca9 : w0.cell? ⟨A, 9, none⟩ = some (.slice a2 a.ms.length ak2) := by rw [cell_of_row w0 A 9 _ _ (0, 0) hA]; rfl
  have ca10 : w0.cell? ⟨A, 10, none⟩ = some (.slice a3 a.ds.length ak3) := by rw [cell_of_row w0 A 10 _ _ (0, 0) hA]; rfl
  have cb0 : w0.cell? ⟨B, 0, none⟩ = some (.bool b.hp) := by rw [cell_of_row w0 B 0 _ _ (0, 0) hB]; rfl
  have cb1 : w0.cell? ⟨B, 1, none⟩ = some (.string b.pg) := by rw [cell_of_row w0 B 1 _ _ (0, 0) hB]; rfl
  have cb2 : w0.cell? ⟨B, 2, none⟩ = some (.string b.pa) := by rw [cell_of_row w0 B 2 _ _ (0, 0) hB]; rfl
  have cb3 : w0.cell? ⟨B, 3, none⟩ = some (.string b.pv) := by rw [cell_of_row w0 B 3 _ _ (0, 0) hB]; rfl
  have cb4 : w0.cell? ⟨B, 4, none⟩ = some (.string b.g) := by rw [cell_of_row w0 B 4 _ _ (0, 0) hB]; rfl
  have cb5 : w0.cell? ⟨B, 5, none⟩ = some (.string b.a) := by rw [cell_of_row w0 B 5 _ _ (0, 0) hB]; rfl
  have cb6 : w0.cell? ⟨B, 6, none⟩ = some (.string b.v) := by rw [cell_of_row w0 B 6 _ _ (0, 0) hB]; rfl
  have cb7 : w0.cell? ⟨B, 7, none⟩ = some (.string b.pk) := by rw [cell_of_row w0 B 7 _ _ (0, 0) hB]; rfl
  have cb8 : w0.cell? ⟨B, 8, none⟩ = some (.slice b1 b.ps.length bk1) := by rw [cell_of_row w0 B 8 _ _ (0, 0) hB]; rfl
  have cb9 : w0.cell? ⟨B, 9, none⟩ = some (.slice b2 b.ms.length bk2) := by rw [cell_of_row w0 B 9 _ _ (0, 0) hB]; rfl
  have cb10 : w0.cell? ⟨B, 10, none⟩ = some (.slice b3 b.ds.length bk3) := by rw [cell_of_row w0 B 10 _ _ (0, 0) hB]; rfl
  have cc0 : w0.cell? ⟨C, 0, none⟩ = some (.bool c.hp) := by rw [cell_of_row w0 C 0 _ _ (0, 0) hC]; rfl
  have cc1 : w0.cell? ⟨C, 1, none⟩ = some (.string c.pg) := by rw [cell_of_row w0 C 1 _ _ (0, 0) hC]; rfl
  have cc2 : w0.cell? ⟨C, 2, none⟩ = some (.string c.pa) := by rw [cell_of_row w0 C 2 _ _ (0, 0) hC]; rfl
  have cc3 : w0.cell? ⟨C, 3, none⟩ = some (.string c.pv) := by rw [cell_of_row w0 C 3 _ _ (0, 0) hC]; rfl
  have cc4 : w0.cell? ⟨C, 4, none⟩ = some (.string c.g) := by rw [cell_of_row w0 C 4 _ _ (0, 0) hC]; rfl
  have cc5 : w0.cell? ⟨C, 5, none⟩ = some (.string c.a) := by rw [cell_of_row w0 C 5 _ _ (0, 0) hC]; rfl
  have cc6 : w0.cell? ⟨C, 6, none⟩ = some (.string c.v) := by rw [cell_of_row w0 C 6 _ _ (0, 0) hC]; rfl
  have cc7 : w0.cell? ⟨C, 7, none⟩ = some (.string c.pk) := by rw [cell_of_row w0 C 7 _ _ (0, 0) hC]; rfl
  have cc8 : w0.cell? ⟨C, 8, none⟩ = some (.slice c1 c.ps.length ck1) := by rw [cell_of_row w0 C 8 _ _ (0, 0) hC]; rfl
  have cc9 : w0.cell? ⟨C, 9, none⟩ = some (.slice c2 c.ms.length ck2) := by rw [cell_of_row w0 C 9 _ _ (0, 0) hC]; rfl
  have cc10 : w0.cell? ⟨C, 10, none⟩ = some (.slice c3 c.ds.length ck3) := by rw [cell_of_row w0 C 10 _ _ (0, 0) hC]; rfl
  clear hA hB hC
  have hbt : Below w0.heap.size w0 (w0.alloc (.cells #[.bool a.hp, .string a.pg, .string a.pa, .string a.pv, .string a.g, .string a.a, .string a.v, .string a.pk, .slice a1 a.ps.length ak1, .slice a2 a.ms.length ak2, .slice a3 a.ds.length ak3, .bool b.hp, .string b.pg, .string b.pa, .string b.pv, .string b.g, .string b.a, .string b.v, .string b.pk, .slice b1 b.ps.length bk1, .slice b2 b.ms.length bk2, .slice b3 b.ds.length bk3, .bool c.hp, .string c.pg, .string c.pa, .string c.pv, .string c.g, .string c.a, .string c.v, .string c.pk, .slice c1 c.ps.length ck1, .slice c2 c.ms.length ck2, .slice c3 c.ds.length ck3] 27)) := (Below.refl _ _).alloc (Nat.le_refl _) _
  have hnt := heap_alloc_new w0 (.cells #[.bool a.hp, .string a.pg, .string a.pa, .string a.pv, .string a.g, .string a.a, .string a.v, .string a.pk, .slice a1 a.ps.length ak1, .slice a2 a.ms.length ak2, .slice a3 a.ds.length ak3, .bool b.hp, .string b.pg, .string b.pa, .string b.pv, .string b.g, .string b.a, .string b.v, .string b.pk, .slice b1 b.ps.length bk1, .slice b2 b.ms.length bk2, .slice b3 b.ds.length bk3, .bool c.hp, .string c.pg, .string c.pa, .string c.pv, .string c.g, .string c.a, .string c.v, .string c.pk, .slice c1 c.ps.length ck1, .slice c2 c.ms.length ck2, .slice c3 c.ds.length ck3] 27)
  have htl : w0.heap.size < (w0.alloc (.cells #[.bool a.hp, .string a.pg, .string a.pa, .string a.pv, .string a.g, .string a.a, .string a.v, .string a.pk, .slice a1 a.ps.length ak1, .slice a2 a.ms.length ak2, .slice a3 a.ds.length ak3, .bool b.hp, .string b.pg, .string b.pa, .string b.pv, .string b.g, .string b.a, .string b.v, .string b.pk, .slice b1 b.ps.length bk1, .slice b2 b.ms.length bk2, .slice b3 b.ds.length bk3, .bool c.hp, .string c.pg, .string c.pa, .string c.pv, .string c.g, .string c.a, .string c.v, .string c.pk, .slice c1 c.ps.length ck1, .slice c2 c.ms.length ck2, .slice c3 c.ds.length ck3] 27)).heap.size := by simp
  go_upto_region 2 with fail
  generalize w0.alloc (.cells #[.bool a.hp, .string a.pg, .string a.pa, .string a.pv, .string a.g, .string a.a, .string a.v, .string a.pk, .slice a1 a.ps.length ak1, .slice a2 a.ms.length ak2, .slice a3 a.ds.length ak3, .bool b.hp, .string b.pg, .string b.pa, .string b.pv, .string b.g, .string b.a, .string b.v, .string b.pk, .slice b1 b.ps.length bk1, .slice b2 b.ms.length bk2, .slice b3 b.ds.length bk3, .bool c.hp, .string c.pg, .string c.pa, .string c.pv, .string c.g, .string c.a, .string c.v, .string c.pk, .slice c1 c.ps.length ck1, .slice c2 c.ms.length ck2, .slice c3 c.ds.length ck3] 27) = w1 at hbt hnt htl ⊢
  obtain ⟨T, hTe⟩ : ∃ b, b = w0.heap.size := ⟨_, rfl⟩
  rw [← hTe] at hnt hbt htl ⊢
  have HT := Lib.hid hnt
  have HTL := Lib.hid htl
  have HTE := Lib.hid (rfl : T = T)
  have HB0 := Lib.hid (HB00.out.trans (hbt.mono (by rw [hTe]; exact HB00.out.size)))
  have HRa := Lib.hid (HRa0.out.below hbt (by rw [hTe]; exact Nat.le_refl _))
  have HRb := Lib.hid (HRb0.out.below hbt (by rw [hTe]; exact Nat.le_refl _))
  have HRc := Lib.hid (HRc0.out.below hbt (by rw [hTe]; exact Nat.le_refl _))
  have HS := Lib.hid (show S3 w1 A B C #[.bool a.hp, .string a.pg, .string a.pa, .string a.pv, .string a.g, .string a.a, .string a.v, .string a.pk, .slice a1 a.ps.length ak1, .slice a2 a.ms.length ak2, .slice a3 a.ds.length ak3] #[.bool b.hp, .string b.pg, .string b.pa, .string b.pv, .string b.g, .string b.a, .string b.v, .string b.pk, .slice b1 b.ps.length bk1, .slice b2 b.ms.length bk2, .slice b3 b.ds.length bk3] #[.bool c.hp, .string c.pg, .string c.pa, .string c.pv, .string c.g, .string c.a, .string c.v, .string c.pk, .slice c1 c.ps.length ck1, .slice c2 c.ms.length ck2, .slice c3 c.ds.length ck3] w1 from ⟨(hbt.block A (by rw [hTe]; exact (Array.getElem?_eq_some_iff.1 HXA.out).1)).trans HXA.out, ⟨(hbt.block B (by rw [hTe]; exact (Array.getElem?_eq_some_iff.1 HXB.out).1)).trans HXB.out, (hbt.block C (by rw [hTe]; exact (Array.getElem?_eq_some_iff.1 HXC.out).1)).trans HXC.out⟩, Below.refl _ _⟩)
  clear hbt hnt htl hTe HXA HXB HXC HRa0 HRb0 HRc0 HB00 ca0 ca1 ca2 ca3 ca4 ca5 ca6 ca7 ca8 ca9 ca10 cb0 cb1 cb2 cb3 cb4 cb5 cb6 cb7 cb8 cb9 cb10 cc0 cc1 cc2 cc3 cc4 cc5 cc6 cc7 cc8 cc9 cc10
  go_loopw [16] (fun i wr => (i = .int .i64 0 ∧ Below w1.heap.size w1 wr) ∨ (i = .int .i64 1 ∧ G10 a ∧ Below w1.heap.size w1 wr) ∨ (i = .int .i64 2 ∧ G10 a ∧ G10 b ∧ Below w1.heap.size w1 wr) ∨ (i = .int .i64 3 ∧ G10 a ∧ G10 b ∧ G10 c ∧ Below w1.heap.size w1 wr)) (fun i _ => 3 - (intOf i).toNat)
  case atStart => exact .inl ⟨rfl, Below.refl _ _⟩
  case round =>
  rcases hrel with ⟨rfl, hbw⟩ | ⟨rfl, hga, hbw⟩ | ⟨rfl, hga, hgb, hbw⟩ | ⟨rfl, hga, hgb, hgc, hbw⟩
  · have HBR := Lib.hid hbw
    have hT := (hbw.block T (by rw [HTE.out]; exact HTL.out)).trans HT.out
    have t0 : wr.cell? ⟨T, 0, none⟩ = some (.bool a.hp) := by rw [cell_of_row wr T 0 _ _ (0, 0) hT]; rfl
    have t1 : wr.cell? ⟨T, 1, none⟩ = some (.string a.pg) := by rw [cell_of_row wr T 1 _ _ (0, 0) hT]; rfl
    have t2 : wr.cell? ⟨T, 2, none⟩ = some (.string a.pa) := by rw [cell_of_row wr T 2 _ _ (0, 0) hT]; rfl
    have t3 : wr.cell? ⟨T, 3, none⟩ = some (.string a.pv) := by rw [cell_of_row wr T 3 _ _ (0, 0) hT]; rfl
    have t4 : wr.cell? ⟨T, 4, none⟩ = some (.string a.g) := by rw [cell_of_row wr T 4 _ _ (0, 0) hT]; rfl
    have t5 : wr.cell? ⟨T, 5, none⟩ = some (.string a.a) := by rw [cell_of_row wr T 5 _ _ (0, 0) hT]; rfl
    have t6 : wr.cell? ⟨T, 6, none⟩ = some (.string a.v) := by rw [cell_of_row wr T 6 _ _ (0, 0) hT]; rfl
    have t7 : wr.cell? ⟨T, 7, none⟩ = some (.string a.pk) := by rw [cell_of_row wr T 7 _ _ (0, 0) hT]; rfl
    have t8 : wr.cell? ⟨T, 8, none⟩ = some (.slice a1 a.ps.length ak1) := by rw [cell_of_row wr T 8 _ _ (0, 0) hT]; rfl
    have t9 : wr.cell? ⟨T, 9, none⟩ = some (.slice a2 a.ms.length ak2) := by rw [cell_of_row wr T 9 _ _ (0, 0) hT]; rfl
    have t10 : wr.cell? ⟨T, 10, none⟩ = some (.slice a3 a.ds.length ak3) := by rw [cell_of_row wr T 10 _ _ (0, 0) hT]; rfl
    have hbb : Below wr.heap.size wr (wr.alloc (.cells #[.bool a.hp, .string a.pg, .string a.pa, .string a.pv, .string a.g, .string a.a, .string a.v, .string a.pk, .slice a1 a.ps.length ak1, .slice a2 a.ms.length ak2, .slice a3 a.ds.length ak3] 27)) := (Below.refl _ _).alloc (Nat.le_refl _) _
    have hnew := heap_alloc_new wr (.cells #[.bool a.hp, .string a.pg, .string a.pa, .string a.pv, .string a.g, .string a.a, .string a.v, .string a.pk, .slice a1 a.ps.length ak1, .slice a2 a.ms.length ak2, .slice a3 a.ds.length ak3] 27)
    have HBB := Lib.hid hbb
    clear hbw hT hbb 
    go_upto_region 4 with fail
    generalize wr.alloc (.cells #[.bool a.hp, .string a.pg, .string a.pa, .string a.pv, .string a.g, .string a.a, .string a.v, .string a.pk, .slice a1 a.ps.length ak1, .slice a2 a.ms.length ak2, .slice a3 a.ds.length ak3] 27) = wb at hnew HBB ⊢
    obtain ⟨KB, hKB⟩ : ∃ b, b = wr.heap.size := ⟨_, rfl⟩
    rw [← hKB] at hnew ⊢
    have HKB := Lib.hid hKB
    have HN := Lib.hid hnew
    clear hKB t0 t1 t2 t3 t4 t5 t6 t7 t8 t9 t10
    have r0 : wb.cell? ⟨KB, 0, none⟩ = some (.bool a.hp) := by rw [cell_of_row wb KB 0 _ _ (0, 0) hnew]; rfl
    have r1 : wb.cell? ⟨KB, 1, none⟩ = some (.string a.pg) := by rw [cell_of_row wb KB 1 _ _ (0, 0) hnew]; rfl
    have r2 : wb.cell? ⟨KB, 2, none⟩ = some (.string a.pa) := by rw [cell_of_row wb KB 2 _ _ (0, 0) hnew]; rfl
    have r3 : wb.cell? ⟨KB, 3, none⟩ = some (.string a.pv) := by rw [cell_of_row wb KB 3 _ _ (0, 0) hnew]; rfl
    have r4 : wb.cell? ⟨KB, 4, none⟩ = some (.string a.g) := by rw [cell_of_row wb KB 4 _ _ (0, 0) hnew]; rfl
    have r5 : wb.cell? ⟨KB, 5, none⟩ = some (.string a.a) := by rw [cell_of_row wb KB 5 _ _ (0, 0) hnew]; rfl
    have r6 : wb.cell? ⟨KB, 6, none⟩ = some (.string a.v) := by rw [cell_of_row wb KB 6 _ _ (0, 0) hnew]; rfl
    have r7 : wb.cell? ⟨KB, 7, none⟩ = some (.string a.pk) := by rw [cell_of_row wb KB 7 _ _ (0, 0) hnew]; rfl
    have r8 : wb.cell? ⟨KB, 8, none⟩ = some (.slice a1 a.ps.length ak1) := by rw [cell_of_row wb KB 8 _ _ (0, 0) hnew]; rfl
    have r9 : wb.cell? ⟨KB, 9, none⟩ = some (.slice a2 a.ms.length ak2) := by rw [cell_of_row wb KB 9 _ _ (0, 0) hnew]; rfl
    have r10 : wb.cell? ⟨KB, 10, none⟩ = some (.slice a3 a.ds.length ak3) := by rw [cell_of_row wb KB 10 _ _ (0, 0) hnew]; rfl
    clear hnew
    have HB4 := Lib.hid (HBR.out.trans (HBB.out.mono HBR.out.size))
    have HR4 := Lib.hid (HRa.out.below HB4.out (Nat.le_refl _))
    go_wp2_with fail
    refine (HLa.out _ HR4.out).mono ?_
    rintro e w4 ⟨lb, rfl, hlb, hb4⟩
    have HLB := Lib.hid hlb
    have HB5 := Lib.hid (HB4.out.trans (hb4.mono HB4.out.size))
    have hN4 := (hb4.block KB (Array.getElem?_eq_some_iff.1 HN.out).1).trans HN.out
    have HN4 := Lib.hid hN4
    have HR5 := Lib.hid (HR4.out.below hb4 (Nat.le_refl _))
    clear r0 r1 r2 r3 r4 r5 r6 r7 r8 r9 r10 hlb hb4
    cases lb
    · go_wp2_with fail
      refine (HLV.out _).mono ?_
      rintro e wz ⟨rfl, hbz⟩
      have HZ := Lib.hid (HB0.out.trans ((HB5.out.trans (hbz.mono HB5.out.size)).mono HB0.out.size))
      clear hbz
      go_wp2
      go_ret
      exact ⟨rfl, HZ.out⟩
    have q8 : w4.cell? ⟨KB, 8, none⟩ = some (.slice a1 a.ps.length ak1) := by rw [cell_of_row w4 KB 8 _ _ (0, 0) hN4]; rfl
    have hls := HLB.out rfl
    have HLS := Lib.hid hls
    have hlen : a.ps.length ≤ 30 := hls.1
    have hlenI : (a.ps.length : Int) ≤ 30 := by omega
    clear hN4 HLB hls
    go_wp2_with fail
    clear q8
    go_loopw [27] (fun i wr => ∃ k : Nat, k ≤ a.ps.length ∧ i = .int .i64 k ∧ (∀ (j : Nat) p, j < k → a.ps[j]? = some p → atI a.ps p.n = j) ∧ Below w4.heap.size w4 wr) (fun i _ => a.ps.length - (intOf i).toNat)
    case atStart => exact ⟨0, by omega, rfl, fun j p h => absurd h (by omega), Below.refl _ _⟩
    case round =>
      obtain ⟨k, hk, rfl, hat, hbw⟩ := hrel
      have HAT := Lib.hid hat
      have HBW := Lib.hid hbw
      have HBW1 := Lib.hid (HB5.out.trans (hbw.mono HB5.out.size))
      clear hat
      by_cases hlt : k < a.ps.length
      · obtain ⟨x, hx⟩ : ∃ x, a.ps[k]? = some x := ⟨_, List.getElem?_eq_getElem hlt⟩
        obtain ⟨x1, e1, p0, p1⟩ := RdSl.elem (HR5.out.p.below hbw (Nat.le_refl _)) hx
        subst e1
        have HX := Lib.hid hx
        have hbx : Below wr.heap.size wr (wr.alloc (.cells #[.string x.n, .string x.v] 36)) := (Below.refl _ _).alloc (Nat.le_refl _) _
        have hnx := heap_alloc_new wr (.cells #[.string x.n, .string x.v] 36)
        have HBXX := Lib.hid hbx
        clear hbx hx hbw
        go_upto_region 9 with fail
        generalize wr.alloc (.cells #[.string x.n, .string x.v] 36) = wx at hnx HBXX ⊢
        obtain ⟨KX, hKX⟩ : ∃ b, b = wr.heap.size := ⟨_, rfl⟩
        rw [← hKX] at hnx ⊢
        clear hKX p0 p1
        have x0 : wx.cell? ⟨KX, 0, none⟩ = some (.string x.n) := by rw [cell_of_row wx KX 0 _ _ (0, 0) hnx]; rfl
        have HBX4 := Lib.hid (HBW.out.trans (HBXX.out.mono HBW.out.size))
        have HBX1 := Lib.hid (HBW1.out.trans (HBXX.out.mono HBW1.out.size))
        have hNx := (HBX4.out.block KB (Array.getElem?_eq_some_iff.1 HN4.out).1).trans HN4.out
        have q8 : wx.cell? ⟨KB, 8, none⟩ = some (.slice (some x1) a.ps.length ak1) := by rw [cell_of_row wx KB 8 _ _ (0, 0) hNx]; rfl
        have HOP := Lib.hid (At_any a.ps x.n _ wx (HR5.out.p.below HBX4.out (Nat.le_refl _)))
        clear hnx hNx
        go_wp2_with fail
        refine HOP.out.mono ?_
        rintro e w6 ⟨rfl, hb6⟩
        have HB6 := Lib.hid (HBX1.out.trans (hb6.mono HBX1.out.size))
        have HB64 := Lib.hid (HBX4.out.trans (hb6.mono HBX4.out.size))
        generalize hz : atI a.ps x.n = z
        have HZA := Lib.hid hz
        clear hz hb6 x0 q8 HOP
        by_cases hq : z = (k : Int)
        · have HQ := Lib.hid hq
          subst hq
          go_wp2
          go_roundw
          case rel => exact ⟨k + 1, by omega, by go_num, (fun j p hj hp => by
            by_cases hjk : j < k
            · exact HAT.out j p hjk hp
            · have : j = k := by omega
              subst this
              rw [HX.out] at hp
              cases hp
              exact HZA.out), HB64.out⟩
          case measure => simp [intOf]; omega
        · have hne : (z != (k : Int)) = true := by simpa using hq
          go_wp2_with fail
          refine (HLV.out _).mono ?_
          rintro e wz ⟨rfl, hbz⟩
          have HZ := Lib.hid (HB0.out.trans ((HB6.out.trans (hbz.mono HB6.out.size)).mono HB0.out.size))
          clear hbz
          go_wp2
          go_ret
          exact ⟨rfl, HZ.out⟩
      · have hle : (a.ps.length : Int) ≤ k := by omega
        have hgy : G10 a := ⟨HLS.out, dist_of (fun j p hp => HAT.out j p (by have := (List.getElem?_eq_some_iff.1 hp).1; omega) hp)⟩
        have HGY := Lib.hid hgy
        clear hgy hbw
        go_wp2
        go_roundw
        case rel => exact .inr (.inl ⟨rfl, HGY.out, HBW1.out⟩)
        case measure => simp [intOf]
  · have HBR := Lib.hid hbw
    have HGA := Lib.hid hga
    have hT := (hbw.block T (by rw [HTE.out]; exact HTL.out)).trans HT.out
    have t0 : wr.cell? ⟨T, 11, none⟩ = some (.bool b.hp) := by rw [cell_of_row wr T 11 _ _ (0, 0) hT]; rfl
    have t1 : wr.cell? ⟨T, 12, none⟩ = some (.string b.pg) := by rw [cell_of_row wr T 12 _ _ (0, 0) hT]; rfl
    have t2 : wr.cell? ⟨T, 13, none⟩ = some (.string b.pa) := by rw [cell_of_row wr T 13 _ _ (0, 0) hT]; rfl
    have t3 : wr.cell? ⟨T, 14, none⟩ = some (.string b.pv) := by rw [cell_of_row wr T 14 _ _ (0, 0) hT]; rfl
    have t4 : wr.cell? ⟨T, 15, none⟩ = some (.string b.g) := by rw [cell_of_row wr T 15 _ _ (0, 0) hT]; rfl
    have t5 : wr.cell? ⟨T, 16, none⟩ = some (.string b.a) := by rw [cell_of_row wr T 16 _ _ (0, 0) hT]; rfl
    have t6 : wr.cell? ⟨T, 17, none⟩ = some (.string b.v) := by rw [cell_of_row wr T 17 _ _ (0, 0) hT]; rfl
    have t7 : wr.cell? ⟨T, 18, none⟩ = some (.string b.pk) := by rw [cell_of_row wr T 18 _ _ (0, 0) hT]; rfl
    have t8 : wr.cell? ⟨T, 19, none⟩ = some (.slice b1 b.ps.length bk1) := by rw [cell_of_row wr T 19 _ _ (0, 0) hT]; rfl
    have t9 : wr.cell? ⟨T, 20, none⟩ = some (.slice b2 b.ms.length bk2) := by rw [cell_of_row wr T 20 _ _ (0, 0) hT]; rfl
    have t10 : wr.cell? ⟨T, 21, none⟩ = some (.slice b3 b.ds.length bk3) := by rw [cell_of_row wr T 21 _ _ (0, 0) hT]; rfl
    have hbb : Below wr.heap.size wr (wr.alloc (.cells #[.bool b.hp, .string b.pg, .string b.pa, .string b.pv, .string b.g, .string b.a, .string b.v, .string b.pk, .slice b1 b.ps.length bk1, .slice b2 b.ms.length bk2, .slice b3 b.ds.length bk3] 27)) := (Below.refl _ _).alloc (Nat.le_refl _) _
    have hnew := heap_alloc_new wr (.cells #[.bool b.hp, .string b.pg, .string b.pa, .string b.pv, .string b.g, .string b.a, .string b.v, .string b.pk, .slice b1 b.ps.length bk1, .slice b2 b.ms.length bk2, .slice b3 b.ds.length bk3] 27)
    have HBB := Lib.hid hbb
    clear hbw hT hbb hga
    go_upto_region 4 with fail
    generalize wr.alloc (.cells #[.bool b.hp, .string b.pg, .string b.pa, .string b.pv, .string b.g, .string b.a, .string b.v, .string b.pk, .slice b1 b.ps.length bk1, .slice b2 b.ms.length bk2, .slice b3 b.ds.length bk3] 27) = wb at hnew HBB ⊢
    obtain ⟨KB, hKB⟩ : ∃ b, b = wr.heap.size := ⟨_, rfl⟩
    rw [← hKB] at hnew ⊢
    have HKB := Lib.hid hKB
    have HN := Lib.hid hnew
    clear hKB t0 t1 t2 t3 t4 t5 t6 t7 t8 t9 t10
    have r0 : wb.cell? ⟨KB, 0, none⟩ = some (.bool b.hp) := by rw [cell_of_row wb KB 0 _ _ (0, 0) hnew]; rfl
    have r1 : wb.cell? ⟨KB, 1, none⟩ = some (.string b.pg) := by rw [cell_of_row wb KB 1 _ _ (0, 0) hnew]; rfl
    have r2 : wb.cell? ⟨KB, 2, none⟩ = some (.string b.pa) := by rw [cell_of_row wb KB 2 _ _ (0, 0) hnew]; rfl
    have r3 : wb.cell? ⟨KB, 3, none⟩ = some (.string b.pv) := by rw [cell_of_row wb KB 3 _ _ (0, 0) hnew]; rfl
    have r4 : wb.cell? ⟨KB, 4, none⟩ = some (.string b.g) := by rw [cell_of_row wb KB 4 _ _ (0, 0) hnew]; rfl
    have r5 : wb.cell? ⟨KB, 5, none⟩ = some (.string b.a) := by rw [cell_of_row wb KB 5 _ _ (0, 0) hnew]; rfl
    have r6 : wb.cell? ⟨KB, 6, none⟩ = some (.string b.v) := by rw [cell_of_row wb KB 6 _ _ (0, 0) hnew]; rfl
    have r7 : wb.cell? ⟨KB, 7, none⟩ = some (.string b.pk) := by rw [cell_of_row wb KB 7 _ _ (0, 0) hnew]; rfl
    have r8 : wb.cell? ⟨KB, 8, none⟩ = some (.slice b1 b.ps.length bk1) := by rw [cell_of_row wb KB 8 _ _ (0, 0) hnew]; rfl
    have r9 : wb.cell? ⟨KB, 9, none⟩ = some (.slice b2 b.ms.length bk2) := by rw [cell_of_row wb KB 9 _ _ (0, 0) hnew]; rfl
    have r10 : wb.cell? ⟨KB, 10, none⟩ = some (.slice b3 b.ds.length bk3) := by rw [cell_of_row wb KB 10 _ _ (0, 0) hnew]; rfl
    clear hnew
    have HB4 := Lib.hid (HBR.out.trans (HBB.out.mono HBR.out.size))
    have HR4 := Lib.hid (HRb.out.below HB4.out (Nat.le_refl _))
    go_wp2_with fail
    refine (HLb.out _ HR4.out).mono ?_
    rintro e w4 ⟨lb, rfl, hlb, hb4⟩
    have HLB := Lib.hid hlb
    have HB5 := Lib.hid (HB4.out.trans (hb4.mono HB4.out.size))
    have hN4 := (hb4.block KB (Array.getElem?_eq_some_iff.1 HN.out).1).trans HN.out
    have HN4 := Lib.hid hN4
    have HR5 := Lib.hid (HR4.out.below hb4 (Nat.le_refl _))
    clear r0 r1 r2 r3 r4 r5 r6 r7 r8 r9 r10 hlb hb4
    cases lb
    · go_wp2_with fail
      refine (HLV.out _).mono ?_
      rintro e wz ⟨rfl, hbz⟩
      have HZ := Lib.hid (HB0.out.trans ((HB5.out.trans (hbz.mono HB5.out.size)).mono HB0.out.size))
      clear hbz
      go_wp2
      go_ret
      exact ⟨rfl, HZ.out⟩
    have q8 : w4.cell? ⟨KB, 8, none⟩ = some (.slice b1 b.ps.length bk1) := by rw [cell_of_row w4 KB 8 _ _ (0, 0) hN4]; rfl
    have hls := HLB.out rfl
    have HLS := Lib.hid hls
    have hlen : b.ps.length ≤ 30 := hls.1
    have hlenI : (b.ps.length : Int) ≤ 30 := by omega
    clear hN4 HLB hls
    go_wp2_with fail
    clear q8
    go_loopw [27] (fun i wr => ∃ k : Nat, k ≤ b.ps.length ∧ i = .int .i64 k ∧ (∀ (j : Nat) p, j < k → b.ps[j]? = some p → atI b.ps p.n = j) ∧ Below w4.heap.size w4 wr) (fun i _ => b.ps.length - (intOf i).toNat)
    case atStart => exact ⟨0, by omega, rfl, fun j p h => absurd h (by omega), Below.refl _ _⟩
    case round =>
      obtain ⟨k, hk, rfl, hat, hbw⟩ := hrel
      have HAT := Lib.hid hat
      have HBW := Lib.hid hbw
      have HBW1 := Lib.hid (HB5.out.trans (hbw.mono HB5.out.size))
      clear hat
      by_cases hlt : k < b.ps.length
      · obtain ⟨x, hx⟩ : ∃ x, b.ps[k]? = some x := ⟨_, List.getElem?_eq_getElem hlt⟩
        obtain ⟨x1, e1, p0, p1⟩ := RdSl.elem (HR5.out.p.below hbw (Nat.le_refl _)) hx
        subst e1
        have HX := Lib.hid hx
        have hbx : Below wr.heap.size wr (wr.alloc (.cells #[.string x.n, .string x.v] 36)) := (Below.refl _ _).alloc (Nat.le_refl _) _
        have hnx := heap_alloc_new wr (.cells #[.string x.n, .string x.v] 36)
        have HBXX := Lib.hid hbx
        clear hbx hx hbw
        go_upto_region 9 with fail
        generalize wr.alloc (.cells #[.string x.n, .string x.v] 36) = wx at hnx HBXX ⊢
        obtain ⟨KX, hKX⟩ : ∃ b, b = wr.heap.size := ⟨_, rfl⟩
        rw [← hKX] at hnx ⊢
        clear hKX p0 p1
        have x0 : wx.cell? ⟨KX, 0, none⟩ = some (.string x.n) := by rw [cell_of_row wx KX 0 _ _ (0, 0) hnx]; rfl
        have HBX4 := Lib.hid (HBW.out.trans (HBXX.out.mono HBW.out.size))
        have HBX1 := Lib.hid (HBW1.out.trans (HBXX.out.mono HBW1.out.size))
        have hNx := (HBX4.out.block KB (Array.getElem?_eq_some_iff.1 HN4.out).1).trans HN4.out
        have q8 : wx.cell? ⟨KB, 8, none⟩ = some (.slice (some x1) b.ps.length bk1) := by rw [cell_of_row wx KB 8 _ _ (0, 0) hNx]; rfl
        have HOP := Lib.hid (At_any b.ps x.n _ wx (HR5.out.p.below HBX4.out (Nat.le_refl _)))
        clear hnx hNx
        go_wp2_with fail
        refine HOP.out.mono ?_
        rintro e w6 ⟨rfl, hb6⟩
        have HB6 := Lib.hid (HBX1.out.trans (hb6.mono HBX1.out.size))
        have HB64 := Lib.hid (HBX4.out.trans (hb6.mono HBX4.out.size))
        generalize hz : atI b.ps x.n = z
        have HZA := Lib.hid hz
        clear hz hb6 x0 q8 HOP
        by_cases hq : z = (k : Int)
        · have HQ := Lib.hid hq
          subst hq
          go_wp2
          go_roundw
          case rel => exact ⟨k + 1, by omega, by go_num, (fun j p hj hp => by
            by_cases hjk : j < k
            · exact HAT.out j p hjk hp
            · have : j = k := by omega
              subst this
              rw [HX.out] at hp
              cases hp
              exact HZA.out), HB64.out⟩
          case measure => simp [intOf]; omega
        · have hne : (z != (k : Int)) = true := by simpa using hq
          go_wp2_with fail
          refine (HLV.out _).mono ?_
          rintro e wz ⟨rfl, hbz⟩
          have HZ := Lib.hid (HB0.out.trans ((HB6.out.trans (hbz.mono HB6.out.size)).mono HB0.out.size))
          clear hbz
          go_wp2
          go_ret
          exact ⟨rfl, HZ.out⟩
      · have hle : (b.ps.length : Int) ≤ k := by omega
        have hgy : G10 b := ⟨HLS.out, dist_of (fun j p hp => HAT.out j p (by have := (List.getElem?_eq_some_iff.1 hp).1; omega) hp)⟩
        have HGY := Lib.hid hgy
        clear hgy hbw
        go_wp2
        go_roundw
        case rel => exact .inr (.inr (.inl ⟨rfl, HGA.out, HGY.out, HBW1.out⟩))
        case measure => simp [intOf]
  · have HBR := Lib.hid hbw
    have HGA := Lib.hid hga
    have HGB := Lib.hid hgb
    have hT := (hbw.block T (by rw [HTE.out]; exact HTL.out)).trans HT.out
    have t0 : wr.cell? ⟨T, 22, none⟩ = some (.bool c.hp) := by rw [cell_of_row wr T 22 _ _ (0, 0) hT]; rfl
    have t1 : wr.cell? ⟨T, 23, none⟩ = some (.string c.pg) := by rw [cell_of_row wr T 23 _ _ (0, 0) hT]; rfl
    have t2 : wr.cell? ⟨T, 24, none⟩ = some (.string c.pa) := by rw [cell_of_row wr T 24 _ _ (0, 0) hT]; rfl
    have t3 : wr.cell? ⟨T, 25, none⟩ = some (.string c.pv) := by rw [cell_of_row wr T 25 _ _ (0, 0) hT]; rfl
    have t4 : wr.cell? ⟨T, 26, none⟩ = some (.string c.g) := by rw [cell_of_row wr T 26 _ _ (0, 0) hT]; rfl
    have t5 : wr.cell? ⟨T, 27, none⟩ = some (.string c.a) := by rw [cell_of_row wr T 27 _ _ (0, 0) hT]; rfl
    have t6 : wr.cell? ⟨T, 28, none⟩ = some (.string c.v) := by rw [cell_of_row wr T 28 _ _ (0, 0) hT]; rfl
    have t7 : wr.cell? ⟨T, 29, none⟩ = some (.string c.pk) := by rw [cell_of_row wr T 29 _ _ (0, 0) hT]; rfl
    have t8 : wr.cell? ⟨T, 30, none⟩ = some (.slice c1 c.ps.length ck1) := by rw [cell_of_row wr T 30 _ _ (0, 0) hT]; rfl
    have t9 : wr.cell? ⟨T, 31, none⟩ = some (.slice c2 c.ms.length ck2) := by rw [cell_of_row wr T 31 _ _ (0, 0) hT]; rfl
    have t10 : wr.cell? ⟨T, 32, none⟩ = some (.slice c3 c.ds.length ck3) := by rw [cell_of_row wr T 32 _ _ (0, 0) hT]; rfl
    have hbb : Below wr.heap.size wr (wr.alloc (.cells #[.bool c.hp, .string c.pg, .string c.pa, .string c.pv, .string c.g, .string c.a, .string c.v, .string c.pk, .slice c1 c.ps.length ck1, .slice c2 c.ms.length ck2, .slice c3 c.ds.length ck3] 27)) := (Below.refl _ _).alloc (Nat.le_refl _) _
    have hnew := heap_alloc_new wr (.cells #[.bool c.hp, .string c.pg, .string c.pa, .string c.pv, .string c.g, .string c.a, .string c.v, .string c.pk, .slice c1 c.ps.length ck1, .slice c2 c.ms.length ck2, .slice c3 c.ds.length ck3] 27)
    have HBB := Lib.hid hbb
    clear hbw hT hbb hga hgb
    go_upto_region 4 with fail
    generalize wr.alloc (.cells #[.bool c.hp, .string c.pg, .string c.pa, .string c.pv, .string c.g, .string c.a, .string c.v, .string c.pk, .slice c1 c.ps.length ck1, .slice c2 c.ms.length ck2, .slice c3 c.ds.length ck3] 27) = wb at hnew HBB ⊢
    obtain ⟨KB, hKB⟩ : ∃ b, b = wr.heap.size := ⟨_, rfl⟩
    rw [← hKB] at hnew ⊢
    have HKB := Lib.hid hKB
    have HN := Lib.hid hnew
    clear hKB t0 t1 t2 t3 t4 t5 t6 t7 t8 t9 t10
    have r0 : wb.cell? ⟨KB, 0, none⟩ = some (.bool c.hp) := by rw [cell_of_row wb KB 0 _ _ (0, 0) hnew]; rfl
    have r1 : wb.cell? ⟨KB, 1, none⟩ = some (.string c.pg) := by rw [cell_of_row wb KB 1 _ _ (0, 0) hnew]; rfl
    have r2 : wb.cell? ⟨KB, 2, none⟩ = some (.string c.pa) := by rw [cell_of_row wb KB 2 _ _ (0, 0) hnew]; rfl
    have r3 : wb.cell? ⟨KB, 3, none⟩ = some (.string c.pv) := by rw [cell_of_row wb KB 3 _ _ (0, 0) hnew]; rfl
    have r4 : wb.cell? ⟨KB, 4, none⟩ = some (.string c.g) := by rw [cell_of_row wb KB 4 _ _ (0, 0) hnew]; rfl
    have r5 : wb.cell? ⟨KB, 5, none⟩ = some (.string c.a) := by rw [cell_of_row wb KB 5 _ _ (0, 0) hnew]; rfl
    have r6 : wb.cell? ⟨KB, 6, none⟩ = some (.string c.v) := by rw [cell_of_row wb KB 6 _ _ (0, 0) hnew]; rfl
    have r7 : wb.cell? ⟨KB, 7, none⟩ = some (.string c.pk) := by rw [cell_of_row wb KB 7 _ _ (0, 0) hnew]; rfl
    have r8 : wb.cell? ⟨KB, 8, none⟩ = some (.slice c1 c.ps.length ck1) := by rw [cell_of_row wb KB 8 _ _ (0, 0) hnew]; rfl
    have r9 : wb.cell? ⟨KB, 9, none⟩ = some (.slice c2 c.ms.length ck2) := by rw [cell_of_row wb KB 9 _ _ (0, 0) hnew]; rfl
    have r10 : wb.cell? ⟨KB, 10, none⟩ = some (.slice c3 c.ds.length ck3) := by rw [cell_of_row wb KB 10 _ _ (0, 0) hnew]; rfl
    clear hnew
    have HB4 := Lib.hid (HBR.out.trans (HBB.out.mono HBR.out.size))
    have HR4 := Lib.hid (HRc.out.below HB4.out (Nat.le_refl _))
    go_wp2_with fail
    refine (HLc.out _ HR4.out).mono ?_
    rintro e w4 ⟨lb, rfl, hlb, hb4⟩
    have HLB := Lib.hid hlb
    have HB5 := Lib.hid (HB4.out.trans (hb4.mono HB4.out.size))
    have hN4 := (hb4.block KB (Array.getElem?_eq_some_iff.1 HN.out).1).trans HN.out
    have HN4 := Lib.hid hN4
    have HR5 := Lib.hid (HR4.out.below hb4 (Nat.le_refl _))
    clear r0 r1 r2 r3 r4 r5 r6 r7 r8 r9 r10 hlb hb4
    cases lb
    · go_wp2_with fail
      refine (HLV.out _).mono ?_
      rintro e wz ⟨rfl, hbz⟩
      have HZ := Lib.hid (HB0.out.trans ((HB5.out.trans (hbz.mono HB5.out.size)).mono HB0.out.size))
      clear hbz
      go_wp2
      go_ret
      exact ⟨rfl, HZ.out⟩
    have q8 : w4.cell? ⟨KB, 8, none⟩ = some (.slice c1 c.ps.length ck1) := by rw [cell_of_row w4 KB 8 _ _ (0, 0) hN4]; rfl
    have hls := HLB.out rfl
    have HLS := Lib.hid hls
    have hlen : c.ps.length ≤ 30 := hls.1
    have hlenI : (c.ps.length : Int) ≤ 30 := by omega
    clear hN4 HLB hls
    go_wp2_with fail
    clear q8
    go_loopw [27] (fun i wr => ∃ k : Nat, k ≤ c.ps.length ∧ i = .int .i64 k ∧ (∀ (j : Nat) p, j < k → c.ps[j]? = some p → atI c.ps p.n = j) ∧ Below w4.heap.size w4 wr) (fun i _ => c.ps.length - (intOf i).toNat)
    case atStart => exact ⟨0, by omega, rfl, fun j p h => absurd h (by omega), Below.refl _ _⟩
    case round =>
      obtain ⟨k, hk, rfl, hat, hbw⟩ := hrel
      have HAT := Lib.hid hat
      have HBW := Lib.hid hbw
      have HBW1 := Lib.hid (HB5.out.trans (hbw.mono HB5.out.size))
      clear hat
      by_cases hlt : k < c.ps.length
      · obtain ⟨x, hx⟩ : ∃ x, c.ps[k]? = some x := ⟨_, List.getElem?_eq_getElem hlt⟩
        obtain ⟨x1, e1, p0, p1⟩ := RdSl.elem (HR5.out.p.below hbw (Nat.le_refl _)) hx
        subst e1
        have HX := Lib.hid hx
        have hbx : Below wr.heap.size wr (wr.alloc (.cells #[.string x.n, .string x.v] 36)) := (Below.refl _ _).alloc (Nat.le_refl _) _
        have hnx := heap_alloc_new wr (.cells #[.string x.n, .string x.v] 36)
        have HBXX := Lib.hid hbx
        clear hbx hx hbw
        go_upto_region 9 with fail
        generalize wr.alloc (.cells #[.string x.n, .string x.v] 36) = wx at hnx HBXX ⊢
        obtain ⟨KX, hKX⟩ : ∃ b, b = wr.heap.size := ⟨_, rfl⟩
        rw [← hKX] at hnx ⊢
        clear hKX p0 p1
        have x0 : wx.cell? ⟨KX, 0, none⟩ = some (.string x.n) := by rw [cell_of_row wx KX 0 _ _ (0, 0) hnx]; rfl
        have HBX4 := Lib.hid (HBW.out.trans (HBXX.out.mono HBW.out.size))
        have HBX1 := Lib.hid (HBW1.out.trans (HBXX.out.mono HBW1.out.size))
        have hNx := (HBX4.out.block KB (Array.getElem?_eq_some_iff.1 HN4.out).1).trans HN4.out
        have q8 : wx.cell? ⟨KB, 8, none⟩ = some (.slice (some x1) c.ps.length ck1) := by rw [cell_of_row wx KB 8 _ _ (0, 0) hNx]; rfl
        have HOP := Lib.hid (At_any c.ps x.n _ wx (HR5.out.p.below HBX4.out (Nat.le_refl _)))
        clear hnx hNx
        go_wp2_with fail
        refine HOP.out.mono ?_
        rintro e w6 ⟨rfl, hb6⟩
        have HB6 := Lib.hid (HBX1.out.trans (hb6.mono HBX1.out.size))
        have HB64 := Lib.hid (HBX4.out.trans (hb6.mono HBX4.out.size))
        generalize hz : atI c.ps x.n = z
        have HZA := Lib.hid hz
        clear hz hb6 x0 q8 HOP
        by_cases hq : z = (k : Int)
        · have HQ := Lib.hid hq
          subst hq
          go_wp2
          go_roundw
          case rel => exact ⟨k + 1, by omega, by go_num, (fun j p hj hp => by
            by_cases hjk : j < k
            · exact HAT.out j p hjk hp
            · have : j = k := by omega
              subst this
              rw [HX.out] at hp
              cases hp
              exact HZA.out), HB64.out⟩
          case measure => simp [intOf]; omega
        · have hne : (z != (k : Int)) = true := by simpa using hq
          go_wp2_with fail
          refine (HLV.out _).mono ?_
          rintro e wz ⟨rfl, hbz⟩
          have HZ := Lib.hid (HB0.out.trans ((HB6.out.trans (hbz.mono HB6.out.size)).mono HB0.out.size))
          clear hbz
          go_wp2
          go_ret
          exact ⟨rfl, HZ.out⟩
      · have hle : (c.ps.length : Int) ≤ k := by omega
        have hgy : G10 c := ⟨HLS.out, dist_of (fun j p hp => HAT.out j p (by have := (List.getElem?_eq_some_iff.1 hp).1; omega) hp)⟩
        have HGY := Lib.hid hgy
        clear hgy hbw
        go_wp2
        go_roundw
        case rel => exact .inr (.inr (.inr ⟨rfl, HGA.out, HGB.out, HGY.out, HBW1.out⟩))
        case measure => simp [intOf]
  · have HOA := Lib.hid (ok_of HOK.out hga.1)
    have HOB := Lib.hid (ok_of HOK2.out hgb.1)
    have HOC := Lib.hid (ok_of HOK3.out hgc.1)
    have HOBC := Lib.hid (merge_ok HOB.out HOC.out (by have := hgb.1.1; have := hgc.1.1; omega) (by have := hgb.1.2.1; have := hgc.1.2.1; omega) (by have := hgb.1.2.2.1; have := hgc.1.2.2.1; omega))
    have HOAB := Lib.hid (merge_ok HOA.out HOB.out (by have := hga.1.1; have := hgb.1.1; omega) (by have := hga.1.2.1; have := hgb.1.2.1; omega) (by have := hga.1.2.2.1; have := hgb.1.2.2.1; omega))
    obtain ⟨bc, hbc⟩ : ∃ x, x = mergeM b c := ⟨_, rfl⟩
    obtain ⟨ab, hab⟩ : ∃ x, x = mergeM a b := ⟨_, rfl⟩
    rw [← hbc] at HOBC
    rw [← hab] at HOAB
    obtain ⟨z, hz⟩ : ∃ x, x = mergeM a bc := ⟨_, rfl⟩
    have hz2 : z = mergeM ab c := by rw [hz, hbc, hab]; exact merge_assoc a b c hgb.2
    have HM1 := Lib.hid (fun w' hb hc => Merge_x b c bc hbc (.slice b1 b.ps.length bk1) (.slice b2 b.ms.length bk2) (.slice b3 b.ds.length bk3) (.slice c1 c.ps.length ck1) (.slice c2 c.ms.length ck2) (.slice c3 c.ds.length ck3) w' hb hc HOB.out HOC.out)
    have HM2 := Lib.hid (fun w' (x1 x2 x3 : Value) ha hx => Merge_x a bc z hz (.slice a1 a.ps.length ak1) (.slice a2 a.ms.length ak2) (.slice a3 a.ds.length ak3) x1 x2 x3 w' ha hx HOA.out HOBC.out)
    have HM3 := Lib.hid (fun w' ha hb => Merge_x a b ab hab (.slice a1 a.ps.length ak1) (.slice a2 a.ms.length ak2) (.slice a3 a.ds.length ak3) (.slice b1 b.ps.length bk1) (.slice b2 b.ms.length bk2) (.slice b3 b.ds.length bk3) w' ha hb HOA.out HOB.out)
    have HM4 := Lib.hid (fun w' (x1 x2 x3 : Value) hx hc => Merge_x ab c z hz2 x1 x2 x3 (.slice c1 c.ps.length ck1) (.slice c2 c.ms.length ck2) (.slice c3 c.ds.length ck3) w' hx hc HOAB.out HOC.out)
    unfold pmV at HM1 HM2 HM3 HM4
    have HSR := Lib.hid (show S3 w1 A B C #[.bool a.hp, .string a.pg, .string a.pa, .string a.pv, .string a.g, .string a.a, .string a.v, .string a.pk, .slice a1 a.ps.length ak1, .slice a2 a.ms.length ak2, .slice a3 a.ds.length ak3] #[.bool b.hp, .string b.pg, .string b.pa, .string b.pv, .string b.g, .string b.a, .string b.v, .string b.pk, .slice b1 b.ps.length bk1, .slice b2 b.ms.length bk2, .slice b3 b.ds.length bk3] #[.bool c.hp, .string c.pg, .string c.pa, .string c.pv, .string c.g, .string c.a, .string c.v, .string c.pk, .slice c1 c.ps.length ck1, .slice c2 c.ms.length ck2, .slice c3 c.ds.length ck3] wr from ⟨(hbw.block A (Array.getElem?_eq_some_iff.1 HS.out.1).1).trans HS.out.1, ⟨(hbw.block B (Array.getElem?_eq_some_iff.1 HS.out.2.1.1).1).trans HS.out.2.1.1, (hbw.block C (Array.getElem?_eq_some_iff.1 HS.out.2.1.2).1).trans HS.out.2.1.2⟩, hbw⟩)
    clear hga hgb hgc hbc hab hz hz2 hbw HOA HOB HOC HOBC HOAB HLa HLb HLc HS HT HTL HOK HOK2 HOK3
    go_upto_region 13 with fail
    refine wp_region_held_drew (S := (S3 w1 A B C #[.bool a.hp, .string a.pg, .string a.pa, .string a.pv, .string a.g, .string a.a, .string a.v, .string a.pk, .slice a1 a.ps.length ak1, .slice a2 a.ms.length ak2, .slice a3 a.ds.length ak3] #[.bool b.hp, .string b.pg, .string b.pa, .string b.pv, .string b.g, .string b.a, .string b.v, .string b.pk, .slice b1 b.ps.length bk1, .slice b2 b.ms.length bk2, .slice b3 b.ds.length bk3] #[.bool c.hp, .string c.pg, .string c.pa, .string c.pv, .string c.g, .string c.a, .string c.v, .string c.pk, .slice c1 c.ps.length ck1, .slice c2 c.ms.length ck2, .slice c3 c.ds.length ck3])) (by kernel_rfl) (by (try dsimp only); exact HSR.out.drew) (fun hHeld => ?_)
    generalize wr.drew = wd at hHeld ⊢
    refine wpAnyH_take (i := 0) (v := .agg #[.bool a.hp, .string a.pg, .string a.pa, .string a.pv, .string a.g, .string a.a, .string a.v, .string a.pk, .slice a1 a.ps.length ak1, .slice a2 a.ms.length ak2, .slice a3 a.ds.length ak3]) (by (simp only [List.getElem?_toArray, List.getElem?_cons_succ, List.getElem?_cons_zero]; rfl)) (by kernel_rfl) (by kernel_rfl) (by kernel_rfl) (by intro _ _ _ h; exact h) (yields_load_pom (by rfl) _ rfl A rfl #[.bool a.hp, .string a.pg, .string a.pa, .string a.pv, .string a.g, .string a.a, .string a.v, .string a.pk, .slice a1 a.ps.length ak1, .slice a2 a.ms.length ak2, .slice a3 a.ds.length ak3] rfl (fun w h => h.1)) (by assumption) ?_
    simp only [Act.put, List.setIfInBounds_toArray, List.set_cons_zero, List.set_cons_succ]
    refine wpAnyH_take (i := 1) (v := .agg #[.bool b.hp, .string b.pg, .string b.pa, .string b.pv, .string b.g, .string b.a, .string b.v, .string b.pk, .slice b1 b.ps.length bk1, .slice b2 b.ms.length bk2, .slice b3 b.ds.length bk3]) (by (simp only [List.getElem?_toArray, List.getElem?_cons_succ, List.getElem?_cons_zero]; rfl)) (by kernel_rfl) (by kernel_rfl) (by kernel_rfl) (by intro _ _ _ h; exact h) (yields_load_pom (by rfl) _ rfl B rfl #[.bool b.hp, .string b.pg, .string b.pa, .string b.pv, .string b.g, .string b.a, .string b.v, .string b.pk, .slice b1 b.ps.length bk1, .slice b2 b.ms.length bk2, .slice b3 b.ds.length bk3] rfl (fun w h => h.2.1.1)) (by assumption) ?_
    simp only [Act.put, List.setIfInBounds_toArray, List.set_cons_zero, List.set_cons_succ]
    refine wpAnyH_take (i := 2) (v := .agg #[.bool c.hp, .string c.pg, .string c.pa, .string c.pv, .string c.g, .string c.a, .string c.v, .string c.pk, .slice c1 c.ps.length ck1, .slice c2 c.ms.length ck2, .slice c3 c.ds.length ck3]) (by (simp only [List.getElem?_toArray, List.getElem?_cons_succ, List.getElem?_cons_zero]; rfl)) (by kernel_rfl) (by kernel_rfl) (by kernel_rfl) (by intro _ _ _ h; exact h) (yields_load_pom (by rfl) _ rfl C rfl #[.bool c.hp, .string c.pg, .string c.pa, .string c.pv, .string c.g, .string c.a, .string c.v, .string c.pk, .slice c1 c.ps.length ck1, .slice c2 c.ms.length ck2, .slice c3 c.ds.length ck3] rfl (fun w h => h.2.1.2)) (by assumption) ?_
    simp only [Act.put, List.setIfInBounds_toArray, List.set_cons_zero, List.set_cons_succ]
    refine wpAnyH_take (i := 5) (v := .agg #[.bool a.hp, .string a.pg, .string a.pa, .string a.pv, .string a.g, .string a.a, .string a.v, .string a.pk, .slice a1 a.ps.length ak1, .slice a2 a.ms.length ak2, .slice a3 a.ds.length ak3]) (by (simp only [List.getElem?_toArray, List.getElem?_cons_succ, List.getElem?_cons_zero]; rfl)) (by kernel_rfl) (by kernel_rfl) (by kernel_rfl) (by intro _ _ _ h; exact h) (yields_load_pom (by rfl) _ rfl A rfl #[.bool a.hp, .string a.pg, .string a.pa, .string a.pv, .string a.g, .string a.a, .string a.v, .string a.pk, .slice a1 a.ps.length ak1, .slice a2 a.ms.length ak2, .slice a3 a.ds.length ak3] rfl (fun w h => h.1)) (by assumption) ?_
    simp only [Act.put, List.setIfInBounds_toArray, List.set_cons_zero, List.set_cons_succ]
    refine wpAnyH_take (i := 6) (v := .agg #[.bool b.hp, .string b.pg, .string b.pa, .string b.pv, .string b.g, .string b.a, .string b.v, .string b.pk, .slice b1 b.ps.length bk1, .slice b2 b.ms.length bk2, .slice b3 b.ds.length bk3]) (by (simp only [List.getElem?_toArray, List.getElem?_cons_succ, List.getElem?_cons_zero]; rfl)) (by kernel_rfl) (by kernel_rfl) (by kernel_rfl) (by intro _ _ _ h; exact h) (yields_load_pom (by rfl) _ rfl B rfl #[.bool b.hp, .string b.pg, .string b.pa, .string b.pv, .string b.g, .string b.a, .string b.v, .string b.pk, .slice b1 b.ps.length bk1, .slice b2 b.ms.length bk2, .slice b3 b.ds.length bk3] rfl (fun w h => h.2.1.1)) (by assumption) ?_
    simp only [Act.put, List.setIfInBounds_toArray, List.set_cons_zero, List.set_cons_succ]
    refine wpAnyH_take (i := 8) (v := .agg #[.bool c.hp, .string c.pg, .string c.pa, .string c.pv, .string c.g, .string c.a, .string c.v, .string c.pk, .slice c1 c.ps.length ck1, .slice c2 c.ms.length ck2, .slice c3 c.ds.length ck3]) (by (simp only [List.getElem?_toArray, List.getElem?_cons_succ, List.getElem?_cons_zero]; rfl)) (by kernel_rfl) (by kernel_rfl) (by kernel_rfl) (by intro _ _ _ h; exact h) (yields_load_pom (by rfl) _ rfl C rfl #[.bool c.hp, .string c.pg, .string c.pa, .string c.pv, .string c.g, .string c.a, .string c.v, .string c.pk, .slice c1 c.ps.length ck1, .slice c2 c.ms.length ck2, .slice c3 c.ds.length ck3] rfl (fun w h => h.2.1.2)) (by assumption) ?_
    simp only [Act.put, List.setIfInBounds_toArray, List.set_cons_zero, List.set_cons_succ]
    have hop := HM1.out _ (HRb.out.below hHeld.2.2 (Nat.le_refl _)) (HRc.out.below hHeld.2.2 (Nat.le_refl _))
    refine wpAnyH_ready (rs := [3]) (by kernel_rfl) (by simp) ?_
    refine AllReadyH.cons (by (simp only [List.getElem?_toArray, List.getElem?_cons_succ, List.getElem?_cons_zero]; rfl)) (fun K hK => ?_) AllReadyH.nil
    go_simp
    go_at_call 8; refine hop.mono ?_; rintro e w4 ⟨m1, mk1, m2, mk2, m3, mk3, rfl, ho1, ho2, ho3, hb4⟩
    refine hK.out _ _ (by (try dsimp only); exact hHeld.below hb4) (fun hHeld => ?_)
    clear hK K
    try simp only [Act.put, List.setIfInBounds_toArray, List.set_cons_zero, List.set_cons_succ]
    have hrx := MgX.rd ho1 ho2 ho3
    have hop2 := HM2.out _ _ _ _ (HRa.out.below hHeld.2.2 (Nat.le_refl _)) hrx
    clear hop
    refine wpAnyH_ready (rs := [4]) (by kernel_rfl) (by simp) ?_
    refine AllReadyH.cons (by (simp only [List.getElem?_toArray, List.getElem?_cons_succ, List.getElem?_cons_zero]; rfl)) (fun K hK => ?_) AllReadyH.nil
    go_simp
    go_at_call 8; refine hop2.mono ?_; rintro e w5 ⟨n1, nk1, n2, nk2, n3, nk3, rfl, hp1, hp2, hp3, hb5⟩
    refine hK.out _ _ (by (try dsimp only); exact hHeld.below hb5) (fun hHeld => ?_)
    clear hK K
    try simp only [Act.put, List.setIfInBounds_toArray, List.set_cons_zero, List.set_cons_succ]
    have hry := MgX.rd hp1 hp2 hp3
    have hop3 := HM3.out _ (HRa.out.below hHeld.2.2 (Nat.le_refl _)) (HRb.out.below hHeld.2.2 (Nat.le_refl _))
    clear hop2
    refine wpAnyH_ready (rs := [7]) (by kernel_rfl) (by simp) ?_
    refine AllReadyH.cons (by (simp only [List.getElem?_toArray, List.getElem?_cons_succ, List.getElem?_cons_zero]; rfl)) (fun K hK => ?_) AllReadyH.nil
    go_simp
    go_at_call 8; refine hop3.mono ?_; rintro e w6 ⟨o1, ok1, o2, ok2, o3, ok3, rfl, hq1, hq2, hq3, hb6⟩
    refine hK.out _ _ (by (try dsimp only); exact hHeld.below hb6) (fun hHeld => ?_)
    clear hK K
    try simp only [Act.put, List.setIfInBounds_toArray, List.set_cons_zero, List.set_cons_succ]
    have hrz := MgX.rd hq1 hq2 hq3
    have hop4 := HM4.out _ _ _ _ hrz (HRc.out.below hHeld.2.2 (Nat.le_refl _))
    clear hop3
    refine wpAnyH_ready (rs := [9]) (by kernel_rfl) (by simp) ?_
    refine AllReadyH.cons (by (simp only [List.getElem?_toArray, List.getElem?_cons_succ, List.getElem?_cons_zero]; rfl)) (fun K hK => ?_) AllReadyH.nil
    go_simp
    go_at_call 8; refine hop4.mono ?_; rintro e w7 ⟨s1, sk1, s2, sk2, s3, sk3, rfl, hs1, hs2, hs3, hb7⟩
    refine hK.out _ _ (by (try dsimp only); exact hHeld.below hb7) (fun hHeld => ?_)
    clear hK K
    try simp only [Act.put, List.setIfInBounds_toArray, List.set_cons_zero, List.set_cons_succ]
    have hop5 := Same_any z z _ _ _ _ _ _ w7 ((hry.below hb6 (Nat.le_refl _)).below hb7 (Nat.le_refl _)) (MgX.rd hs1 hs2 hs3)
    rw [samePm_self] at hop5
    unfold pmV at hop5
    clear hop4
    refine wpAnyH_ready (rs := [10]) (by kernel_rfl) (by simp) ?_
    refine AllReadyH.cons (by (simp only [List.getElem?_toArray, List.getElem?_cons_succ, List.getElem?_cons_zero]; rfl)) (fun K hK => ?_) AllReadyH.nil
    go_simp
    go_at_call 9; refine hop5.mono ?_; rintro e w8 ⟨rfl, hb8⟩
    refine hK.out _ _ (by (try dsimp only); exact hHeld.below hb8) (fun hHeld => ?_)
    clear hK K
    try simp only [Act.put, List.setIfInBounds_toArray, List.set_cons_zero, List.set_cons_succ]
    refine wpAnyH_take (i := 11) (v := ?_) (by (simp only [List.getElem?_toArray, List.getElem?_cons_succ, List.getElem?_cons_zero]; rfl)) (by kernel_rfl) (by kernel_rfl) (by kernel_rfl) (by intro _ _ _ h; exact h) (Or.inl ⟨by rfl, ?_⟩) (by assumption) ?_
    rotate_left
    · (intro w hSw; (try dsimp only at hSw); go_simp; try (with_reducible rfl))
    simp only [Act.put, List.setIfInBounds_toArray, List.set_cons_zero, List.set_cons_succ]
    have hop6 := HLV.out w8
    clear hop5
    refine wpAnyH_ready (rs := [12]) (by kernel_rfl) (by simp) ?_
    refine AllReadyH.cons (by (simp only [List.getElem?_toArray, List.getElem?_cons_succ, List.getElem?_cons_zero]; rfl)) (fun K hK => ?_) AllReadyH.nil
    go_simp
    go_at_call 7; refine hop6.mono ?_; rintro e w9 ⟨rfl, hb9⟩
    refine hK.out _ _ (by (try dsimp only); exact hHeld.below hb9) (fun hHeld => ?_)
    clear hK K
    try simp only [Act.put, List.setIfInBounds_toArray, List.set_cons_zero, List.set_cons_succ]
    refine wpAnyH_take (i := 13) (v := ?_) (by (simp only [List.getElem?_toArray, List.getElem?_cons_succ, List.getElem?_cons_zero]; rfl)) (by kernel_rfl) (by kernel_rfl) (by kernel_rfl) (by intro _ _ _ h; exact h) (Or.inl ⟨by rfl, ?_⟩) (by assumption) ?_
    rotate_left
    · (intro w hSw; (try dsimp only at hSw); go_simp; try (with_reducible rfl))
    simp only [Act.put, List.setIfInBounds_toArray, List.set_cons_zero, List.set_cons_succ]
    refine wpAnyH_take (i := 14) (v := ?_) (by (simp only [List.getElem?_toArray, List.getElem?_cons_succ, List.getElem?_cons_zero]; rfl)) (by kernel_rfl) (by kernel_rfl) (by kernel_rfl) (by intro _ _ _ h; exact h) (Or.inl ⟨by rfl, ?_⟩) (by assumption) ?_
    rotate_left
    · (intro w hSw; (try dsimp only at hSw); go_simp; try (with_reducible rfl))
    simp only [Act.put, List.setIfInBounds_toArray, List.set_cons_zero, List.set_cons_succ]
    refine wpAnyH_done (by kernel_rfl) ?_ _
    have HZ := Lib.hid (HB0.out.trans (hHeld.2.2.mono HB0.out.size))
    clear hHeld hop6 hrx hry hrz ho1 ho2 ho3 hp1 hp2 hp3 hq1 hq2 hq3 hs1 hs2 hs3 hb4 hb5 hb6 hb7 hb8 hb9
    go_wp2
    go_ret
    exact ⟨rfl, HZ.out⟩

set_option maxRecDepth 100000 in
theorem lifted_ChainTogether (os : Os) (started : os.Started) (H : Type) (enc : TypeId × Value → H) :
    ReturnsInHanded {} Try.checked os 4 .any (Rows.chainTogetherSpec.pre6 enc Try.prog Try.f4 Rows.chainTogetherRow.domain false) (Rows.chainTogetherSpec.post enc Try.prog Try.f4 false true false false) := by
  refine returnsInHanded_of_change (C := Try.checked) own_knob started (by kernel_rfl) Try.func4
    (ChangeSpec.witness6 (enc := enc) (C := Try.checked) false ⟨#[], #[.agg #[.bool false, .string .empty, .string .empty, .string .empty, .string .empty, .string .empty, .string .empty, .string .empty, .slice none 0 0, .slice none 0 0, .slice none 0 0], .agg #[.bool false, .string .empty, .string .empty, .string .empty, .string .empty, .string .empty, .string .empty, .string .empty, .slice none 0 0, .slice none 0 0, .slice none 0 0], .agg #[.bool false, .string .empty, .string .empty, .string .empty, .string .empty, .string .empty, .string .empty, .string .empty, .slice none 0 0, .slice none 0 0, .slice none 0 0]], []⟩ 8 (by kernel_rfl) (by kernel_rfl) (by kernel_rfl) (by kernel_rfl)) ?_
  intro W base args ds gs before hval0 hW _ _
  have hval : ∀ (j : Nat) t v, Try.f4.params[j]? = some t → args[j]? = some v → Value.okWide Try.prog W .any base t v := hval0
  have hW' := hW
  obtain ⟨p, q, hA0, hV, rfl, _, _⟩ := hW
  have hA : DataW.TrodAll enc Try.prog W 0 (fun _ => true) true Try.f4.params.toList args.toList ds p := hA0
  rw [Try.params4] at hA hval
  obtain ⟨v0, vs0, d0, ds0, p0, q0, hargs, rfl, rfl, h0, r0⟩ := trodAll_cons hA
  obtain ⟨v1, vs1, d1, ds1, p1, q1, rfl, rfl, rfl, h1, r1⟩ := trodAll_cons r0
  obtain ⟨v2, vs2, d2, ds2, p2, q2, rfl, rfl, rfl, h2, r2⟩ := trodAll_cons r1
  obtain ⟨rfl, rfl, rfl⟩ := trodAll_nil r2
  obtain rfl : args = #[v0, v1, v2] := by cases args; simp_all
  obtain ⟨rfl, rfl⟩ := trodVars_none hV
  obtain ⟨vp0, vm0, vd0, X0, rfl, rd0, ok0⟩ := open_pom (hval 0 27 v0 rfl rfl) h0
  obtain ⟨vp1, vm1, vd1, X1, rfl, rd1, ok1⟩ := open_pom (hval 1 27 v1 rfl rfl) h1
  obtain ⟨vp2, vm2, vd2, X2, rfl, rd2, ok2⟩ := open_pom (hval 2 27 v2 rfl rfl) h2
  clear hA0 hval0
  refine (walk_ChainTogether vp0 vm0 vd0 vp1 vm1 vd1 vp2 vm2 vd2 X0 X1 X2 ok0 ok1 ok2 W rd0 rd1 rd2).mono fun e W' ⟨he, hb⟩ => ?_
  subst he
  exact ⟨_, rfl, law_post (by kernel_rfl) rfl rfl rfl hW' hb⟩

/-- the statement of ChainTogether -/
theorem proved_ChainTogether : Rows.ChainTogetherSaid :=
  OpenClaim.holds_of_wide 4 Try.f4 rfl rfl rfl rfl rfl rfl rfl ⟨rfl, rfl, rfl, rfl, rfl⟩ rfl rfl rfl rfl rfl (by kernel_rfl) Try.func4 (by kernel_rfl)
    (of_decide_eq_true (by kernel_rfl)) (by unfold Func.isWrapper; first | (rw [if_pos (by decide +kernel)]; kernel_rfl) | (rw [if_neg (by decide +kernel)]; exact ⟨rfl, rfl⟩))
    (fun os started H enc _ => lifted_ChainTogether os started H enc)
end Go.Proofs.Ytjkmmmmbdfcnbaa
