/-
  Layer 3: the document's examples hold. Own work.
-/
import Derived.Test.YtpbkidmdfibaoaaGreatDoorBldB3
namespace Go.Proofs.YtpbkidmdfibaoaaGreatDoor
set_option linter.unusedVariables false
set_option linter.unusedSimpArgs false
open Go.RowKit

theorem add_0x (a : Addr) : a.add 0 = a := by unfold Addr.add; cases a; split <;> simp_all
theorem add_ofx (a : Addr) (n : Nat) : (a.add n).off = a.off + n := by unfold Addr.add; split <;> simp_all
theorem build_ok {l : List UInt8} {t : Tr} (hM : buildM l = .ok t) (hl : l.length ≤ 1000000) (w : World) (hT : Lib.Utf8Tabs 1 2 w) :
    Calls Tryz.prog 7 #[.string (str l)] w fun e w' => (∃ a c b d, e = .returned (.tuple #[.agg #[.string (str t.n), .slice a t.ats.length c, .slice b t.ks.length d, .string (str t.t)], .int .i64 0, .agg #[.int .i64 0, .int .i64 0, .int .i64 0]]) ∧ NdV w' (allF w') t (.slice a t.ats.length c) (.slice b t.ks.length d)) ∧ Below w.heap.size w w' := by
  refine (Build_any l hl w hT).mono ?_
  rintro e w' ⟨hb, h⟩
  rw [hM] at h
  obtain ⟨va, vk, rfl, hn⟩ := h
  obtain ⟨a, c, rfl⟩ := hn.ats.shape
  obtain ⟨b, d, rfl⟩ := hn.rd.shape
  exact ⟨⟨a, c, b, d, rfl, hn⟩, hb⟩
theorem build_bad {l : List UInt8} {c : Int} {o : Nat} {p q : Int} (hM : buildM l = .bad c o) (hp : lineS (l.take o) = p) (hq : colS (l.take o) = q) (hl : l.length ≤ 1000000) (w : World) (hT : Lib.Utf8Tabs 1 2 w) :
    Calls Tryz.prog 7 #[.string (str l)] w fun e w' => e = .returned (.tuple #[.agg #[.string ⟨#[]⟩, .slice none 0 0, .slice none 0 0, .string ⟨#[]⟩], .int .i64 c, .agg #[.int .i64 (o : Int), .int .i64 p, .int .i64 q]]) ∧ Below w.heap.size w w' := by
  refine (Build_any l hl w hT).mono ?_
  rintro e w' ⟨hb, h⟩
  rw [hM] at h
  rw [← hp, ← hq]
  exact ⟨h, hb⟩
def tA3 : List UInt8 := [60, 97, 62, 120, 60, 33, 45, 45, 32, 110, 32, 45, 45, 62, 121, 60, 98, 47, 62, 60, 47, 97, 62]
def tB3 : List UInt8 := [60, 97, 62, 60, 47, 98, 62]
def tC3 : List UInt8 := [60, 97, 47, 62, 120]
def tD3 : List UInt8 := [32]
theorem bldA : buildM tA3 = .ok (.mk [97] [] [.mk [] [] [] [120, 121], .mk [98] [] [] []] []) := by kernel_rfl
theorem bldB : buildM tB3 = .bad 14 3 := by kernel_rfl
theorem bldC : buildM tC3 = .bad 16 4 := by kernel_rfl
theorem bldD : buildM tD3 = .bad 16 1 := by kernel_rfl
theorem Utf8Tabs_mono {B : Nat} {w w' : World} (hT : Lib.Utf8Tabs 1 2 w) (h : Below B w w') (hB : w.heap.size ≤ B) : Lib.Utf8Tabs 1 2 w' := Utf8Tabs_below hT (h.mono hB)
set_option maxRecDepth 100000 in
set_option maxHeartbeats 4000000 in
theorem lives03 (w : World) (hT : Lib.Utf8Tabs 1 2 w) : Calls Tryz.prog 10 #[] w fun e w' => e = .returned (.bool true) ∧ Below w.heap.size w w' := by
  have P1 := Lib.hid (show ∀ w, Lib.Utf8Tabs 1 2 w → Calls Tryz.prog 7 #[.string (str tA3)] w fun e w' => (∃ a c b d, e = .returned (.tuple #[.agg #[.string (str [97]), .slice a 0 c, .slice b 2 d, .string ⟨#[]⟩], .int .i64 0, .agg #[.int .i64 0, .int .i64 0, .int .i64 0]]) ∧ NdV w' (allF w') (.mk [97] [] [.mk [] [] [] [120, 121], .mk [98] [] [] []] []) (.slice a 0 c) (.slice b 2 d)) ∧ Below w.heap.size w w' from
    fun w hT => build_ok bldA (by decide) w hT)
  have P2 := Lib.hid (fun w hT => build_bad (p := 1) (q := 4) bldB (by kernel_rfl) (by kernel_rfl) (by decide) w hT)
  have P3 := Lib.hid (fun w hT => build_bad (p := 1) (q := 5) bldC (by kernel_rfl) (by kernel_rfl) (by decide) w hT)
  have P4 := Lib.hid (fun w hT => build_bad (p := 1) (q := 2) bldD (by kernel_rfl) (by kernel_rfl) (by decide) w hT)
  have T0 := Lib.hid hT
  clear hT
  go_enter Tryz.func10, Tryz.ntmps10
  go_wp2_with fail
  refine (P1.out w T0.out).mono ?_
  rintro e w1 ⟨⟨a1, c1, k1, d1, rfl, hn1⟩, hb1⟩
  obtain ⟨v1, hv1⟩ : ∃ v, v = (w1.alloc (.cells #[.string (str [97]), .slice a1 0 c1, .slice k1 2 d1, .string ⟨#[]⟩] 26)).alloc (.cells #[.int .i64 0, .int .i64 0, .int .i64 0] 29) := ⟨_, rfl⟩
  have hb11 : Below w1.heap.size w1 v1 := by rw [hv1]; exact ((Below.refl _ _).alloc (Nat.le_refl _) _).alloc (by simp) _
  have B1 := Lib.hid (show Below w.heap.size w v1 from hb1.trans (hb11.mono hb1.size))
  have Q1 := Lib.hid (show v1.heap[w1.heap.size]? = some (.cells #[.string (str [97]), .slice a1 0 c1, .slice k1 2 d1, .string ⟨#[]⟩] 26 (0, 0)) by rw [hv1, Below.heap_alloc _ _ _ (by simp)]; exact heap_alloc_new w1 _)
  have N1 := Lib.hid (hn1.onto hb11 (Nat.le_refl _))
  have V1 := Lib.hid hv1
  have T1 := Lib.hid (Utf8Tabs_below T0.out B1.out)
  clear hv1 hb1 hb11 hn1
  go_upto_region 2 with fail
  rw [← V1.out]
  generalize w1.heap.size = b1 at Q1 ⊢
  go_wp2_with fail
  refine (P2.out v1 T1.out).mono ?_
  rintro e w2 ⟨rfl, hb2⟩
  obtain ⟨v2, hv2⟩ : ∃ v, v = (w2.alloc (.cells #[.string ⟨#[]⟩, .slice none 0 0, .slice none 0 0, .string ⟨#[]⟩] 26)).alloc (.cells #[.int .i64 3, .int .i64 1, .int .i64 4] 29) := ⟨_, rfl⟩
  have B2 := Lib.hid (show Below v1.heap.size v1 v2 by rw [hv2]; exact (hb2.alloc hb2.size _).alloc (by have := hb2.size; simp; omega) _)
  have Q2 := Lib.hid (show v2.heap[w2.heap.size + 1]? = some (.cells #[.int .i64 3, .int .i64 1, .int .i64 4] 29 (0, 0)) by rw [hv2]; exact heap_alloc2_new w2 _ _)
  have V2 := Lib.hid hv2
  have T2 := Lib.hid (Utf8Tabs_below T1.out B2.out)
  clear hv2 hb2
  go_upto_region 3 with fail
  rw [← V2.out]
  generalize w2.heap.size = b2 at Q2 ⊢
  go_wp2_with fail
  refine (P3.out v2 T2.out).mono ?_
  rintro e w3 ⟨rfl, hb3⟩
  obtain ⟨v3, hv3⟩ : ∃ v, v = (w3.alloc (.cells #[.string ⟨#[]⟩, .slice none 0 0, .slice none 0 0, .string ⟨#[]⟩] 26)).alloc (.cells #[.int .i64 4, .int .i64 1, .int .i64 5] 29) := ⟨_, rfl⟩
  have B3 := Lib.hid (show Below v2.heap.size v2 v3 by rw [hv3]; exact (hb3.alloc hb3.size _).alloc (by have := hb3.size; simp; omega) _)
  have Q3 := Lib.hid (show v3.heap[w3.heap.size + 1]? = some (.cells #[.int .i64 4, .int .i64 1, .int .i64 5] 29 (0, 0)) by rw [hv3]; exact heap_alloc2_new w3 _ _)
  have V3 := Lib.hid hv3
  have T3 := Lib.hid (Utf8Tabs_below T2.out B3.out)
  clear hv3 hb3
  go_upto_region 4 with fail
  rw [← V3.out]
  generalize w3.heap.size = b3 at Q3 ⊢
  go_wp2_with fail
  refine (P4.out v3 T3.out).mono ?_
  rintro e w4 ⟨rfl, hb4⟩
  obtain ⟨v4, hv4⟩ : ∃ v, v = (w4.alloc (.cells #[.string ⟨#[]⟩, .slice none 0 0, .slice none 0 0, .string ⟨#[]⟩] 26)).alloc (.cells #[.int .i64 1, .int .i64 1, .int .i64 2] 29) := ⟨_, rfl⟩
  have B4 := Lib.hid (show Below v3.heap.size v3 v4 by rw [hv4]; exact (hb4.alloc hb4.size _).alloc (by have := hb4.size; simp; omega) _)
  have Q4 := Lib.hid (show v4.heap[w4.heap.size + 1]? = some (.cells #[.int .i64 1, .int .i64 1, .int .i64 2] 29 (0, 0)) by rw [hv4]; exact heap_alloc2_new w4 _ _)
  have V4 := Lib.hid hv4
  have T4 := Lib.hid (Utf8Tabs_below T3.out B4.out)
  clear hv4 hb4
  go_upto_region 5 with fail
  rw [← V4.out]
  generalize w4.heap.size = b4 at Q4 ⊢
  have lt1 := (Array.getElem?_eq_some_iff.1 Q1.out).1
  have lt2 := (Array.getElem?_eq_some_iff.1 Q2.out).1
  have lt3 := (Array.getElem?_eq_some_iff.1 Q3.out).1
  have B24 : Below v1.heap.size v1 v4 := B2.out.trans ((B3.out.mono B2.out.size).trans (B4.out.mono (Nat.le_trans B2.out.size B3.out.size)))
  have B34 : Below v2.heap.size v2 v4 := B3.out.trans (B4.out.mono B3.out.size)
  have q1 := (B24.block _ lt1).trans Q1.out
  have q2 := (B34.block _ lt2).trans Q2.out
  have q3 := (B4.out.block _ lt3).trans Q3.out
  have q4 := Q4.out
  have BA := Lib.hid (show Below w.heap.size w v4 from B1.out.trans (B24.mono B1.out.size))
  have n4 := N1.out.onto B24 (Nat.le_refl _)
  obtain ⟨kb, e1, va, vk, ⟨x0, x1, x2, x3⟩, _⟩ := RdSl.elem n4.rd (i := 0) rfl
  obtain ⟨kb', e2, va', vk', ⟨y0, y1, y2, y3⟩, _⟩ := RdSl.elem n4.rd (i := 1) rfl
  subst e1
  cases e2
  simp only [Tr.n, Tr.t] at x3 y0
  have g0 : v4.cell? ⟨b1, 0, none⟩ = some (.string (str [97])) := by rw [cell_of_row v4 b1 0 _ _ (0, 0) q1]; rfl
  have g1 : v4.cell? ⟨b1, 2, none⟩ = some (.slice (some kb) 2 d1) := by rw [cell_of_row v4 b1 2 _ _ (0, 0) q1]; rfl
  have g2 : v4.cell? ⟨b2 + 1, 0, none⟩ = some (.int .i64 3) := by rw [cell_of_row v4 (b2 + 1) 0 _ _ (0, 0) q2]; rfl
  have g3 : v4.cell? ⟨b3 + 1, 0, none⟩ = some (.int .i64 4) := by rw [cell_of_row v4 (b3 + 1) 0 _ _ (0, 0) q3]; rfl
  have g4 : v4.cell? ⟨b4 + 1, 0, none⟩ = some (.int .i64 1) := by rw [cell_of_row v4 (b4 + 1) 0 _ _ (0, 0) q4]; rfl
  clear q1 q2 q3 q4 n4 x0 x1 x2 y1 y2 y3 lt1 lt2 lt3 B24 B34
  have s0 : ((str [97]).toList == [97]) = true := by kernel_rfl
  have s1 : ((str [120, 121]).toList == [120, 121]) = true := by kernel_rfl
  have s2 : ((str [98]).toList == [98]) = true := by kernel_rfl
  generalize str [97] = r0 at g0 s0 ⊢
  generalize str [120, 121] = r1 at x3 s1
  generalize str [98] = r2 at y0 s2
  simp only [Nat.zero_mul, Nat.one_mul, add_0x] at x3 y0
  rw [add_pos3 _ _ (by decide)] at y0
  go_wp2
  go_ret
  exact ⟨rfl, BA.out⟩
end Go.Proofs.YtpbkidmdfibaoaaGreatDoor
