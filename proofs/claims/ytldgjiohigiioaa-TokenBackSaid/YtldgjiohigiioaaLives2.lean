/-
  Layer 2: the document's examples hold. Own work.
-/
import Derived.Test.YtldgjiohigiioaaAll2b
namespace Go.Proofs.Ytldgjiohigiioaa
set_option linter.unusedVariables false
set_option linter.unusedSimpArgs false
open Go.RowKit

theorem add_0 (a : Addr) : a.add 0 = a := by unfold Addr.add; cases a; split <;> simp_all
theorem add_bl (a : Addr) (n : Nat) : (a.add n).block = a.block := by unfold Addr.add; split <;> rfl
theorem add_of (a : Addr) (n : Nat) : (a.add n).off = a.off + n := by unfold Addr.add; split <;> simp_all
theorem all_ok {l : List UInt8} {ts : List Tk} {r : List UInt8} (hM : allM l = .ok ts r) (hl : l.length ≤ 1000000) (w : World) :
    Calls Try.prog 12 #[.string (str l)] w fun e w' => ∃ a c, e = .returned (.tuple #[.slice a ts.length c, .int .i64 0, .agg #[.int .i64 0, .int .i64 0, .int .i64 0]]) ∧ RdTs w' (.slice a ts.length c) (ts.map (Tk.mem l)) ∧ Below w.heap.size w w' := by
  refine (All_any l hl w).mono ?_
  rintro e w' ⟨hb, h⟩
  rw [hM] at h
  obtain ⟨v, rfl, hr⟩ := h
  obtain ⟨a, c, rfl⟩ := RdSl.shape hr
  rw [List.length_map] at hr ⊢
  exact ⟨a, c, rfl, hr, hb⟩
theorem all_bad {l : List UInt8} {c : Int} {r : List UInt8} {o p q : Int} (hM : allM l = .bad c r) (ho : ((l.length - r.length : Nat) : Int) = o) (hp : lineS (preO l r) = p) (hq : colS (preO l r) = q) (hl : l.length ≤ 1000000) (w : World) :
    Calls Try.prog 12 #[.string (str l)] w fun e w' => e = .returned (.tuple #[.slice none 0 0, .int .i64 c, .agg #[.int .i64 o, .int .i64 p, .int .i64 q]]) ∧ Below w.heap.size w w' := by
  refine (All_any l hl w).mono ?_
  rintro e w' ⟨hb, h⟩
  rw [hM] at h
  simp only [ho, hp, hq] at h
  exact ⟨h, hb⟩
def tA : List UInt8 := [60, 97, 32, 98, 61, 39, 49, 39, 47, 62, 120, 38, 108, 116, 59]
def tB : List UInt8 := [60, 97, 32, 98, 61, 49, 62]
def tC : List UInt8 := [60, 97]
def tD : List UInt8 := [60, 32, 97, 62]
theorem allA : allM tA = .ok [⟨2, [97], [([98], [49])], [], 0⟩, ⟨4, [], [], [120, 60], 10⟩] [] := by kernel_rfl
theorem allB : allM tB = .bad 10 [49, 62] := by kernel_rfl
theorem allC : allM tC = .bad 13 [] := by kernel_rfl
theorem allD : allM tD = .bad 11 [32, 97, 62] := by kernel_rfl
set_option maxRecDepth 100000 in
set_option maxHeartbeats 4000000 in
theorem lives02 (w : World) : Calls Try.prog 15 #[] w fun e w' => e = .returned (.bool true) ∧ Below w.heap.size w w' := by
  have P1 := Lib.hid (fun w => all_ok allA (by decide) w)
  have P2 := Lib.hid (fun w => all_bad (o := 5) (p := 1) (q := 6) allB (by decide) (by kernel_rfl) (by kernel_rfl) (by decide) w)
  have P3 := Lib.hid (fun w => all_bad (o := 2) (p := 1) (q := 3) allC (by decide) (by kernel_rfl) (by kernel_rfl) (by decide) w)
  have P4 := Lib.hid (fun w => all_bad (o := 1) (p := 1) (q := 2) allD (by decide) (by kernel_rfl) (by kernel_rfl) (by decide) w)
  go_enter Try.func15, Try.ntmps15
  go_wp2_with fail
  refine (P1.out w).mono ?_
  rintro e w1 ⟨a1, c1, rfl, hr1, hb1⟩
  have B1 := Lib.hid (hb1.alloc hb1.size (.cells #[.int .i64 0, .int .i64 0, .int .i64 0] 26))
  have R1 := Lib.hid (hr1.below ((Below.refl _ _).alloc (Nat.le_refl _) (.cells #[.int .i64 0, .int .i64 0, .int .i64 0] 26)) (Nat.le_refl _))
  clear hr1 hb1
  go_upto_region 2 with fail
  generalize w1.alloc (.cells #[.int .i64 0, .int .i64 0, .int .i64 0] 26) = v1 at B1 R1 ⊢
  go_wp2_with fail
  refine (P2.out v1).mono ?_
  rintro e w2 ⟨rfl, hb2⟩
  obtain ⟨v2, hv2⟩ : ∃ v2, v2 = w2.alloc (.cells #[.int .i64 5, .int .i64 1, .int .i64 6] 26) := ⟨_, rfl⟩
  have B2 := Lib.hid (show Below v1.heap.size v1 v2 by rw [hv2]; exact hb2.alloc hb2.size _)
  have Q2 := Lib.hid (show v2.heap[w2.heap.size]? = some (.cells #[.int .i64 5, .int .i64 1, .int .i64 6] 26 (0, 0)) by rw [hv2]; exact heap_alloc_new w2 _)
  have V2 := Lib.hid hv2
  clear hv2 hb2
  go_upto_region 3 with fail
  rw [← V2.out]
  generalize w2.heap.size = b2 at Q2 ⊢
  go_wp2_with fail
  refine (P3.out v2).mono ?_
  rintro e w3 ⟨rfl, hb3⟩
  obtain ⟨v3, hv3⟩ : ∃ v3, v3 = w3.alloc (.cells #[.int .i64 2, .int .i64 1, .int .i64 3] 26) := ⟨_, rfl⟩
  have B3 := Lib.hid (show Below v2.heap.size v2 v3 by rw [hv3]; exact hb3.alloc hb3.size _)
  have Q3 := Lib.hid (show v3.heap[w3.heap.size]? = some (.cells #[.int .i64 2, .int .i64 1, .int .i64 3] 26 (0, 0)) by rw [hv3]; exact heap_alloc_new w3 _)
  have V3 := Lib.hid hv3
  clear hv3 hb3
  go_upto_region 4 with fail
  rw [← V3.out]
  generalize w3.heap.size = b3 at Q3 ⊢
  go_wp2_with fail
  refine (P4.out v3).mono ?_
  rintro e w4 ⟨rfl, hb4⟩
  obtain ⟨v4, hv4⟩ : ∃ v4, v4 = w4.alloc (.cells #[.int .i64 1, .int .i64 1, .int .i64 2] 26) := ⟨_, rfl⟩
  have hb4' : Below v3.heap.size v3 v4 := by rw [hv4]; exact hb4.alloc hb4.size _
  have q4 : v4.heap[w4.heap.size]? = some (.cells #[.int .i64 1, .int .i64 1, .int .i64 2] 26 (0, 0)) := by rw [hv4]; exact heap_alloc_new w4 _
  have q3 := (hb4'.block _ (Array.getElem?_eq_some_iff.1 Q3.out).1).trans Q3.out
  have q2 := (hb4'.block _ (Nat.lt_of_lt_of_le (Array.getElem?_eq_some_iff.1 Q2.out).1 B3.out.size)).trans ((B3.out.block _ (Array.getElem?_eq_some_iff.1 Q2.out).1).trans Q2.out)
  have BA := Lib.hid (show Below w.heap.size w v4 from B1.out.trans ((B2.out.mono B1.out.size).trans ((B3.out.mono (Nat.le_trans B1.out.size B2.out.size)).trans (hb4'.mono (Nat.le_trans B1.out.size (Nat.le_trans B2.out.size B3.out.size))))))
  have r4 := R1.out.below (B2.out.trans ((B3.out.mono B2.out.size).trans (hb4'.mono (Nat.le_trans B2.out.size B3.out.size)))) (Nat.le_refl _)
  obtain ⟨bb, e1, ta, ⟨x0, x1, x2, x3, x4, x5, x6⟩, hats⟩ := RdSl.elem r4 (i := 0) rfl
  obtain ⟨bb', e2, tb, ⟨y0, y1, y2, y3, y4, y5, y6⟩, _⟩ := RdSl.elem r4 (i := 1) rfl
  subst e1
  cases e2
  obtain ⟨aa, ac, rfl⟩ := RdSl.shape hats
  obtain ⟨cc, e3, z0, z1⟩ := RdSl.elem hats (i := 0) rfl
  subst e3
  simp only [Tk.mem] at x0 x1 x2 y3 z1
  have g2 : v4.cell? ⟨b2, 0, none⟩ = some (.int .i64 5) := by rw [cell_of_row v4 b2 0 _ _ (0, 0) q2]; rfl
  have g3 : v4.cell? ⟨b3, 0, none⟩ = some (.int .i64 2) := by rw [cell_of_row v4 b3 0 _ _ (0, 0) q3]; rfl
  have g4 : v4.cell? ⟨w4.heap.size, 0, none⟩ = some (.int .i64 1) := by rw [cell_of_row v4 w4.heap.size 0 _ _ (0, 0) q4]; rfl
  clear hb4 hb4' q2 q3 q4 r4 hats x3 x4 x5 x6 y0 y1 y2 y4 y5 y6 z0
  have k0 : ((str [97]).toList == [97]) = true := by kernel_rfl
  have k1 : ((str [49]).toList == [49]) = true := by kernel_rfl
  have k2 : ((str [120, 60]).toList == [120, 60]) = true := by kernel_rfl
  generalize str [97] = s0 at x1 k0
  generalize str [49] = s1 at z1 k1
  generalize str [120, 60] = s2 at y3 k2
  simp only [Nat.zero_mul, Nat.one_mul, add_0] at x0 x1 x2 y3 z1
  simp only [List.length_cons, List.length_nil] at x2
  simp only [add_bl, add_of] at y3
  subst hv4
  go_wp2
  go_ret
  exact ⟨rfl, BA.out⟩
end Go.Proofs.Ytldgjiohigiioaa
