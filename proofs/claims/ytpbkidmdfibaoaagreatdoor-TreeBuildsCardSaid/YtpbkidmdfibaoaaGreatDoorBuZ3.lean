/-
  Layer 3: the answer's Same and Build, the examples, and the card TreeBuilds. Own work.
-/
import Derived.Test.YtpbkidmdfibaoaaGreatDoorBldB3
import Derived.Test.YtpbkidmdfibaoaaGreatDoorSameT3
import Derived.Deep.RegionLaw
import Derived.Test.YtpbkidmdfibaoaaGreatDoorElZ3
import Derived.Test.YtpbkidmdfibaoaaGreatDoorPrtZ3
import Derived.Test.YtpbkidmdfibaoaaGreatDoorRfZ3
import Derived.Test.YtpbkidmdfibaoaaGreatDoorTrim1
import Derived.Deep.RegionHeld3
import Derived.Test.YtpbkidmdfibaoaaGreatDoorAt
import Derived.Test.YtpbkidmdfibaoaaGreatDoorDoor
import Derived.Lib.LaidU8
namespace Go.Proofs.YtpbkidmdfibaoaaGreatDoor
set_option linter.unusedVariables false
set_option linter.unusedSimpArgs false


/-! Lives3 -/
section
open Go.RowKit

theorem add_0x (a : Addr) : a.add 0 = a := by unfold Addr.add; cases a; split <;> simp_all
theorem add_ofx (a : Addr) (n : Nat) : (a.add n).off = a.off + n := by unfold Addr.add; split <;> simp_all
theorem build_ok {l : List UInt8} {t : Tr} (hM : buildM l = .ok t) (hl : l.length ≤ 1000000) (w : World) (hT : Lib.Utf8Tabs 1 2 w) :
    Calls Tryz.prog 7 #[.string (str l)] w fun e w' => (∃ a c b d, e = .returned (.tuple #[.agg #[.string (str t.n), .slice a t.ats.length c, .slice b t.ks.length d, .string (str t.t)], .int .i64 0, .agg #[.int .i64 0, .int .i64 0, .int .i64 0]]) ∧ NdV w' (allF w') t (.slice a t.ats.length c) (.slice b t.ks.length d)) ∧ Below w.heap.size w w' := by
  refine (Build_any l hl w hT).mono ?_
  rintro e w' ⟨hb, h⟩
  rw [hM] at h
  obtain ⟨va, vk, rfl, hn⟩ := h
  obtain ⟨a, c, rfl⟩ := hn.ats.shape
  obtain ⟨b, d, rfl⟩ := hn.rd.shape
  exact ⟨⟨a, c, b, d, rfl, hn⟩, hb⟩
theorem build_bad {l : List UInt8} {c : Int} {o : Nat} {p q : Int} (hM : buildM l = .bad c o) (hp : lineS (l.take o) = p) (hq : colS (l.take o) = q) (hl : l.length ≤ 1000000) (w : World) (hT : Lib.Utf8Tabs 1 2 w) :
    Calls Tryz.prog 7 #[.string (str l)] w fun e w' => e = .returned (.tuple #[.agg #[.string ⟨#[]⟩, .slice none 0 0, .slice none 0 0, .string ⟨#[]⟩], .int .i64 c, .agg #[.int .i64 (o : Int), .int .i64 p, .int .i64 q]]) ∧ Below w.heap.size w w' := by
  refine (Build_any l hl w hT).mono ?_
  rintro e w' ⟨hb, h⟩
  rw [hM] at h
  rw [← hp, ← hq]
  exact ⟨h, hb⟩
def tA3 : List UInt8 := [60, 97, 62, 120, 60, 33, 45, 45, 32, 110, 32, 45, 45, 62, 121, 60, 98, 47, 62, 60, 47, 97, 62]
def tB3 : List UInt8 := [60, 97, 62, 60, 47, 98, 62]
def tC3 : List UInt8 := [60, 97, 47, 62, 120]
def tD3 : List UInt8 := [32]
theorem bldA : buildM tA3 = .ok (.mk [97] [] [.mk [] [] [] [120, 121], .mk [98] [] [] []] []) := by kernel_rfl
theorem bldB : buildM tB3 = .bad 14 3 := by kernel_rfl
theorem bldC : buildM tC3 = .bad 16 4 := by kernel_rfl
theorem bldD : buildM tD3 = .bad 16 1 := by kernel_rfl
theorem Utf8Tabs_mono {B : Nat} {w w' : World} (hT : Lib.Utf8Tabs 1 2 w) (h : Below B w w') (hB : w.heap.size ≤ B) : Lib.Utf8Tabs 1 2 w' := Utf8Tabs_below hT (h.mono hB)
set_option maxRecDepth 100000 in
set_option maxHeartbeats 4000000 in
theorem lives03 (w : World) (hT : Lib.Utf8Tabs 1 2 w) : Calls Tryz.prog 10 #[] w fun e w' => e = .returned (.bool true) ∧ Below w.heap.size w w' := by
  have P1 := Lib.hid (show ∀ w, Lib.Utf8Tabs 1 2 w → Calls Tryz.prog 7 #[.string (str tA3)] w fun e w' => (∃ a c b d, e = .returned (.tuple #[.agg #[.string (str [97]), .slice a 0 c, .slice b 2 d, .string ⟨#[]⟩], .int .i64 0, .agg #[.int .i64 0, .int .i64 0, .int .i64 0]]) ∧ NdV w' (allF w') (.mk [97] [] [.mk [] [] [] [120, 121], .mk [98] [] [] []] []) (.slice a 0 c) (.slice b 2 d)) ∧ Below w.heap.size w w' from
    fun w hT => build_ok bldA (by decide) w hT)
  have P2 := Lib.hid (fun w hT => build_bad (p := 1) (q := 4) bldB (by kernel_rfl) (by kernel_rfl) (by decide) w hT)
  have P3 := Lib.hid (fun w hT => build_bad (p := 1) (q := 5) bldC (by kernel_rfl) (by kernel_rfl) (by decide) w hT)
  have P4 := Lib.hid (fun w hT => build_bad (p := 1) (q := 2) bldD (by kernel_rfl) (by kernel_rfl) (by decide) w hT)
  have T0 := Lib.hid hT
  clear hT
  go_enter Tryz.func10, Tryz.ntmps10
  go_wp2_with fail
  refine (P1.out w T0.out).mono ?_
  rintro e w1 ⟨⟨a1, c1, k1, d1, rfl, hn1⟩, hb1⟩
  obtain ⟨v1, hv1⟩ : ∃ v, v = (w1.alloc (.cells #[.string (str [97]), .slice a1 0 c1, .slice k1 2 d1, .string ⟨#[]⟩] 26)).alloc (.cells #[.int .i64 0, .int .i64 0, .int .i64 0] 29) := ⟨_, rfl⟩
  have hb11 : Below w1.heap.size w1 v1 := by rw [hv1]; exact ((Below.refl _ _).alloc (Nat.le_refl _) _).alloc (by simp) _
  have B1 := Lib.hid (show Below w.heap.size w v1 from hb1.trans (hb11.mono hb1.size))
  have Q1 := Lib.hid (show v1.heap[w1.heap.size]? = some (.cells #[.string (str [97]), .slice a1 0 c1, .slice k1 2 d1, .string ⟨#[]⟩] 26 (0, 0)) by rw [hv1, Below.heap_alloc _ _ _ (by simp)]; exact heap_alloc_new w1 _)
  have N1 := Lib.hid (hn1.onto hb11 (Nat.le_refl _))
  have V1 := Lib.hid hv1
  have T1 := Lib.hid (Utf8Tabs_below T0.out B1.out)
  clear hv1 hb1 hb11 hn1
  go_upto_region 2 with fail
  rw [← V1.out]
  generalize w1.heap.size = b1 at Q1 ⊢
  go_wp2_with fail
  refine (P2.out v1 T1.out).mono ?_
  rintro e w2 ⟨rfl, hb2⟩
  obtain ⟨v2, hv2⟩ : ∃ v, v = (w2.alloc (.cells #[.string ⟨#[]⟩, .slice none 0 0, .slice none 0 0, .string ⟨#[]⟩] 26)).alloc (.cells #[.int .i64 3, .int .i64 1, .int .i64 4] 29) := ⟨_, rfl⟩
  have B2 := Lib.hid (show Below v1.heap.size v1 v2 by rw [hv2]; exact (hb2.alloc hb2.size _).alloc (by have := hb2.size; simp; omega) _)
  have Q2 := Lib.hid (show v2.heap[w2.heap.size + 1]? = some (.cells #[.int .i64 3, .int .i64 1, .int .i64 4] 29 (0, 0)) by rw [hv2]; exact heap_alloc2_new w2 _ _)
  have V2 := Lib.hid hv2
  have T2 := Lib.hid (Utf8Tabs_below T1.out B2.out)
  clear hv2 hb2
  go_upto_region 3 with fail
  rw [← V2.out]
  generalize w2.heap.size = b2 at Q2 ⊢
  go_wp2_with fail
  refine (P3.out v2 T2.out).mono ?_
  rintro e w3 ⟨rfl, hb3⟩
  obtain ⟨v3, hv3⟩ : ∃ v, v = (w3.alloc (.cells #[.string ⟨#[]⟩, .slice none 0 0, .slice none 0 0, .string ⟨#[]⟩] 26)).alloc (.cells #[.int .i64 4, .int .i64 1, .int .i64 5] 29) := ⟨_, rfl⟩
  have B3 := Lib.hid (show Below v2.heap.size v2 v3 by rw [hv3]; exact (hb3.alloc hb3.size _).alloc (by have := hb3.size; simp; omega) _)
  have Q3 := Lib.hid (show v3.heap[w3.heap.size + 1]? = some (.cells #[.int .i64 4, .int .i64 1, .int .i64 5] 29 (0, 0)) by rw [hv3]; exact heap_alloc2_new w3 _ _)
  have V3 := Lib.hid hv3
  have T3 := Lib.hid (Utf8Tabs_below T2.out B3.out)
  clear hv3 hb3
  go_upto_region 4 with fail
  rw [← V3.out]
  generalize w3.heap.size = b3 at Q3 ⊢
  go_wp2_with fail
  refine (P4.out v3 T3.out).mono ?_
  rintro e w4 ⟨rfl, hb4⟩
  obtain ⟨v4, hv4⟩ : ∃ v, v = (w4.alloc (.cells #[.string ⟨#[]⟩, .slice none 0 0, .slice none 0 0, .string ⟨#[]⟩] 26)).alloc (.cells #[.int .i64 1, .int .i64 1, .int .i64 2] 29) := ⟨_, rfl⟩
  have B4 := Lib.hid (show Below v3.heap.size v3 v4 by rw [hv4]; exact (hb4.alloc hb4.size _).alloc (by have := hb4.size; simp; omega) _)
  have Q4 := Lib.hid (show v4.heap[w4.heap.size + 1]? = some (.cells #[.int .i64 1, .int .i64 1, .int .i64 2] 29 (0, 0)) by rw [hv4]; exact heap_alloc2_new w4 _ _)
  have V4 := Lib.hid hv4
  have T4 := Lib.hid (Utf8Tabs_below T3.out B4.out)
  clear hv4 hb4
  go_upto_region 5 with fail
  rw [← V4.out]
  generalize w4.heap.size = b4 at Q4 ⊢
  have lt1 := (Array.getElem?_eq_some_iff.1 Q1.out).1
  have lt2 := (Array.getElem?_eq_some_iff.1 Q2.out).1
  have lt3 := (Array.getElem?_eq_some_iff.1 Q3.out).1
  have B24 : Below v1.heap.size v1 v4 := B2.out.trans ((B3.out.mono B2.out.size).trans (B4.out.mono (Nat.le_trans B2.out.size B3.out.size)))
  have B34 : Below v2.heap.size v2 v4 := B3.out.trans (B4.out.mono B3.out.size)
  have q1 := (B24.block _ lt1).trans Q1.out
  have q2 := (B34.block _ lt2).trans Q2.out
  have q3 := (B4.out.block _ lt3).trans Q3.out
  have q4 := Q4.out
  have BA := Lib.hid (show Below w.heap.size w v4 from B1.out.trans (B24.mono B1.out.size))
  have n4 := N1.out.onto B24 (Nat.le_refl _)
  obtain ⟨kb, e1, va, vk, ⟨x0, x1, x2, x3⟩, _⟩ := RdSl.elem n4.rd (i := 0) rfl
  obtain ⟨kb', e2, va', vk', ⟨y0, y1, y2, y3⟩, _⟩ := RdSl.elem n4.rd (i := 1) rfl
  subst e1
  cases e2
  simp only [Tr.n, Tr.t] at x3 y0
  have g0 : v4.cell? ⟨b1, 0, none⟩ = some (.string (str [97])) := by rw [cell_of_row v4 b1 0 _ _ (0, 0) q1]; rfl
  have g1 : v4.cell? ⟨b1, 2, none⟩ = some (.slice (some kb) 2 d1) := by rw [cell_of_row v4 b1 2 _ _ (0, 0) q1]; rfl
  have g2 : v4.cell? ⟨b2 + 1, 0, none⟩ = some (.int .i64 3) := by rw [cell_of_row v4 (b2 + 1) 0 _ _ (0, 0) q2]; rfl
  have g3 : v4.cell? ⟨b3 + 1, 0, none⟩ = some (.int .i64 4) := by rw [cell_of_row v4 (b3 + 1) 0 _ _ (0, 0) q3]; rfl
  have g4 : v4.cell? ⟨b4 + 1, 0, none⟩ = some (.int .i64 1) := by rw [cell_of_row v4 (b4 + 1) 0 _ _ (0, 0) q4]; rfl
  clear q1 q2 q3 q4 n4 x0 x1 x2 y1 y2 y3 lt1 lt2 lt3 B24 B34
  have s0 : ((str [97]).toList == [97]) = true := by kernel_rfl
  have s1 : ((str [120, 121]).toList == [120, 121]) = true := by kernel_rfl
  have s2 : ((str [98]).toList == [98]) = true := by kernel_rfl
  generalize str [97] = r0 at g0 s0 ⊢
  generalize str [120, 121] = r1 at x3 s1
  generalize str [98] = r2 at y0 s2
  simp only [Nat.zero_mul, Nat.one_mul, add_0x] at x3 y0
  rw [add_pos3 _ _ (by decide)] at y0
  go_wp2
  go_ret
  exact ⟨rfl, BA.out⟩
end
/-! RefS3 -/
section
open Go.RowKit

set_option maxRecDepth 100000 in
set_option maxHeartbeats 2000000 in
theorem rsame_step (x : Tr) (hS : ∀ k ∈ x.ks, SameAt 9 k) : SameAt 9 x := by
  intro y va vk va' vk' w hx hy
  obtain ⟨c1, c2, c3, c4, rfl, rfl⟩ := node_cells hx
  obtain ⟨d1, d2, d3, d4, rfl, rfl⟩ := node_cells hy
  obtain ⟨n, ats, ks, t⟩ := x
  obtain ⟨n', ats', ks', t'⟩ := y
  unfold nodeV
  simp only [Tr.n, Tr.ats, Tr.ks, Tr.t] at hx hy hS ⊢
  obtain ⟨w1, hw1⟩ : ∃ w1, w1 = (w.alloc (.cells #[.string (str n), .slice c1 ats.length c2, .slice c3 ks.length c4, .string (str t)] 26)).alloc (.cells #[.string (str n'), .slice d1 ats'.length d2, .slice d3 ks'.length d4, .string (str t')] 26) := ⟨_, rfl⟩
  have hb1 : Below w.heap.size w w1 := by rw [hw1]; exact ((Below.refl _ _).alloc (Nat.le_refl _) _).alloc (by simp) _
  have hX : w1.heap[w.heap.size]? = some (.cells #[.string (str n), .slice c1 ats.length c2, .slice c3 ks.length c4, .string (str t)] 26 (0, 0)) := by rw [hw1, Below.heap_alloc _ _ _ (by simp)]; exact heap_alloc_new w _
  have hY : w1.heap[w.heap.size + 1]? = some (.cells #[.string (str n'), .slice d1 ats'.length d2, .slice d3 ks'.length d4, .string (str t')] 26 (0, 0)) := by rw [hw1]; exact heap_alloc2_new w _ _
  have HEQ := Lib.hid (SameAttrs_any _ _ _ _ w1 (hx.onto hb1 (Nat.le_refl _)).ats (hy.onto hb1 (Nat.le_refl _)).ats)
  have HS := Lib.hid hS
  have HKX := Lib.hid (show ∀ w2, Below w1.heap.size w1 w2 → RdSl 4 (NdAt w2 (allF w2)) (.slice c3 ks.length c4) ks from fun w2 hb => (hx.onto (hb1.trans (hb.mono hb1.size)) (Nat.le_refl _)).rd)
  have HKY := Lib.hid (show ∀ w2, Below w1.heap.size w1 w2 → RdSl 4 (NdAt w2 (allF w2)) (.slice d3 ks'.length d4) ks' from fun w2 hb => (hy.onto (hb1.trans (hb.mono hb1.size)) (Nat.le_refl _)).rd)
  have hkl := RdSl.len hx.rd
  have hkl' := RdSl.len hy.rd
  simp only [Tr.ks] at hkl hkl'
  simp only [Tr.ats] at HEQ
  have HW1 := Lib.hid hw1
  have HB1 := Lib.hid hb1
  have x0 : w1.cell? ⟨w.heap.size, 0, none⟩ = some (.string (str n)) := by rw [cell_of_row w1 _ 0 _ _ (0, 0) hX]; rfl
  have x1 : w1.cell? ⟨w.heap.size, 1, none⟩ = some (.slice c1 ats.length c2) := by rw [cell_of_row w1 _ 1 _ _ (0, 0) hX]; rfl
  have x2 : w1.cell? ⟨w.heap.size, 2, none⟩ = some (.slice c3 ks.length c4) := by rw [cell_of_row w1 _ 2 _ _ (0, 0) hX]; rfl
  have x3 : w1.cell? ⟨w.heap.size, 3, none⟩ = some (.string (str t)) := by rw [cell_of_row w1 _ 3 _ _ (0, 0) hX]; rfl
  have y0 : w1.cell? ⟨w.heap.size + 1, 0, none⟩ = some (.string (str n')) := by rw [cell_of_row w1 _ 0 _ _ (0, 0) hY]; rfl
  have y1 : w1.cell? ⟨w.heap.size + 1, 1, none⟩ = some (.slice d1 ats'.length d2) := by rw [cell_of_row w1 _ 1 _ _ (0, 0) hY]; rfl
  have y2 : w1.cell? ⟨w.heap.size + 1, 2, none⟩ = some (.slice d3 ks'.length d4) := by rw [cell_of_row w1 _ 2 _ _ (0, 0) hY]; rfl
  have y3 : w1.cell? ⟨w.heap.size + 1, 3, none⟩ = some (.string (str t')) := by rw [cell_of_row w1 _ 3 _ _ (0, 0) hY]; rfl
  have HC := Lib.hid (fun (A : Addr) (v : Value) (h : w1.cell? A = some v) (w2 : World) (hb : Below w1.heap.size w1 w2) => (hb.cell (World.block_lt_of_cell? w1 _ h)).trans h)
  clear hx hy hS hw1 hb1 hX hY
  go_enter Tryz.func9, Tryz.ntmps9
  go_upto_region 1 with fail
  rw [← HW1.out]
  generalize w.heap.size + 1 = Y at y0 y1 y2 y3 ⊢
  generalize hXX : w.heap.size = X at x0 x1 x2 x3 ⊢
  clear hXX
  by_cases hn : n = n'
  case neg =>
    have HE := Lib.hid (show eqT (Tr.mk n ats ks t) (Tr.mk n' ats' ks' t') = false from eqT_no fun h => hn (Tr.mk.inj h).1)
    have g0 := str_ne hn
    clear hn
    go_wp2_with fail
    go_ret
    exact ⟨ret_bool HE.out.symm, HB1.out⟩
  case pos =>
  have g0 := str_eq hn
  by_cases ht : t = t'
  case neg =>
    have HE := Lib.hid (show eqT (Tr.mk n ats ks t) (Tr.mk n' ats' ks' t') = false from eqT_no fun h => ht (Tr.mk.inj h).2.2.2)
    have g1 := str_ne ht
    clear hn ht
    go_wp2_with fail
    go_ret
    exact ⟨ret_bool HE.out.symm, HB1.out⟩
  case pos =>
  have g1 := str_eq ht
  by_cases hat : ats = ats'
  case neg =>
    rw [eqT_no hat] at HEQ
    have HE := Lib.hid (show eqT (Tr.mk n ats ks t) (Tr.mk n' ats' ks' t') = false from eqT_no fun h => hat (Tr.mk.inj h).2.1)
    clear hn ht hat
    go_wp2_with (go_at_call 26; refine HEQ.out.mono ?_; rintro e w3 ⟨rfl, hb3⟩)
    go_ret
    exact ⟨ret_bool HE.out.symm, HB1.out.trans (hb3.mono HB1.out.size)⟩
  case pos =>
  rw [eqT_yes hat] at HEQ
  have HE := Lib.hid (show eqT (Tr.mk n ats ks t) (Tr.mk n' ats' ks' t') = eqT ks ks' by
    by_cases hk : ks = ks'
    · rw [eqT_yes hk, eqT_yes (by rw [hn, ht, hat, hk])]
    · rw [eqT_no hk, eqT_no fun h => hk (Tr.mk.inj h).2.2.1])
  clear hn ht hat
  go_wp2_with fail
  refine HEQ.out.mono ?_
  rintro e w3 ⟨rfl, hb3⟩
  have z2 := HC.out _ _ x2 w3 hb3
  have z3 := HC.out _ _ y2 w3 hb3
  have HB3 := Lib.hid hb3
  have hkI : (ks.length : Int) ≤ 9223372036854775807 := by omega
  have HX2 := Lib.hid x2
  have HY2 := Lib.hid y2
  clear hb3 x0 x1 x2 x3 y0 y1 y2 y3
  by_cases hlm : ks.length = ks'.length
  case neg =>
    have HE2 := Lib.hid (show eqT (Tr.mk n ats ks t) (Tr.mk n' ats' ks' t') = false by rw [HE.out]; exact eqT_no fun h => hlm (by rw [h]))
    have hq : (((ks.length : Nat) : Int) == ((ks'.length : Nat) : Int)) = false := by rw [beq_eq_false_iff_ne]; omega
    have hq2 : ¬ ks.length = ks'.length := hlm
    go_wp2_with fail
    go_ret
    exact ⟨ret_bool HE2.out.symm, HB1.out.trans (HB3.out.mono HB1.out.size)⟩
  case pos =>
  have HLM := Lib.hid hlm
  rw [← hlm] at z3 HKY HY2
  clear hlm
  go_upto_region 4 with fail
  go_loopw [38] (fun i wr => ∃ k : Nat, k ≤ ks.length ∧ i = .int .i64 k ∧ Below w1.heap.size w1 wr ∧ ks.take k = ks'.take k) (fun i _ => ks.length - (intOf i).toNat)
  case atStart => exact ⟨0, by omega, rfl, HB3.out, rfl⟩
  case round =>
    clear z2 z3
    obtain ⟨k, hk, rfl, hbw, htk⟩ := hrel
    have HB := Lib.hid hbw
    have HTK := Lib.hid htk
    clear htk
    by_cases hlt : k < ks.length
    · obtain ⟨x, hx⟩ : ∃ x, ks[k]? = some x := ⟨_, List.getElem?_eq_getElem hlt⟩
      obtain ⟨y, hy⟩ : ∃ y, ks'[k]? = some y := ⟨_, List.getElem?_eq_getElem (by rw [← HLM.out]; exact hlt)⟩
      have z2 := HC.out _ _ HX2.out wr hbw
      have z3 := HC.out _ _ HY2.out wr hbw
      obtain ⟨a1, e1, va, vk, ⟨p0, p1, p2, p3⟩, hnx⟩ := RdSl.elem (HKX.out wr hbw) hx
      subst e1
      obtain ⟨b1, e1, vb, vm, ⟨q0, q1, q2, q3⟩, hny⟩ := RdSl.elem (HKY.out wr hbw) hy
      subst e1
      obtain ⟨s1, s2, s3, s4, rfl, rfl⟩ := node_cells hnx
      obtain ⟨r1, r2, r3, r4, rfl, rfl⟩ := node_cells hny
      have HCC := Lib.hid (HS.out x (List.mem_of_getElem? hx) y _ _ _ _ wr.drew (hnx.onto (Below.refl _ _).drew (Nat.le_refl _)) (hny.onto (Below.refl _ _).drew (Nat.le_refl _)))
      unfold nodeV at HCC
      have HX := Lib.hid hx
      have HY := Lib.hid hy
      have hkI : (k : Int) < (ks.length : Int) := by omega
      by_cases hxy : x = y
      · rw [eqT_yes hxy] at HCC
        have HN := Lib.hid (show ks.take (k + 1) = ks'.take (k + 1) by rw [take_snoc _ k x HX.out, take_snoc _ k y HY.out, HTK.out, hxy])
        clear hx hy hbw hxy hnx hny
        go_upto_region 6 with fail
        go_region_law (first | (go_simp; go_at_call 9; refine HCC.out.mono ?_; rintro e w5 ⟨rfl, hb5⟩))
        all_goals
          clear p0 p1 p2 p3 q0 q1 q2 q3 z2 z3
          have HB5 := Lib.hid ((HB.out.drew).trans (hb5.mono HB.out.size))
          clear hb5
          go_wp2
          go_roundw
          case rel => exact ⟨k + 1, by omega, by go_num, HB5.out, HN.out⟩
          case measure => simp [intOf]; omega
      · rw [eqT_no hxy] at HCC
        have HE2 := Lib.hid (show eqT (Tr.mk n ats ks t) (Tr.mk n' ats' ks' t') = false by
          rw [HE.out]
          refine eqT_no fun h => hxy ?_
          have h1 := HX.out
          rw [h, HY.out] at h1
          exact (Option.some.inj h1).symm)
        clear hx hy hbw hxy hnx hny
        go_upto_region 6 with fail
        go_region_law (first | (go_simp; go_at_call 9; refine HCC.out.mono ?_; rintro e w5 ⟨rfl, hb5⟩))
        all_goals
          clear p0 p1 p2 p3 q0 q1 q2 q3 z2 z3
          have HB5 := Lib.hid ((HB.out.drew).trans (hb5.mono HB.out.size))
          clear hb5
          go_wp2
          go_ret
          exact ⟨ret_bool HE2.out.symm, HB1.out.trans (HB5.out.mono HB1.out.size)⟩
    · have hle : (ks.length : Int) ≤ k := by omega
      have HE2 := Lib.hid (show eqT (Tr.mk n ats ks t) (Tr.mk n' ats' ks' t') = true by
        rw [HE.out]
        refine eqT_yes ?_
        have := HTK.out
        rw [List.take_of_length_le (by omega), List.take_of_length_le (by rw [← HLM.out]; omega)] at this
        exact this)
      go_wp2
      go_ret
      exact ⟨ret_bool HE2.out.symm, HB1.out.trans (HB.out.mono HB1.out.size)⟩
theorem refSame_all : ∀ (m : Nat) (x : Tr), x.size ≤ m → SameAt 9 x
  | 0, x, h => absurd x.size_pos (by omega)
  | m + 1, x, h => rsame_step x fun k hk => refSame_all m k (by
    have h1 := Tr.size_mem hk
    have h2 := x.size_ks
    omega)
theorem refSame_any (x : Tr) : SameAt 9 x := refSame_all x.size x (Nat.le_refl _)
end
/-! Bui3 -/
section
open Go.RowKit

theorem el_all (nn : Nat) (l : List UInt8) (w0 : World) (vL : Value) (ts : List Tk) (hR : RdTs w0 vL (ts.map (Tk.mem l))) (hS : tS ts ts.length ≤ 1000000) (hl : ts.length ≤ 100000) (hn9 : ∀ x ∈ ts, x.k = 1 ∨ x.k = 2 → x.n ≠ []) : ∀ m, ElS nn l w0 vL ts m
  | 0 => fun B i c d x st w hm hx hk hst hd hc hB h0 hbr => by
    have := (List.getElem?_eq_some_iff.1 hx).1
    omega
  | m + 1 => el_step nn l w0 vL ts hR hS hl hn9 m (el_all nn l w0 vL ts hR hS hl hn9 m)
/-! where Build stands -/
def Gb (nn : Nat) (ts : List Tk) (r : Option Tr) (j cc : Nat) (e q : Int) : Prop := Gr nn ts [] 0 0 ⟨[], r, cc⟩ j cc e q
section
variable {nn j cc : Nat} {ts : List Tk} {r : Option Tr} {e q : Int}
theorem Gb.el {x : Tr} {i c' : Nat} {e' q' : Int} (h : Gb nn ts none j cc 0 q) (hg : Gr nn ts [] j cc (leaveG ⟨x :: [], none, c'⟩) i c' e' q') : Gb nn ts (some x) i c' e' q' := by
  obtain ⟨h1, h2, h3⟩ := h.ok
  have hg : Gr nn ts [] j cc ⟨[], some x, c'⟩ i c' e' q' := hg
  rcases hg with ⟨g1, g2, g3, g4⟩ | ⟨g1, o, g2, g3⟩
  · exact .inl ⟨g1, g2, g3, h3.trans g4⟩
  · exact .inr ⟨g1, o, g2, h3.trans g3⟩
theorem Gb.blank {y : Tk} (h : Gb nn ts r j cc 0 q) (hy : ts[j]? = some y) (hk : y.k = 5 ∨ y.k = 6 ∨ (y.k = 4 ∧ y.t.all bl = true)) : Gb nn ts r (j + 1) cc 0 0 := by
  obtain ⟨h1, h2, h3⟩ := h.ok
  refine .inl ⟨rfl, rfl, h2, h3.trans ?_⟩
  rw [drop_at hy]
  refine grow_ok3 ?_
  unfold addG
  rw [if_neg (by omega), if_neg (by omega)]
  by_cases h4 : y.k = 4
  · rw [if_pos h4]
    show (if y.t.all bl = true then _ else _) = _
    rcases hk with hk | hk | hk
    · omega
    · omega
    · rw [if_pos hk.2]
  · rw [if_neg h4]
theorem Gb.wrong {y : Tk} (h : Gb nn ts r j cc 0 q) (hy : ts[j]? = some y) (hk : (y.k = 1 ∨ y.k = 2) ∧ r.isSome = true ∨ y.k = 3 ∨ (y.k = 4 ∧ y.t.all bl = false)) : Gb nn ts r (j + 1) cc 16 (y.o : Int) := by
  obtain ⟨h1, h2, h3⟩ := h.ok
  refine .inr ⟨by decide, y.o, rfl, h3.trans ?_⟩
  rw [drop_at hy]
  refine grow_no3 ?_
  unfold addG
  rcases hk with ⟨hk, hr⟩ | hk | ⟨hk, ht⟩
  · rw [if_pos hk]
    exact if_pos hr
  · rw [if_neg (by omega), if_pos hk]
    rfl
  · rw [if_neg (by omega), if_neg (by omega), if_pos hk]
    show (if y.t.all bl = true then _ else _) = _
    rw [if_neg (by rw [ht]; decide)]
theorem Gb.bad (h : Gb nn ts r j cc e q) (he : e ≠ 0) : ∃ o : Nat, q = (o : Int) ∧ growM nn ⟨[], none, 0⟩ ts = .bad e o := by
  rcases h with h | ⟨_, o, h1, h2⟩
  · exact absurd h.1 he
  · exact ⟨o, h1, h2⟩
theorem Gb.none (h : Gb nn ts none j cc 0 q) (hj : ts.length ≤ j) : Gb nn ts none j cc 16 (nn : Int) := by
  obtain ⟨h1, h2, h3⟩ := h.ok
  refine .inr ⟨by decide, nn, rfl, h3.trans ?_⟩
  rw [List.drop_eq_nil_of_le hj, growM, if_neg (by simp)]
theorem Gb.some {x : Tr} (h : Gb nn ts (some x) j cc 0 q) (hj : ts.length ≤ j) : growM nn ⟨[], .none, 0⟩ ts = .ok x := by
  obtain ⟨h1, h2, h3⟩ := h.ok
  refine Eq.trans h3 ?_
  rw [List.drop_eq_nil_of_le hj, growM, if_neg (by simp)]
end
theorem trim_is {s : List UInt8} {r : ByteArray} (h : TrimIs (str s) r) : (r.toList == []) = s.all bl := by
  rw [trim_one h (trimF_is (str s))]
  exact trim_nil s
/-- what is asked of the tokens -/
theorem toks_ok {l : List UInt8} {ts : List Tk} {r : List UInt8} (h : allM l = .ok ts r) (hl : l.length ≤ 65536) : tS ts ts.length ≤ 1000000 ∧ ts.length ≤ 100000 ∧ (∀ x ∈ ts, x.k = 1 ∨ x.k = 2 → x.n ≠ []) ∧ (∀ x ∈ ts, x.k = 1 ∨ x.k = 2 ∨ x.k = 3 ∨ x.k = 4 ∨ x.k = 5 ∨ x.k = 6) := by
  have hm : ∀ (ts : List Tk) {r : List UInt8}, Chain l r ts → ts.length ≤ r.length := by
    intro ts
    induction ts with
    | nil => intro r _; simp
    | cons t ts ih =>
      rintro r ⟨c, r1, r2, hr, hp, hc⟩
      subst hr
      have h1 := ih hc
      have h2 := piece_len hp
      simp only [List.length_cons]
      omega
  have hg := (chain_gd ts (all_chain h) (Nat.le_refl _)).2
  refine ⟨?_, ?_, fun x hx hk => ?_, fun x hx => ?_⟩
  · have := all_tl h
    unfold tS
    rw [List.take_length]
    omega
  · have := hm ts (all_chain h)
    omega
  · obtain ⟨i, hi⟩ := List.getElem?_of_mem hx
    have := hg i x hi
    unfold Gd at this
    rcases this with h | h | h | h | h
    · omega
    · omega
    · omega
    · omega
    · exact h.2.1.1
  · obtain ⟨i, hi⟩ := List.getElem?_of_mem hx
    have := hg i x hi
    unfold Gd at this
    rcases this with h | h | h | h | h <;> omega
/-- what is asked of the answer's Build -/
def RBuildP (l : List UInt8) (w : World) (e : Ending) (w' : World) : Prop :=
  Below w.heap.size w w' ∧ match buildM l with
  | .ok t => ∃ va vk, e = .returned (.tuple #[nodeV t va vk, .int .i64 0, .int .i64 0]) ∧ NdV w' (allF w') t va vk
  | .bad c o => e = .returned (.tuple #[.agg #[.string ⟨#[]⟩, .slice none 0 0, .slice none 0 0, .string ⟨#[]⟩], .int .i64 c, .int .i64 (o : Int)])
theorem rbuild_results (tmps : Array Value) (w : World) (A : Nat) (a b c d y z : Value) (h2 : tmps.getD 2 undef = .pointer (some ⟨A, 0, none⟩)) (h3 : tmps.getD 3 undef = y) (h4 : tmps.getD 4 undef = z)
    (hA : w.heap[A]? = some (.cells #[a, b, c, d] 26 (0, 0))) :
    (results Tryz.f8 tmps).run Tryz.prog w = .ok (.tuple #[.agg #[a, b, c, d], y, z]) w := by
  have h2' : tmps[2]?.getD undef = .pointer (some ⟨A, 0, none⟩) := by simpa using h2
  have h3' : tmps[3]?.getD undef = y := by simpa using h3
  have h4' : tmps[4]?.getD undef = z := by simpa using h4
  have l1 := run_loadVar_row w A 26 26 #[a, b, c, d] (0, 0) _ hA Tryz.underlying26 rfl (by kernel_rfl)
  simp [results, Tryz.results8, h2', h3', h4', asAddr, l1]
/-- nothing that was read lies in the result variable -/
theorem at_apart {w : World} {A : Nat} {va : Value} {l : List At2} (hA : w.heap[A]? = some (.cells #[.string ⟨#[]⟩, .slice none 0 0, .slice none 0 0, .string ⟨#[]⟩] 26 (0, 0))) (ha : RdAs w va l) (hl : l ≠ []) : ∀ k, va.ownBlock = some k → k ≠ A := by
  intro k hk
  rcases ha with ⟨rfl, _⟩ | ⟨a, cap, rfl, _, _, h5⟩
  · cases hk
  · cases hk
    obtain ⟨x, hx⟩ : ∃ x, l[0]? = some x := ⟨_, List.getElem?_eq_getElem (List.length_pos_iff.2 hl)⟩
    obtain ⟨g1, g2⟩ := h5 0 x hx
    rw [Nat.zero_mul, show a.add 0 = a by unfold Addr.add; rw [if_pos rfl]] at g1 g2
    rintro rfl
    rw [cell_of_row w a.block _ _ _ (0, 0) hA] at g2
    match ho : a.off with
    | 0 => rw [ho] at g2; simp at g2
    | 1 => rw [ho] at g2; simp at g2
    | 2 =>
      unfold World.cell? at g1
      rw [hA] at g1
      simp only [ho] at g1
      split at g1 <;> simp at g1
    | n + 3 => rw [ho] at g2; simp at g2
theorem kid_apart {w : World} {A : Nat} {x : Tr} {a : Addr} (hA : w.heap[A]? = some (.cells #[.string ⟨#[]⟩, .slice none 0 0, .slice none 0 0, .string ⟨#[]⟩] 26 (0, 0))) (h0 : w.cell? a = some (.string (str x.n))) (h3 : w.cell? (a.add 3) = some (.string (str x.t))) (hx : x.n ≠ [] ∨ x.t ≠ []) : a.block ≠ A := by
  rintro rfl
  have e3 : (a.add 3).block = a.block := add_blk a 3
  have hne : ∀ {s : List UInt8}, str s = ⟨#[]⟩ → s = [] := fun {s} h => by
    have := congrArg ByteArray.size h
    rw [size_str] at this
    exact List.length_eq_zero_iff.1 this
  obtain ⟨bk, off, inn⟩ := a
  unfold World.cell? at h0 h3
  rw [e3] at h3
  dsimp only at h0 h3 hA
  rw [hA] at h0 h3
  have hs : inn.isSome = false := by
    cases hi : inn.isSome with
    | false => rfl
    | true => rw [hi] at h0; cases h0
  rw [hs] at h0
  have ha3 : (Addr.add ⟨bk, off, inn⟩ 3) = ⟨bk, off + 3, none⟩ := by unfold Addr.add; rw [if_neg (by decide)]
  rw [ha3] at h3
  match off, h0, h3 with
  | 0, h0, h3 =>
    have g0 : Value.string ⟨#[]⟩ = .string (str x.n) := by simpa using h0
    have g3 : Value.string ⟨#[]⟩ = .string (str x.t) := by simpa using h3
    simp only [Value.string.injEq] at g0 g3
    rcases hx with h | h
    · exact h (hne g0.symm)
    · exact h (hne g3.symm)
  | 1, h0, h3 => simp at h0
  | 2, h0, h3 => simp at h0
  | 3, h0, h3 => simp at h3
  | n + 4, h0, h3 => simp at h0
theorem ksB_mem : ∀ (l : List Tr) (b : Bool), Tr.ksB b l = true → ∀ y ∈ l, (y.n ≠ [] ∨ y.t ≠ []) ∧ (y.ks = [] ∨ y.rightB = true)
  | [], _, _, y, hy => by cases hy
  | x :: l, b, h, y, hy => by
    obtain ⟨h1, h2⟩ := ks_parts h
    rcases List.mem_cons.1 hy with rfl | hy
    · rcases h1 with h1 | h1
      · exact ⟨.inr h1.2.2.2.1, .inl h1.2.2.1⟩
      · exact ⟨.inl h1.1, .inr h1.2⟩
    · exact ksB_mem l _ h2 y hy
theorem NdV.apart {w : World} {A : Nat} {F : Nat → Prop} {x : Tr} {va vk : Value} (hA : w.heap[A]? = some (.cells #[.string ⟨#[]⟩, .slice none 0 0, .slice none 0 0, .string ⟨#[]⟩] 26 (0, 0))) (h : NdV w F x va vk) : (x.ks = [] ∨ x.rightB = true) → NdV w (fun b => F b ∧ b ≠ A) x va vk := by
  induction h with
  | leaf ha hb => exact fun _ => .leaf ha fun hn q hq => ⟨hb hn q hq, at_apart hA ha hn q hq⟩
  | @kids n ats ks t va a cap ka kk ha hb hF hc hm hcell hk ih =>
    intro hx
    by_cases hks : ks = []
    · subst hks
      exact .kids ka kk ha (fun hn q hq => ⟨hb hn q hq, at_apart hA ha hn q hq⟩) (fun h => absurd rfl h) hc hm hcell (fun i x hx => by simp at hx)
    · have hr : Tr.ksB false ks = true := (right_parts (hx.resolve_left hks)).2.2.2
      have hmem := ksB_mem ks false hr
      obtain ⟨y, hy⟩ : ∃ y, ks[0]? = some y := ⟨_, List.getElem?_eq_getElem (List.length_pos_iff.2 hks)⟩
      have c0 := hcell 0 y 0 (.string (str y.n)) hy (by simp [ndL])
      have c3 := hcell 0 y 3 (.string (str y.t)) hy (by simp [ndL])
      rw [show a.add (0 * 4 + 0) = a by unfold Addr.add; rw [if_pos rfl]] at c0
      exact .kids ka kk ha (fun hn q hq => ⟨hb hn q hq, at_apart hA ha hn q hq⟩) (fun h => ⟨hF h, kid_apart hA c0 c3 (hmem y (List.mem_of_getElem? hy)).1⟩) hc hm hcell (fun i x hi => ih i x hi (hmem x (List.mem_of_getElem? hi)).2)
/-- Build's loop -/
structure Bi (w w0 : World) (nn : Nat) (ts : List Tk) (A B M : Nat) (vL : Value) (fd : Bool) (x : Tr) (va vk : Value) (F : Nat → Prop) (j cc : Nat) (e q : Int) (wr : World) : Prop where
  b : Below w0.heap.size w0 wr
  br : Br wr B vL j cc e q
  root : wr.heap[M]? = some (.cells #[.string (str x.n), va, vk, .string (str x.t)] 26 (0, 0))
  nd : NdV wr F x va vk
  fF : ∀ b, F b → b < wr.heap.size ∧ b ≠ B ∧ b ≠ M
  g : Gb nn ts (if fd then some x else none) j cc e q
  jl : j ≤ ts.length
  bd : A < w0.heap.size ∧ w0.heap.size ≤ B ∧ w0.heap.size ≤ M ∧ B ≠ M
  nA : fd = false → x = Tr.nil ∧ va = .slice none 0 0 ∧ vk = .slice none 0 0
section
variable {w w0 wr w' : World} {nn A B M j cc j' c' : Nat} {ts : List Tk} {vL va vk : Value} {fd : Bool} {x : Tr} {F : Nat → Prop} {e q e' q' : Int}
theorem Bi.move (h : Bi w w0 nn ts A B M vL fd x va vk F j cc e q wr) (hg : wr.grownBy w' (some B)) (hb : Br w' B vL j' c' e' q') (hG : Gb nn ts (if fd then some x else none) j' c' e' q') (hj : j' ≤ ts.length) : Bi w w0 nn ts A B M vL fd x va vk F j' c' e' q' w' := by
  obtain ⟨b1, b2, b3, b4⟩ := h.bd
  refine ⟨h.b.grown hg h.b.size (fun q e => by cases e; exact b2), hb, (hg.block M (Array.getElem?_eq_some_iff.1 h.root).1 (fun e => b4 (by cases e; rfl))).trans h.root, h.nd.frame (fun b hF => ?_) (fun b hF => hF), fun b hF => ?_, hG, hj, h.bd, h.nA⟩
  · obtain ⟨f1, f2, f3⟩ := h.fF b hF
    exact hg.block b f1 (fun e => f2 (by cases e; rfl))
  · obtain ⟨f1, f2, f3⟩ := h.fF b hF
    exact ⟨Nat.lt_of_lt_of_le f1 hg.size, f2, f3⟩
theorem Bi.below (h : Bi w w0 nn ts A B M vL fd x va vk F j cc e q wr) (hb : Below wr.heap.size wr w') : Bi w w0 nn ts A B M vL fd x va vk F j cc e q w' :=
  h.move (gB_below hb) ((hb.block B h.br.lt).trans h.br) h.g h.jl
theorem Bi.cells (h : Bi w w0 nn ts A B M vL fd x va vk F j cc e q wr) : wr.cell? ⟨M, 0, none⟩ = some (.string (str x.n)) ∧ wr.cell? ⟨M, 1, none⟩ = some va ∧ wr.cell? ⟨M, 2, none⟩ = some vk ∧ wr.cell? ⟨M, 3, none⟩ = some (.string (str x.t)) :=
  ⟨by rw [cell_of_row wr M 0 _ _ (0, 0) h.root]; rfl, by rw [cell_of_row wr M 1 _ _ (0, 0) h.root]; rfl, by rw [cell_of_row wr M 2 _ _ (0, 0) h.root]; rfl, by rw [cell_of_row wr M 3 _ _ (0, 0) h.root]; rfl⟩
/-- the element has been read and is stored -/
theorem Bi.el {y : Tr} {ya yk : Value} {F2 : Nat → Prop} {w7 : World} (h : Bi w w0 nn ts A B M vL false x va vk F j cc 0 q wr) (hbr : Br w' B vL j' c' e' q') (hn : NdV w' F2 y ya yk) (hF : ∀ b, F2 b → b < w'.heap.size ∧ (b < w0.heap.size ∨ wr.heap.size ≤ b)) (hg : wr.grownBy w' (some B))
    (hgr : Gr nn ts [] j cc (leaveG ⟨y :: [], none, c'⟩) j' c' e' q') (hj : j' ≤ ts.length) (h7 : ∀ b, b ≠ M → w7.heap[b]? = w'.heap[b]?) (hm : w7.heap[M]? = some (.cells #[.string (str y.n), ya, yk, .string (str y.t)] 26 (0, 0))) (h8 : Below w0.heap.size w' w7) :
    Bi w w0 nn ts A B M vL true y ya yk F2 j' c' e' q' w7 := by
  obtain ⟨b1, b2, b3, b4⟩ := h.bd
  have hB := h.br.lt
  have hM := (Array.getElem?_eq_some_iff.1 h.root).1
  have hf : ∀ b, F2 b → b < w'.heap.size ∧ b ≠ B ∧ b ≠ M := fun b hb => by
    obtain ⟨f1, f2⟩ := hF b hb
    exact ⟨f1, by omega, by omega⟩
  refine ⟨(h.b.grown hg h.b.size (fun q e => by cases e; exact b2)).trans h8, (h7 B b4).trans hbr, hm, hn.frame (fun b hF => h7 b (hf b hF).2.2) (fun b hF => hF), fun b hb => ?_, ?_, hj, h.bd, fun h => by cases h⟩
  · obtain ⟨f1, f2⟩ := hf b hb
    exact ⟨Nat.lt_of_lt_of_le f1 h8.size, f2⟩
  · exact Gb.el h.g hgr
end
end
/-! BuiW3 -/
section
open Go.RowKit

def stA0 (w : World) (A : Nat) : World := (((w.setCell ⟨A, 0, none⟩ (.string ⟨#[]⟩)).setCell ⟨A, 1, none⟩ (.slice none 0 0)).setCell ⟨A, 2, none⟩ (.slice none 0 0)).setCell ⟨A, 3, none⟩ (.string ⟨#[]⟩)
theorem stA_done {w w9 : World} {A : Nat} (hb : Below w.heap.size w w9) (hA : w9.heap[A]? = some (.cells #[.string ⟨#[]⟩, .slice none 0 0, .slice none 0 0, .string ⟨#[]⟩] 26 (0, 0))) (h : w.heap.size ≤ A) :
    (stA0 w9 A).heap[A]? = some (.cells #[.string ⟨#[]⟩, .slice none 0 0, .slice none 0 0, .string ⟨#[]⟩] 26 (0, 0)) ∧ Below w.heap.size w (stA0 w9 A) := by
  unfold stA0
  have h1 := heap_setCell_same w9 A 0 _ _ (.string ⟨#[]⟩) hA
  have h2 := heap_setCell_same _ A 1 _ _ (.slice none 0 0) h1
  have h3 := heap_setCell_same _ A 2 _ _ (.slice none 0 0) h2
  have h4 := heap_setCell_same _ A 3 _ _ (.string ⟨#[]⟩) h3
  refine ⟨h4, ?_⟩
  have hm : Mvd [A] w9 ((((w9.setCell ⟨A, 0, none⟩ (.string ⟨#[]⟩)).setCell ⟨A, 1, none⟩ (.slice none 0 0)).setCell ⟨A, 2, none⟩ (.slice none 0 0)).setCell ⟨A, 3, none⟩ (.string ⟨#[]⟩)) := ((Mvd.of_set _ _ _ _).trans (Mvd.of_set _ _ _ _)).trans ((Mvd.of_set _ _ _ _).trans (Mvd.of_set _ _ _ _))
  exact hb.trans (hm.below hb.size (fun k hk => by rw [List.mem_singleton.1 hk]; exact h))
set_option maxRecDepth 100000 in
set_option maxHeartbeats 8000000 in
theorem RBuild_any (l : List UInt8) (hl : l.length ≤ 1000000) (w : World) : Calls Tryz.prog 8 #[.string (str l)] w (RBuildP l w) := by
  obtain ⟨A, hA⟩ : ∃ A, A = w.heap.size := ⟨_, rfl⟩
  obtain ⟨w1, hw1⟩ : ∃ w1, w1 = w.alloc (.cells #[.string ⟨#[]⟩, .slice none 0 0, .slice none 0 0, .string ⟨#[]⟩] 26) := ⟨_, rfl⟩
  have hb1 : Below w.heap.size w w1 := by rw [hw1]; exact (Below.refl _ _).alloc (Nat.le_refl _) _
  have hA1 : w1.heap[A]? = some (.cells #[.string ⟨#[]⟩, .slice none 0 0, .slice none 0 0, .string ⟨#[]⟩] 26 (0, 0)) := by rw [hw1, hA]; exact heap_alloc_new w _
  have HALL := Lib.hid (refAll_any l hl w1)
  have HW1 := Lib.hid hw1
  have HA := Lib.hid hA
  have HB1 := Lib.hid hb1
  have HA1 := Lib.hid hA1
  have hszI : ((str l).size : Int) = (l.length : Int) := by rw [size_str]
  have hlI : (l.length : Int) ≤ 1000000 := by omega
  clear hA hw1 hb1 hA1
  go_enter Tryz.func8, Tryz.ntmps8
  go_upto_region 1 with fail
  rw [← HW1.out, ← HA.out]
  go_wp2_with fail
  refine HALL.out.mono ?_
  rintro e w0 ⟨hb0, hq⟩
  cases hM : allM l with
  | bad c r =>
    rw [hM] at hq
    dsimp only at hq
    subst hq
    have HM := Lib.hid (show buildM l = .bad c (l.length - r.length) by unfold buildM; rw [hM])
    have hc0 : (c == 0) = false := by simpa using all_ne hM
    have hcN : (c != 0) = true := by unfold bne; rw [hc0]; rfl
    have hAr := (hb0.block A (Array.getElem?_eq_some_iff.1 HA1.out).1).trans HA1.out
    have HB0 := Lib.hid (HB1.out.trans (hb0.mono HB1.out.size))
    have HAR := Lib.hid hAr
    have f0 := frozen_of_row w0 A 0 _ _ hAr
    have f1 := frozen_of_row w0 A 1 _ _ hAr
    have f2 := frozen_of_row w0 A 2 _ _ hAr
    have f3 := frozen_of_row w0 A 3 _ _ hAr
    clear hM hb0 hAr
    go_wp2_with (first | (refine wpList_store_row rfl 26 _ _ rfl A #[.string ⟨#[]⟩, .slice none 0 0, .slice none 0 0, .string ⟨#[]⟩] rfl rfl 26 _ HAR.out (by kernel_rfl) rfl (by simp [Value.oneCell']) ?_))
    refine bodyPost_ret (rbuild_results _ _ A _ _ _ _ _ _ rfl rfl rfl (setRow_heap _ A _ _ _ _ HAR.out)) rfl ?_
    exact ⟨below_setRow2 HB0.out (by rw [HA.out]; exact Nat.le_refl _), by rw [HM.out]; rfl⟩
  | ok ts r =>
    rw [hM] at hq
    dsimp only at hq
    obtain ⟨vL, rfl, hR⟩ := hq
    obtain ⟨la, lc, hvL⟩ := RdSl.shape hR
    rw [List.length_map] at hvL
    subst hvL
    have hbl : l.length ≤ 65536 := by
      by_cases hb : 65536 < l.length
      · unfold allM at hM
        rw [if_pos hb] at hM
        cases hM
      · omega
    obtain ⟨hS, hln, hn9, hkd⟩ := toks_ok hM hbl
    have HELA := Lib.hid (el_all l.length l w0 (.slice la ts.length lc) ts hR hS hln hn9)
    have HGM := Lib.hid (show buildM l = growM l.length ⟨[], none, 0⟩ ts by unfold buildM; rw [hM])
    have HKD := Lib.hid hkd
    have HS := Lib.hid hS
    have HR := Lib.hid hR
    have HA0 := Lib.hid ((hb0.block A (Array.getElem?_eq_some_iff.1 HA1.out).1).trans HA1.out)
    have HB0 := Lib.hid (HB1.out.trans (hb0.mono HB1.out.size))
    clear hb0 hM hR hS hn9 hkd hbl HALL
    obtain ⟨B, hB⟩ : ∃ B, B = w0.heap.size := ⟨_, rfl⟩
    obtain ⟨M, hMM⟩ : ∃ M, M = w0.heap.size + 1 := ⟨_, rfl⟩
    obtain ⟨w2, hw2⟩ : ∃ w2, w2 = (w0.alloc (.cells #[.slice la ts.length lc, .int .i64 0, .int .i64 0, .int .i64 0, .int .i64 0] 58)).alloc (.cells #[.string ⟨#[]⟩, .slice none 0 0, .slice none 0 0, .string ⟨#[]⟩] 26) := ⟨_, rfl⟩
    have hb2 : Below w0.heap.size w0 w2 := by rw [hw2]; exact ((Below.refl _ _).alloc (Nat.le_refl _) _).alloc (by simp) _
    have hM2 : w2.heap[M]? = some (.cells #[.string ⟨#[]⟩, .slice none 0 0, .slice none 0 0, .string ⟨#[]⟩] 26 (0, 0)) := by
      rw [hw2, hMM]; exact heap_alloc2_new w0 _ _
    have hB2 : Br w2 B (.slice la ts.length lc) 0 0 0 0 := by
      unfold Br
      rw [hw2, hB, Below.heap_alloc _ _ _ (by simp)]
      exact heap_alloc_new w0 _
    have hAlt : A < w0.heap.size := (Array.getElem?_eq_some_iff.1 HA0.out).1
    have HBI := Lib.hid (show Bi w w0 l.length ts A B M (.slice la ts.length lc) false Tr.nil (.slice none 0 0) (.slice none 0 0) (fun _ => False) 0 0 0 0 w2 from
      ⟨hb2, hB2, hM2, .leaf (.inl ⟨rfl, rfl⟩) (fun h => absurd rfl h), fun b hb => hb.elim, .inl ⟨rfl, rfl, Nat.zero_le _, rfl⟩, Nat.zero_le _, ⟨hAlt, by omega, by omega, by omega⟩, fun _ => ⟨rfl, rfl, rfl⟩⟩)
    have HW2 := Lib.hid hw2
    have HBE := Lib.hid hB
    have HME := Lib.hid hMM
    clear hw2 hB hMM hb2 hM2 hB2 hAlt
    go_wp2_with fail
    rw [← HW2.out, ← HME.out, ← HBE.out]
    go_loopw [10] (fun tx wr => ∃ (fd : Bool) (x : Tr) (va vk : Value) (F : Nat → Prop) (j cc : Nat) (e q : Int), tx = .bool fd ∧ Bi w w0 l.length ts A B M (.slice la ts.length lc) fd x va vk F j cc e q wr) (fun _ wr => ts.length - jOf B wr)
    case atStart => exact ⟨false, Tr.nil, _, _, _, 0, 0, 0, 0, rfl, HBI.out⟩
    case round =>
      obtain ⟨fd, x, va, vk, F, j, cc, e, q, rfl, hbi⟩ := hrel
      have HBI := Lib.hid hbi
      obtain ⟨b0, b1, b2, b3, b4⟩ := hbi.br.cells
      have HJ := Lib.hid (show jOf B wr = j by unfold jOf; rw [hbi.br.cells.2.1]; simp)
      have hjl := hbi.jl
      clear hbi
      obtain ⟨gb, hgb⟩ : ∃ gb, gb = decide (j < ts.length ∧ e = 0) := ⟨_, rfl⟩
      have HGB := Lib.hid hgb
      have hlnI : (ts.length : Int) ≤ 100000 := by omega
      go_upto_region 7 with fail
      go_cut [40] from 27 to 41 (fun tt wx => tt = .bool gb ∧ Below wr.heap.size wr wx)
      case first =>
        by_cases hj : j < ts.length
        · have hjI : (j : Int) < (ts.length : Int) := by omega
          by_cases he : e = 0
          · have heT : (e == 0) = true := by simp [he]
            have hb1 : gb = true := by rw [hgb]; exact decide_eq_true ⟨hj, he⟩
            clear hgb hj he
            first | go_quiet (fail) | skip
            go_wp2_with fail
            go_meet
            exact ⟨by rw [hb1], by first | exact Below.refl _ _ | exact below_drewN (Below.refl _ _) _⟩
          · have heT : (e == 0) = false := by simpa using he
            have hb1 : gb = false := by rw [hgb]; exact decide_eq_false (fun h => he h.2)
            clear hgb hj he
            first | go_quiet (fail) | skip
            go_wp2_with fail
            go_meet
            exact ⟨by rw [hb1], by first | exact Below.refl _ _ | exact below_drewN (Below.refl _ _) _⟩
        · have hjI : ¬ (j : Int) < (ts.length : Int) := by omega
          have hb1 : gb = false := by rw [hgb]; exact decide_eq_false (fun h => hj h.1)
          clear hgb hj
          first | go_quiet (fail) | skip
          go_wp2_with fail
          go_meet
          exact ⟨by rw [hb1], by first | exact Below.refl _ _ | exact below_drewN (Below.refl _ _) _⟩
      case rest =>
      obtain ⟨rfl, hbd⟩ := hcut
      obtain ⟨wd, hwd⟩ : ∃ v, v = wc := ⟨_, rfl⟩
      rw [← hwd] at hbd ⊢
      clear hwd b0 b1 b2 b3 b4 hgb
      have HBD := Lib.hid (HBI.out.below hbd)
      obtain ⟨b0, b1, b2, b3, b4⟩ := HBD.out.br.cells
      clear hbd
      go_upto_if 40 with fail
      cases gb with
      | false =>
        have hex : e ≠ 0 ∨ ts.length ≤ j := by
          have := of_decide_eq_false HGB.out.symm
          by_cases he : e = 0
          · exact .inr (by omega)
          · exact .inl he
        have HEX := Lib.hid hex
        clear hex
        go_upto_region 16 with fail
        obtain ⟨fb, hfb⟩ : ∃ fb, fb = (decide (e = 0) && !fd) := ⟨_, rfl⟩
        have HFB := Lib.hid hfb
        go_cut [105] from 97 to 106 (fun tt wx => tt = .bool fb ∧ wx = wd)
        case first =>
          by_cases he : e = 0
          · have heT : (e == 0) = true := by simp [he]
            have hb1 : fb = !fd := by rw [hfb, decide_eq_true he]; rfl
            clear hfb he
            go_wp2_with fail
            go_meet
            exact ⟨by rw [hb1], rfl⟩
          · have heT : (e == 0) = false := by simpa using he
            have hb1 : fb = false := by rw [hfb, decide_eq_false he]; rfl
            clear hfb he
            go_wp2_with fail
            go_meet
            exact ⟨by rw [hb1], rfl⟩
        case rest =>
        obtain ⟨rfl, hwx⟩ := hcut
        obtain rfl : wd = wc := hwx.symm
        clear hwx hfb
        go_upto_if 105 with fail
        go_cut [] from 106 to 110 (fun wx => ∃ e' q' : Int, Br wx B (.slice la ts.length lc) j cc e' q' ∧ wd.grownBy wx (some B) ∧ Gb l.length ts (if fd then some x else none) j cc e' q' ∧ ((e' = 0 ∧ fd = true ∧ buildM l = .ok x) ∨ (e' ≠ 0 ∧ ∃ o : Nat, q' = (o : Int) ∧ buildM l = .bad e' o)))
        case first =>
          cases fb with
          | true =>
            have hff : e = 0 ∧ fd = false := by
              have := HFB.out
              cases fd
              · simp at this; exact ⟨this, rfl⟩
              · simp at this
            obtain ⟨rfl, rfl⟩ := hff
            have HFL := Lib.hid (fail3_at (show Br wd B (.slice la ts.length lc) j cc 0 q from HBD.out.br) 16 (l.length : Int))
            go_wp2_with (go_at_call 25; refine HFL.out.mono ?_; rintro e w10 ⟨rfl, hbr10, hg10⟩)
            go_meet
            refine ⟨16, l.length, hbr10, hg10, Gb.none HBD.out.g (HEX.out.resolve_left (fun h => h rfl)), .inr ⟨by decide, ?_⟩⟩
            obtain ⟨o, h1, h2⟩ := (Gb.none HBD.out.g (HEX.out.resolve_left (fun h => h rfl))).bad (by decide)
            exact ⟨o, h1, by rw [HGM.out]; exact h2⟩
          | false =>
            go_wp2_with fail
            go_meet
            refine ⟨e, q, HBD.out.br, gB_refl _ _, HBD.out.g, ?_⟩
            by_cases he : e = 0
            · have hfd : fd = true := by have := HFB.out; rw [decide_eq_true he] at this; simpa using this
              subst hfd
              subst he
              exact .inl ⟨rfl, rfl, by rw [HGM.out]; exact Gb.some HBD.out.g (HEX.out.resolve_left (fun h => h rfl))⟩
            · obtain ⟨o, h1, h2⟩ := HBD.out.g.bad he
              exact .inr ⟨he, o, h1, by rw [HGM.out]; exact h2⟩
        case rest =>
        obtain ⟨e9, q9, hbr9, hg9, hgb9, hcs⟩ := hcut
        obtain ⟨w9, hw9⟩ : ∃ v, v = wc := ⟨_, rfl⟩
        rw [← hw9] at hbr9 hg9 ⊢
        clear hw9 b0 b1 b2 b3 b4
        have HBI9 := Lib.hid (HBD.out.move hg9 hbr9 hgb9 HBD.out.jl)
        obtain ⟨b0, b1, b2, b3, b4⟩ := hbr9.cells
        have HAR := Lib.hid (show w9.heap[A]? = some (.cells #[.string ⟨#[]⟩, .slice none 0 0, .slice none 0 0, .string ⟨#[]⟩] 26 (0, 0)) from (HBI9.out.b.block A HBI9.out.bd.1).trans HA0.out)
        have f0 := frozen_of_row w9 A 0 _ _ HAR.out
        have f1 := frozen_of_row w9 A 1 _ _ HAR.out
        have f2 := frozen_of_row w9 A 2 _ _ HAR.out
        have f3 := frozen_of_row w9 A 3 _ _ HAR.out
        have a0 : w9.cell? ⟨A, 0, none⟩ = some (.string ⟨#[]⟩) := by rw [cell_of_row w9 A 0 _ _ (0, 0) HAR.out]; rfl
        have a1 : w9.cell? ⟨A, 1, none⟩ = some (.slice none 0 0) := by rw [cell_of_row w9 A 1 _ _ (0, 0) HAR.out]; rfl
        have a2 : w9.cell? ⟨A, 2, none⟩ = some (.slice none 0 0) := by rw [cell_of_row w9 A 2 _ _ (0, 0) HAR.out]; rfl
        have a3 : w9.cell? ⟨A, 3, none⟩ = some (.string ⟨#[]⟩) := by rw [cell_of_row w9 A 3 _ _ (0, 0) HAR.out]; rfl
        have HBW := Lib.hid (HB0.out.trans (HBI9.out.b.mono HB0.out.size))
        rcases hcs with ⟨rfl, rfl, hok⟩ | ⟨he9, o, rfl, hbad⟩
        · have HOK := Lib.hid hok
          obtain ⟨c1, c2, c3, c4, rfl, rfl⟩ := node_cells HBI9.out.nd
          obtain ⟨m0, m1, m2, m3⟩ := HBI9.out.cells
          clear hok hbr9 hg9 hgb9
          go_upto_region 20 with fail
          go_wp2_with (first | (refine wpList_store_row rfl 26 _ _ rfl A #[.string (str x.n), .slice c1 x.ats.length c2, .slice c3 x.ks.length c4, .string (str x.t)] rfl rfl 26 _ HAR.out (by kernel_rfl) rfl (by simp [Value.oneCell']) ?_))
          refine bodyPost_ret (rbuild_results _ _ A _ _ _ _ _ _ rfl rfl rfl (setRow_heap _ A _ _ _ _ HAR.out)) rfl ?_
          refine ⟨below_setRow2 HBW.out (by rw [HA.out]; exact Nat.le_refl _), ?_⟩
          rw [HOK.out]
          refine ⟨_, _, rfl, (NdV.apart HAR.out HBI9.out.nd (.inr ?_)).frame (fun b hb => setRow_other _ A b _ hb.2) (fun b hb => ?_)⟩
          · have := (build_may HOK.out).1
            unfold Tr.mayB at this
            simp only [Bool.and_eq_true] at this
            exact this.1.1
          · have := (HBI9.out.fF b hb.1).1
            show b < _
            simpa using this
        · have HBAD := Lib.hid hbad
          have heF : (e9 == 0) = false := by simpa using he9
          have heN : (e9 != 0) = true := by unfold bne; rw [heF]; rfl
          have hAB : ¬ A = B := by have h1 := HBI9.out.bd; omega
          have hBA : ¬ B = A := by have h1 := HBI9.out.bd; omega
          clear hbad he9 hbr9 hg9 hgb9
          go_upto_region 19 with fail
          have HXA := Lib.hid (stA_done (w := w) (w9 := w9) (A := A) HBW.out HAR.out (by rw [HA.out]; exact Nat.le_refl _))
          go_region_law (fail)
          all_goals
            clear a0 a1 a2 a3 b0 b1 b2 b3 b4 f0 f1 f2 f3 hAB hBA
            go_wp2_with fail
            refine bodyPost_ret (rbuild_results _ _ A (.string ⟨#[]⟩) (.slice none 0 0) (.slice none 0 0) (.string ⟨#[]⟩) (.int .i64 e9) (.int .i64 (o : Int)) rfl rfl rfl ?hA) rfl ?hQ
            case hA => first | exact HXA.out.1 | trace_state
            case hQ =>
              refine ⟨?_, by rw [HBAD.out]⟩
              first | exact HXA.out.2.drew | exact HXA.out.2 | trace_state
      | true =>
        obtain ⟨hj, rfl⟩ : j < ts.length ∧ e = 0 := of_decide_eq_true HGB.out.symm
        have hcc := HBD.out.g.ok.2.1
        have hq0 := HBD.out.g.ok.1
        subst hq0
        obtain ⟨y, hy⟩ : ∃ y, ts[j]? = some y := ⟨_, List.getElem?_eq_getElem hj⟩
        have hym : (ts.map (Tk.mem l))[j]? = some (y.mem l) := by rw [List.getElem?_map, hy]; rfl
        obtain ⟨la1, e1, ya, ⟨t0, t1, t2, t3, t4, t5, t6⟩, hyat⟩ := RdSl.elem HR.out hym
        subst e1
        obtain ⟨za, zc, rfl⟩ := RdSl.shape hyat
        have h0r := HBD.out.b
        have hcell : ∀ {A : Addr} {u : Value}, w0.cell? A = some u → wd.cell? A = some u := fun h => (h0r.cell (World.block_lt_of_cell? w0 _ h)).trans h
        have t0 := hcell t0
        have t1 := hcell t1
        have t2 := hcell t2
        have t3 := hcell t3
        have t4 := hcell t4
        have t5 := hcell t5
        have t6 := hcell t6
        have hjI : (j : Int) < (ts.length : Int) := by omega
        have HY := Lib.hid hy
        have HKY := Lib.hid (HKD.out y (List.mem_of_getElem? hy))
        clear hcell hym hy hyat
        dsimp only [Tk.mem] at t0 t1 t2 t3 t4 t5 t6
        obtain ⟨yk, yn, yats, yt, yo⟩ := y
        dsimp only at t0 t1 t2 t3 t4 t5 t6 HKY
        generalize lineS (List.take yo l) = LM at t5
        generalize colS (List.take yo l) = CM at t6
        obtain ⟨Kv, hKv⟩ : ∃ K, K = wd.heap.size := ⟨_, rfl⟩
        obtain ⟨w7, hw7⟩ : ∃ w7, w7 = (wd.alloc (.cells #[.int .i64 yk, .string (str yn), .slice za yats.length zc, .string (str yt), .int .i64 (yo : Int), .int .i64 LM, .int .i64 CM] 51)) := ⟨_, rfl⟩
        have hb7 : Below wd.heap.size wd w7 := by rw [hw7]; exact (Below.refl _ _).alloc (Nat.le_refl _) _
        have hK7 : w7.heap[Kv]? = some (.cells #[.int .i64 yk, .string (str yn), .slice za yats.length zc, .string (str yt), .int .i64 (yo : Int), .int .i64 LM, .int .i64 CM] 51 (0, 0)) := by rw [hw7, hKv]; exact heap_alloc_new wd _
        have hal : ∀ {A : Addr} {u : Value}, wd.cell? A = some u → (wd.alloc (.cells #[.int .i64 0, .string ⟨#[]⟩, .slice none 0 0, .string ⟨#[]⟩, .int .i64 0, .int .i64 0, .int .i64 0] 51)).cell? A = some u := fun h => (Below.cell ((Below.refl wd.heap.size wd).alloc (Nat.le_refl _) _) (World.block_lt_of_cell? wd _ h)).trans h
        have HB7 := Lib.hid hb7
        have HK7 := Lib.hid hK7
        have HW7 := Lib.hid hw7
        have HKV := Lib.hid hKv
        have HLP7 := Lib.hid (HBD.out.below hb7)
        clear hb7 hK7 hw7
        go_upto_region 8 with fail
        go_cut [11] from 41 to 48 (fun tt wx => tt = .pointer (some ⟨Kv, 0, none⟩) ∧ wx = w7)
        case first =>
          have s0 := hal t0
          have s1 := hal t1
          have s2 := hal t2
          have s3 := hal t3
          have s4 := hal t4
          have s5 := hal t5
          have s6 := hal t6
          have g0 := hal b0
          have g1 := hal b1
          clear hal
          go_wp2_with fail
          go_meet
          exact ⟨by rw [HKV.out], HW7.out.symm⟩
        case rest =>
        clear hal t0 t1 t2 t3 t4 t5 t6 b0 b1 b2 b3 b4
        obtain ⟨rfl, hwx⟩ := hcut
        obtain rfl : w7 = wc := hwx.symm
        clear hwx
        clear hKv
        obtain ⟨b0, b1, b2, b3, b4⟩ := HLP7.out.br.cells
        have y0 : w7.cell? ⟨Kv, 0, none⟩ = some (.int .i64 yk) := by rw [cell_of_row w7 _ 0 _ _ (0, 0) HK7.out]; rfl
        have y3 : w7.cell? ⟨Kv, 3, none⟩ = some (.string (str yt)) := by rw [cell_of_row w7 _ 3 _ _ (0, 0) HK7.out]; rfl
        have y4 : w7.cell? ⟨Kv, 4, none⟩ = some (.int .i64 (yo : Int)) := by rw [cell_of_row w7 _ 4 _ _ (0, 0) HK7.out]; rfl
        go_upto_region 9 with fail
        obtain ⟨eb, heb⟩ : ∃ eb, eb = (decide (yk = 1 ∨ yk = 2) && !fd) := ⟨_, rfl⟩
        have HEB := Lib.hid heb
        go_cut [59] from 48 to 60 (fun tt wx => tt = .bool eb ∧ wx = w7)
        case first =>
          by_cases h1 : yk = 1
          · subst h1
            have hb1 : eb = !fd := by rw [heb]; simp
            clear heb
            go_wp2_with fail
            go_meet
            exact ⟨by rw [hb1], rfl⟩
          · have h1F : (yk == 1) = false := by simpa using h1
            by_cases h2 : yk = 2
            · subst h2
              have hb1 : eb = !fd := by rw [heb]; simp
              clear heb
              go_wp2_with fail
              go_meet
              exact ⟨by rw [hb1], rfl⟩
            · have h2F : (yk == 2) = false := by simpa using h2
              have hb1 : eb = false := by rw [heb]; simp [h1, h2]
              clear heb h1 h2
              go_wp2_with fail
              go_meet
              exact ⟨by rw [hb1], rfl⟩
        case rest =>
        obtain ⟨rfl, hwx⟩ := hcut
        obtain rfl : w7 = wc := hwx.symm
        clear hwx heb
        go_upto_if 59 with fail
        cases eb with
        | true =>
          have hkf : (yk = 1 ∨ yk = 2) ∧ fd = false := by
            have := HEB.out
            simpa using this.symm
          obtain ⟨hyk, rfl⟩ := hkf
          have HEL := Lib.hid (HELA.out (ts.length - j) B j cc 0 ⟨yk, yn, yats, yt, yo⟩ [] w7 (Nat.le_refl _) HY.out hyk rfl (by omega) hcc HLP7.out.bd.2.1 HLP7.out.b HLP7.out.br)
          rw [show (((0 : Nat)) : Int) = 0 from rfl] at HEL
          clear hyk
          go_upto_region 11 with (first
            | (go_at_call 23; refine HEL.out.mono ?_; rintro r8 w8 ⟨x8, xa8, xk8, F8, j8, c8, e8, q8, rfl, hbr8, hn8, hF8, hg8, hxt8, hxn8, hj81, hj82, hgr8⟩; obtain ⟨xb, xc, xd, xe, rfl, rfl⟩ := node_cells hn8; unfold nodeV; have HBR8 := Lib.hid hbr8; have HN8 := Lib.hid hn8; have HF8 := Lib.hid hF8; have HG8 := Lib.hid hg8; have HJJ8 := Lib.hid (And.intro hj81 hj82); have HGR8 := Lib.hid hgr8; have HM8 := Lib.hid (show w8.heap[M]? = _ from (hg8.block M (Array.getElem?_eq_some_iff.1 HLP7.out.root).1 (fun e => HLP7.out.bd.2.2.2 (by cases e; rfl))).trans HLP7.out.root); clear hbr8 hn8 hF8 hg8 hxt8 hxn8 hj81 hj82 hgr8)
            | (refine wpList_store_row rfl 26 _ _ rfl M #[.string (str x8.n), .slice xb x8.ats.length xc, .slice xd x8.ks.length xe, .string (str x8.t)] rfl rfl 26 _ HM8.out (by kernel_rfl) rfl (by simp [Value.oneCell']) ?_))
          have HBI8 := Lib.hid (HLP7.out.el HBR8.out HN8.out HF8.out HG8.out HGR8.out HJJ8.out.2 (w7 := w8.setRow M #[.string (str x8.n), .slice xb x8.ats.length xc, .slice xd x8.ks.length xe, .string (str x8.t)]) (fun b hb => setRow_other _ M b _ hb) (setRow_heap _ M _ _ _ _ HM8.out) (below_setRow2 (Below.refl _ _) HLP7.out.bd.2.2.1))
          go_wp2_with fail
          go_roundw
          case rel => exact ⟨true, x8, _, _, _, j8, c8, e8, q8, rfl, HBI8.out⟩
          case measure =>
            have e1 : jOf B (w8.setRow M #[.string (str x8.n), .slice xb x8.ats.length xc, .slice xd x8.ks.length xe, .string (str x8.t)]) = j8 := by unfold jOf; rw [HBI8.out.br.cells.2.1]; simp
            have h1 := HJJ8.out.1
            show ts.length - jOf B _ < ts.length - jOf B wr
            rw [e1, HJ.out]; omega
        | false =>
          go_upto_region 12 with fail
          obtain ⟨bk, hbk⟩ : ∃ bk, bk = (decide (yk = 5 ∨ yk = 6) || (decide (yk = 4) && yt.all bl)) := ⟨_, rfl⟩
          have HBK := Lib.hid hbk
          have hts : (str yt).size ≤ 1000000 := by
            have h1 := tS_succ HY.out
            have h2 := tS_mono (ts := ts) (show j + 1 ≤ ts.length by omega)
            have h3 := HS.out
            rw [size_str]; dsimp only at h1; omega
          have HTR := Lib.hid (refTrim_any (str yt) hts w7)
          clear hts
          go_cut [12] from 64 to 83 (fun tt wx => tt = .bool bk ∧ wx = w7)
          case first =>
            by_cases h5 : yk = 5
            · subst h5
              have hb1 : bk = true := by rw [hbk]; simp
              clear hbk
              go_wp2_with fail
              go_meet
              exact ⟨by rw [hb1], rfl⟩
            · have h5F : (yk == 5) = false := by simpa using h5
              by_cases h6 : yk = 6
              · subst h6
                have hb1 : bk = true := by rw [hbk]; simp
                clear hbk
                go_wp2_with fail
                go_meet
                exact ⟨by rw [hb1], rfl⟩
              · have h6F : (yk == 6) = false := by simpa using h6
                by_cases h4 : yk = 4
                · subst h4
                  have hb1 : bk = yt.all bl := by rw [hbk]; simp
                  have HBB := Lib.hid hb1
                  clear hbk h5 h6 hb1
                  go_wp2_with (first | (go_at_call 24; refine HTR.out.mono ?_; rintro e9 w9 ⟨tr, rfl, htr, rfl⟩; have hti := trim_is htr))
                  go_meet
                  exact ⟨by rw [HBB.out, ← hti], rfl⟩
                · have h4F : (yk == 4) = false := by simpa using h4
                  have hb1 : bk = false := by rw [hbk]; simp [h4, h5, h6]
                  clear hbk h4 h5 h6
                  go_wp2_with fail
                  go_meet
                  exact ⟨by rw [hb1], rfl⟩
          case rest =>
          obtain ⟨rfl, hwx⟩ := hcut
          obtain rfl : w7 = wc := hwx.symm
          clear hwx hbk
          go_upto_if 84 with fail
          go_cut [] from 85 to 90 (fun wx => ∃ e' q' : Int, Br wx B (.slice (some la1) ts.length lc) j cc e' q' ∧ w7.grownBy wx (some B) ∧ Gb l.length ts (if fd then some x else none) (j + 1) cc e' q')
          case first =>
            cases bk with
            | true =>
              go_wp2_with fail
              go_meet
              have hb : yk = 5 ∨ yk = 6 ∨ (yk = 4 ∧ yt.all bl = true) := by
                have := HBK.out.symm
                simp only [Bool.or_eq_true, Bool.and_eq_true, decide_eq_true_eq] at this
                rcases this with (h | h) | h
                · exact .inl h
                · exact .inr (.inl h)
                · exact .inr (.inr h)
              exact ⟨0, 0, HLP7.out.br, gB_refl _ _, Gb.blank HBD.out.g HY.out hb⟩
            | false =>
              have HFL := Lib.hid (fail3_at HLP7.out.br 16 (yo : Int))
              go_wp2_with (go_at_call 25; refine HFL.out.mono ?_; rintro e w10 ⟨rfl, hbr10, hg10⟩)
              go_meet
              have hb : (yk = 1 ∨ yk = 2) ∧ (if fd then some x else none).isSome = true ∨ yk = 3 ∨ (yk = 4 ∧ yt.all bl = false) := by
                have h1 := HBK.out.symm
                have h2 := HEB.out.symm
                simp only [Bool.or_eq_false_iff, Bool.and_eq_false_iff, decide_eq_false_iff_not, not_or] at h1 h2
                have h3 := HKY.out
                by_cases h4 : yk = 4
                · exact .inr (.inr ⟨h4, h1.2.resolve_left (fun h => h h4)⟩)
                · by_cases h5 : yk = 3
                  · exact .inr (.inl h5)
                  · have hk : yk = 1 ∨ yk = 2 := by omega
                    refine .inl ⟨hk, ?_⟩
                    have h6 : (!fd) = false := h2.resolve_left (fun h => by omega)
                    cases fd
                    · cases h6
                    · rfl
              exact ⟨16, yo, hbr10, hg10, Gb.wrong HBD.out.g HY.out hb⟩
          case rest =>
          obtain ⟨e9, q9, hbr9, hg9, hgb9⟩ := hcut
          obtain ⟨w9, hw9⟩ : ∃ v, v = wc := ⟨_, rfl⟩
          rw [← hw9] at hbr9 hg9 ⊢
          clear hw9 b0 b1 b2 b3 b4 y0 y3 y4
          obtain ⟨b0, b1, b2, b3, b4⟩ := hbr9.cells
          have f1 := hbr9.frozen 1
          have hwj : IntKind.i64.wrap ((j : Int) + 1) = (j : Int) + 1 := by rw [IntWalk.i64_in _ (by omega)]
          have HBI9 := Lib.hid (HLP7.out.move (gB_trans hg9 (gB_set 1 (.int .i64 ((j : Int) + 1)))) (hbr9.setI (j + 1)) hgb9 (by omega))
          clear hbr9 hg9 hgb9
          go_wp2_with fail
          go_roundw
          case rel => exact ⟨fd, x, _, _, _, j + 1, cc, e9, q9, rfl, HBI9.out⟩
          case measure =>
            have e1 : jOf B (w9.setCell ⟨B, 1, none⟩ (.int .i64 ((j : Int) + 1))) = j + 1 := by unfold jOf; rw [HBI9.out.br.cells.2.1]; simp
            show ts.length - jOf B _ < ts.length - jOf B wr
            rw [e1, HJ.out]; omega
end
/-! Laws03h -/
section
open Go.ChangeShapes Go.WideShapes Go.ChangeAt Go.RowKit
open Go.ChangeMaps (open_string shut_string)

set_option maxHeartbeats 1000000 in
theorem cut3_any (s : ByteArray) (hs : s.size ≤ 9223372036854775807) (w : World) :
    Calls Tryz.prog 6 #[.string s] w fun e w' => ∃ l : List UInt8, e = .returned (.string (str l)) ∧ l.length ≤ 2000 ∧ w' = w := by
  by_cases h : 2000 < s.size
  · have h1 : (2000 : Int) < s.size := by omega
    have H2 := Lib.hid (show ∃ l : List UInt8, s.extract 0 2000 = str l ∧ l.length ≤ 2000 from ⟨s.data.toList.take 2000, by rw [ext_str, List.drop_zero], by rw [List.length_take]; omega⟩)
    go_enter Tryz.func6, Tryz.ntmps6
    go_wp2
    go_ret
    obtain ⟨l, h3, h4⟩ := H2.out
    exact ⟨l, by rw [h3]; rfl, h4, rfl⟩
  · have h1 : (s.size : Int) ≤ 2000 := by omega
    have H2 := Lib.hid (show ∃ l : List UInt8, s = str l ∧ l.length ≤ 2000 from ⟨s.data.toList, by unfold str; rw [Array.toArray_toList], by simp; omega⟩)
    go_enter Tryz.func6, Tryz.ntmps6
    go_wp2
    go_ret
    obtain ⟨l, h3, h4⟩ := H2.out
    exact ⟨l, by rw [h3]; rfl, h4, rfl⟩
set_option maxRecDepth 100000 in
set_option maxHeartbeats 4000000 in
theorem walk_TreeBuilds (s : ByteArray) (hs : s.size ≤ 9223372036854775807) (w : World) (hT : Lib.Utf8Tabs 1 2 w) :
    Calls Tryz.prog 3 #[.string s] w fun e w' => e = .returned (.bool true) ∧ Below w.heap.size w w' := by
  have HLV := Lib.hid (show ∀ w2, Below w.heap.size w w2 → Calls Tryz.prog 10 #[] w2 fun e w' => e = .returned (.bool true) ∧ Below w2.heap.size w2 w' from fun w2 hb => lives03 w2 (Utf8Tabs_below hT hb))
  have HBD := Lib.hid (show ∀ (l : List UInt8), l.length ≤ 1000000 → ∀ w2, Below w.heap.size w w2 → Calls Tryz.prog 7 #[.string (str l)] w2 (BuildP l w2) from fun l hl w2 hb => Build_any l hl w2 (Utf8Tabs_below hT hb))
  have HCT := Lib.hid (cut3_any s hs w)
  clear hs hT
  go_enter Tryz.func3, Tryz.ntmps3
  go_wp2_with fail
  refine HCT.out.mono ?_
  rintro e w2 ⟨l, rfl, hl, hw2⟩
  obtain rfl : w = w2 := hw2.symm
  clear hw2
  have HL := Lib.hid hl
  have HB := Lib.hid (HBD.out l (by omega) _ (Below.refl _ _))
  clear HCT hl
  go_wp2_with fail
  refine HB.out.mono ?_
  rintro e w3 hq
  unfold BuildP at hq
  obtain ⟨hb3, hq⟩ := hq
  obtain ⟨M, hM⟩ : ∃ M, M = buildM l := ⟨_, rfl⟩
  rw [← hM] at hq
  have HM := Lib.hid hM
  have HB3 := Lib.hid hb3
  clear hM hb3 HB
  cases M with
  | bad c o =>
    obtain rfl := hq
    obtain ⟨hc0, ho⟩ := build_err HM.out.symm
    have hcE : (c == 0) = false := by rw [beq_eq_false_iff_ne]; exact hc0
    have hcN : (c != 0) = true := by unfold bne; rw [hcE]; rfl
    have hcc : (c != c) = false := by simp
    have HAT := Lib.hid (fun w => refAt_any (str l) (by rw [size_str]; have := HL.out; omega) o (by rw [size_str]; omega) w)
    rw [show (str l).data.toList = l by simp [str]] at HAT
    generalize lineS (l.take o) = LN at HAT ⊢
    generalize colS (l.take o) = CL at HAT ⊢
    clear hc0 ho
    go_upto_region 3 with fail
    obtain ⟨w4, hw4⟩ : ∃ v, v = (w3.alloc (.cells #[.string ⟨#[]⟩, .slice none 0 0, .slice none 0 0, .string ⟨#[]⟩] 26)).alloc (.cells #[.int .i64 (o : Int), .int .i64 LN, .int .i64 CL] 29) := ⟨_, rfl⟩
    rw [← hw4]
    have hbw4 : Below w3.heap.size w3 w4 := by rw [hw4]; exact ((Below.refl _ _).alloc (Nat.le_refl _) _).alloc (by simp) _
    have hMw4 : w4.heap[w3.heap.size]? = some (.cells #[.string ⟨#[]⟩, .slice none 0 0, .slice none 0 0, .string ⟨#[]⟩] 26 (0, 0)) := by
      rw [hw4, Below.heap_alloc _ _ _ (by simp)]
      exact heap_alloc_new w3 _
    have hPw4 : w4.heap[w3.heap.size + 1]? = some (.cells #[.int .i64 (o : Int), .int .i64 LN, .int .i64 CL] 29 (0, 0)) := by
      rw [hw4]
      have := heap_alloc_new (w3.alloc (.cells #[.string ⟨#[]⟩, .slice none 0 0, .slice none 0 0, .string ⟨#[]⟩] 26)) (.cells #[.int .i64 (o : Int), .int .i64 LN, .int .i64 CL] 29 (0, 0))
      simpa using this
    have HB4 := Lib.hid (HB3.out.trans (hbw4.mono HB3.out.size))
    have HB34 := Lib.hid hbw4
    clear hw4 hbw4
    generalize w3.heap.size + 1 = PB at hPw4 ⊢
    have HPR := Lib.hid (show ∀ v, Below w4.heap.size w4 v → v.heap[PB]? = _ from fun v hb => (hb.block PB (Array.getElem?_eq_some_iff.1 hPw4).1).trans hPw4)
    generalize w3.heap.size = MB at hMw4 ⊢
    have HMR := Lib.hid (show ∀ v, Below w4.heap.size w4 v → v.heap[MB]? = some (.cells #[.string ⟨#[]⟩, .slice none 0 0, .slice none 0 0, .string ⟨#[]⟩] 26 (0, 0)) from fun v hb => (hb.block MB (Array.getElem?_eq_some_iff.1 hMw4).1).trans hMw4)
    have m0 : w4.cell? ⟨MB, 0, none⟩ = some (.string ⟨#[]⟩) := by rw [cell_of_row w4 _ 0 _ _ (0, 0) hMw4]; rfl
    have m1 : w4.cell? ⟨MB, 1, none⟩ = some (.slice none 0 0) := by rw [cell_of_row w4 _ 1 _ _ (0, 0) hMw4]; rfl
    have m2 : w4.cell? ⟨MB, 2, none⟩ = some (.slice none 0 0) := by rw [cell_of_row w4 _ 2 _ _ (0, 0) hMw4]; rfl
    have m3 : w4.cell? ⟨MB, 3, none⟩ = some (.string ⟨#[]⟩) := by rw [cell_of_row w4 _ 3 _ _ (0, 0) hMw4]; rfl
    have p0 : w4.cell? ⟨PB, 0, none⟩ = some (.int .i64 (o : Int)) := by rw [cell_of_row w4 _ 0 _ _ (0, 0) hPw4]; rfl
    have p1 : w4.cell? ⟨PB, 1, none⟩ = some (.int .i64 LN) := by rw [cell_of_row w4 _ 1 _ _ (0, 0) hPw4]; rfl
    have p2 : w4.cell? ⟨PB, 2, none⟩ = some (.int .i64 CL) := by rw [cell_of_row w4 _ 2 _ _ (0, 0) hPw4]; rfl
    clear hMw4 hPw4
    have HRB := Lib.hid (show Calls Tryz.prog 8 #[.string (str l)] w4 fun e w' => Below w4.heap.size w4 w' ∧ e = .returned (.tuple #[.agg #[.string ⟨#[]⟩, .slice none 0 0, .slice none 0 0, .string ⟨#[]⟩], .int .i64 c, .int .i64 (o : Int)]) from
      (RBuild_any l (by have := HL.out; omega) w4).mono fun e w' h => by
        unfold RBuildP at h
        rw [← HM.out] at h
        exact h)
    clear m0 m1 m2 m3 p0 p1 p2
    go_wp2_with fail
    refine HRB.out.mono ?_
    rintro e w5 ⟨hb5, rfl⟩
    have HB5 := Lib.hid (HB4.out.trans (hb5.mono HB4.out.size))
    have HB45 := Lib.hid hb5
    clear hb5 HRB
    go_upto_region 4 with fail
    obtain ⟨w6, hw6⟩ : ∃ v, v = w5.alloc (.cells #[.string ⟨#[]⟩, .slice none 0 0, .slice none 0 0, .string ⟨#[]⟩] 26) := ⟨_, rfl⟩
    rw [← hw6]
    have hbw6 : Below w5.heap.size w5 w6 := by rw [hw6]; exact (Below.refl _ _).alloc (Nat.le_refl _) _
    have hMw6 : w6.heap[w5.heap.size]? = some (.cells #[.string ⟨#[]⟩, .slice none 0 0, .slice none 0 0, .string ⟨#[]⟩] 26 (0, 0)) := by
      rw [hw6]
      exact heap_alloc_new w5 _
    have HB6 := Lib.hid (HB5.out.trans (hbw6.mono HB5.out.size))
    have HB56 := Lib.hid hbw6
    clear hw6 hbw6
    generalize w5.heap.size = NB at hMw6 ⊢
    have HNR := Lib.hid (show ∀ v, Below w6.heap.size w6 v → v.heap[NB]? = some (.cells #[.string ⟨#[]⟩, .slice none 0 0, .slice none 0 0, .string ⟨#[]⟩] 26 (0, 0)) from fun v hb => (hb.block NB (Array.getElem?_eq_some_iff.1 hMw6).1).trans hMw6)
    have n0 : w6.cell? ⟨NB, 0, none⟩ = some (.string ⟨#[]⟩) := by rw [cell_of_row w6 _ 0 _ _ (0, 0) hMw6]; rfl
    have n1 : w6.cell? ⟨NB, 1, none⟩ = some (.slice none 0 0) := by rw [cell_of_row w6 _ 1 _ _ (0, 0) hMw6]; rfl
    have n2 : w6.cell? ⟨NB, 2, none⟩ = some (.slice none 0 0) := by rw [cell_of_row w6 _ 2 _ _ (0, 0) hMw6]; rfl
    have n3 : w6.cell? ⟨NB, 3, none⟩ = some (.string ⟨#[]⟩) := by rw [cell_of_row w6 _ 3 _ _ (0, 0) hMw6]; rfl
    clear hMw6
    have HB46 := Lib.hid (HB45.out.trans (HB56.out.mono HB45.out.size))
    have m0 : w6.cell? ⟨MB, 0, none⟩ = some (.string ⟨#[]⟩) := by rw [cell_of_row w6 _ 0 _ _ (0, 0) (HMR.out _ HB46.out)]; rfl
    have m1 : w6.cell? ⟨MB, 1, none⟩ = some (.slice none 0 0) := by rw [cell_of_row w6 _ 1 _ _ (0, 0) (HMR.out _ HB46.out)]; rfl
    have m2 : w6.cell? ⟨MB, 2, none⟩ = some (.slice none 0 0) := by rw [cell_of_row w6 _ 2 _ _ (0, 0) (HMR.out _ HB46.out)]; rfl
    have m3 : w6.cell? ⟨MB, 3, none⟩ = some (.string ⟨#[]⟩) := by rw [cell_of_row w6 _ 3 _ _ (0, 0) (HMR.out _ HB46.out)]; rfl
    have p0 : w6.cell? ⟨PB, 0, none⟩ = some (.int .i64 (o : Int)) := by rw [cell_of_row w6 _ 0 _ _ (0, 0) (HPR.out _ HB46.out)]; rfl
    have p1 : w6.cell? ⟨PB, 1, none⟩ = some (.int .i64 LN) := by rw [cell_of_row w6 _ 1 _ _ (0, 0) (HPR.out _ HB46.out)]; rfl
    have p2 : w6.cell? ⟨PB, 2, none⟩ = some (.int .i64 CL) := by rw [cell_of_row w6 _ 2 _ _ (0, 0) (HPR.out _ HB46.out)]; rfl
    have HSA := Lib.hid (refSame_any Tr.nil Tr.nil (.slice none 0 0) (.slice none 0 0) (.slice none 0 0) (.slice none 0 0) w6 (.leaf (.inl ⟨rfl, rfl⟩) (fun h => absurd rfl h)) (.leaf (.inl ⟨rfl, rfl⟩) (fun h => absurd rfl h)))
    rw [eqT_self] at HSA
    unfold nodeV at HSA
    have HSA := Lib.hid (show Calls Tryz.prog 9 #[.agg #[.string ⟨#[]⟩, .slice none 0 0, .slice none 0 0, .string ⟨#[]⟩], .agg #[.string ⟨#[]⟩, .slice none 0 0, .slice none 0 0, .string ⟨#[]⟩]] w6 fun e w' => e = .returned (.bool true) ∧ Below w6.heap.size w6 w' from HSA.out)
    have HPX := Lib.hid (show ∀ v, Below w6.heap.size w6 v → v.cell? ⟨PB, 0, none⟩ = some (.int .i64 (o : Int)) ∧ v.cell? ⟨PB, 1, none⟩ = some (.int .i64 LN) ∧ v.cell? ⟨PB, 2, none⟩ = some (.int .i64 CL) from fun v hb => ⟨(hb.cell (World.block_lt_of_cell? w6 _ p0)).trans p0, (hb.cell (World.block_lt_of_cell? w6 _ p1)).trans p1, (hb.cell (World.block_lt_of_cell? w6 _ p2)).trans p2⟩)
    go_wp2_with (first
      | (go_at_call 9; refine HSA.out.mono ?_; rintro e w7 ⟨rfl, hb7⟩; have HB7 := Lib.hid (HB6.out.trans (hb7.mono HB6.out.size)); obtain ⟨r0, r1, r2⟩ := HPX.out w7 hb7; clear hb7)
      | (go_at_call 11; refine (HAT.out w7).mono ?_; rintro e w8 ⟨rfl, rfl⟩)
      | (go_at_call 10; refine (HLV.out _ HB7.out).mono ?_; rintro e w9 ⟨rfl, hb9⟩))
    go_ret
    exact ⟨rfl, HB7.out.trans (hb9.mono HB7.out.size)⟩
  | ok t =>
    obtain ⟨va, vk, rfl, hn⟩ := hq
    obtain ⟨c1, c2, c3, c4, rfl, rfl⟩ := node_cells hn
    have HN := Lib.hid hn
    clear hn
    go_upto_region 3 with fail
    obtain ⟨w4, hw4⟩ : ∃ v, v = (w3.alloc (.cells #[.string (str t.n), .slice c1 t.ats.length c2, .slice c3 t.ks.length c4, .string (str t.t)] 26)).alloc (.cells #[.int .i64 0, .int .i64 0, .int .i64 0] 29) := ⟨_, rfl⟩
    rw [← hw4]
    have hbw4 : Below w3.heap.size w3 w4 := by rw [hw4]; exact ((Below.refl _ _).alloc (Nat.le_refl _) _).alloc (by simp) _
    have hMw4 : w4.heap[w3.heap.size]? = some (.cells #[.string (str t.n), .slice c1 t.ats.length c2, .slice c3 t.ks.length c4, .string (str t.t)] 26 (0, 0)) := by
      rw [hw4, Below.heap_alloc _ _ _ (by simp)]
      exact heap_alloc_new w3 _
    have hPw4 : w4.heap[w3.heap.size + 1]? = some (.cells #[.int .i64 0, .int .i64 0, .int .i64 0] 29 (0, 0)) := by
      rw [hw4]
      have := heap_alloc_new (w3.alloc (.cells #[.string (str t.n), .slice c1 t.ats.length c2, .slice c3 t.ks.length c4, .string (str t.t)] 26)) (.cells #[.int .i64 0, .int .i64 0, .int .i64 0] 29 (0, 0))
      simpa using this
    have HB4 := Lib.hid (HB3.out.trans (hbw4.mono HB3.out.size))
    have HB34 := Lib.hid hbw4
    clear hw4 hbw4
    generalize w3.heap.size + 1 = PB at hPw4 ⊢
    have HPR := Lib.hid (show ∀ v, Below w4.heap.size w4 v → v.heap[PB]? = _ from fun v hb => (hb.block PB (Array.getElem?_eq_some_iff.1 hPw4).1).trans hPw4)
    generalize w3.heap.size = MB at hMw4 ⊢
    have HMR := Lib.hid (show ∀ v, Below w4.heap.size w4 v → v.heap[MB]? = some (.cells #[.string (str t.n), .slice c1 t.ats.length c2, .slice c3 t.ks.length c4, .string (str t.t)] 26 (0, 0)) from fun v hb => (hb.block MB (Array.getElem?_eq_some_iff.1 hMw4).1).trans hMw4)
    have m0 : w4.cell? ⟨MB, 0, none⟩ = some (.string (str t.n)) := by rw [cell_of_row w4 _ 0 _ _ (0, 0) hMw4]; rfl
    have m1 : w4.cell? ⟨MB, 1, none⟩ = some (.slice c1 t.ats.length c2) := by rw [cell_of_row w4 _ 1 _ _ (0, 0) hMw4]; rfl
    have m2 : w4.cell? ⟨MB, 2, none⟩ = some (.slice c3 t.ks.length c4) := by rw [cell_of_row w4 _ 2 _ _ (0, 0) hMw4]; rfl
    have m3 : w4.cell? ⟨MB, 3, none⟩ = some (.string (str t.t)) := by rw [cell_of_row w4 _ 3 _ _ (0, 0) hMw4]; rfl
    have p0 : w4.cell? ⟨PB, 0, none⟩ = some (.int .i64 0) := by rw [cell_of_row w4 _ 0 _ _ (0, 0) hPw4]; rfl
    have p1 : w4.cell? ⟨PB, 1, none⟩ = some (.int .i64 0) := by rw [cell_of_row w4 _ 1 _ _ (0, 0) hPw4]; rfl
    have p2 : w4.cell? ⟨PB, 2, none⟩ = some (.int .i64 0) := by rw [cell_of_row w4 _ 2 _ _ (0, 0) hPw4]; rfl
    clear hMw4 hPw4
    have HN4 := Lib.hid (HN.out.onto HB34.out (Nat.le_refl _))
    have HRB := Lib.hid (show Calls Tryz.prog 8 #[.string (str l)] w4 fun e w' => Below w4.heap.size w4 w' ∧ ∃ va' vk', e = .returned (.tuple #[nodeV t va' vk', .int .i64 0, .int .i64 0]) ∧ NdV w' (allF w') t va' vk' from
      (RBuild_any l (by have := HL.out; omega) w4).mono fun e w' h => by
        unfold RBuildP at h
        rw [← HM.out] at h
        exact h)
    clear m0 m1 m2 m3 p0 p1 p2
    go_wp2_with fail
    refine HRB.out.mono ?_
    rintro e w5 ⟨hb5, va', vk', rfl, hn5⟩
    obtain ⟨d1, d2, d3, d4, rfl, rfl⟩ := node_cells hn5
    unfold nodeV
    have HB5 := Lib.hid (HB4.out.trans (hb5.mono HB4.out.size))
    have HB45 := Lib.hid hb5
    have HN5 := Lib.hid hn5
    clear hb5 HRB hn5
    go_upto_region 4 with fail
    obtain ⟨w6, hw6⟩ : ∃ v, v = w5.alloc (.cells #[.string (str t.n), .slice d1 t.ats.length d2, .slice d3 t.ks.length d4, .string (str t.t)] 26) := ⟨_, rfl⟩
    rw [← hw6]
    have hbw6 : Below w5.heap.size w5 w6 := by rw [hw6]; exact (Below.refl _ _).alloc (Nat.le_refl _) _
    have hMw6 : w6.heap[w5.heap.size]? = some (.cells #[.string (str t.n), .slice d1 t.ats.length d2, .slice d3 t.ks.length d4, .string (str t.t)] 26 (0, 0)) := by
      rw [hw6]
      exact heap_alloc_new w5 _
    have HB6 := Lib.hid (HB5.out.trans (hbw6.mono HB5.out.size))
    have HB56 := Lib.hid hbw6
    clear hw6 hbw6
    generalize w5.heap.size = NB at hMw6 ⊢
    have HNR := Lib.hid (show ∀ v, Below w6.heap.size w6 v → v.heap[NB]? = some (.cells #[.string (str t.n), .slice d1 t.ats.length d2, .slice d3 t.ks.length d4, .string (str t.t)] 26 (0, 0)) from fun v hb => (hb.block NB (Array.getElem?_eq_some_iff.1 hMw6).1).trans hMw6)
    have n0 : w6.cell? ⟨NB, 0, none⟩ = some (.string (str t.n)) := by rw [cell_of_row w6 _ 0 _ _ (0, 0) hMw6]; rfl
    have n1 : w6.cell? ⟨NB, 1, none⟩ = some (.slice d1 t.ats.length d2) := by rw [cell_of_row w6 _ 1 _ _ (0, 0) hMw6]; rfl
    have n2 : w6.cell? ⟨NB, 2, none⟩ = some (.slice d3 t.ks.length d4) := by rw [cell_of_row w6 _ 2 _ _ (0, 0) hMw6]; rfl
    have n3 : w6.cell? ⟨NB, 3, none⟩ = some (.string (str t.t)) := by rw [cell_of_row w6 _ 3 _ _ (0, 0) hMw6]; rfl
    clear hMw6
    have HB46 := Lib.hid (HB45.out.trans (HB56.out.mono HB45.out.size))
    have m0 : w6.cell? ⟨MB, 0, none⟩ = some (.string (str t.n)) := by rw [cell_of_row w6 _ 0 _ _ (0, 0) (HMR.out _ HB46.out)]; rfl
    have m1 : w6.cell? ⟨MB, 1, none⟩ = some (.slice c1 t.ats.length c2) := by rw [cell_of_row w6 _ 1 _ _ (0, 0) (HMR.out _ HB46.out)]; rfl
    have m2 : w6.cell? ⟨MB, 2, none⟩ = some (.slice c3 t.ks.length c4) := by rw [cell_of_row w6 _ 2 _ _ (0, 0) (HMR.out _ HB46.out)]; rfl
    have m3 : w6.cell? ⟨MB, 3, none⟩ = some (.string (str t.t)) := by rw [cell_of_row w6 _ 3 _ _ (0, 0) (HMR.out _ HB46.out)]; rfl
    have p0 : w6.cell? ⟨PB, 0, none⟩ = some (.int .i64 0) := by rw [cell_of_row w6 _ 0 _ _ (0, 0) (HPR.out _ HB46.out)]; rfl
    have p1 : w6.cell? ⟨PB, 1, none⟩ = some (.int .i64 0) := by rw [cell_of_row w6 _ 1 _ _ (0, 0) (HPR.out _ HB46.out)]; rfl
    have p2 : w6.cell? ⟨PB, 2, none⟩ = some (.int .i64 0) := by rw [cell_of_row w6 _ 2 _ _ (0, 0) (HPR.out _ HB46.out)]; rfl
    have HSA := Lib.hid (refSame_any t t _ _ _ _ w6 (HN4.out.onto HB46.out (Nat.le_refl _)) (HN5.out.onto HB56.out (Nat.le_refl _)))
    rw [eqT_self] at HSA
    unfold nodeV at HSA
    have HPX := Lib.hid (show ∀ v, Below w6.heap.size w6 v → v.cell? ⟨PB, 0, none⟩ = some (.int .i64 0) ∧ v.cell? ⟨PB, 1, none⟩ = some (.int .i64 0) ∧ v.cell? ⟨PB, 2, none⟩ = some (.int .i64 0) from fun v hb => ⟨(hb.cell (World.block_lt_of_cell? w6 _ p0)).trans p0, (hb.cell (World.block_lt_of_cell? w6 _ p1)).trans p1, (hb.cell (World.block_lt_of_cell? w6 _ p2)).trans p2⟩)
    go_wp2_with (first
      | (go_at_call 9; refine HSA.out.mono ?_; rintro e w7 ⟨rfl, hb7⟩; have HB7 := Lib.hid (HB6.out.trans (hb7.mono HB6.out.size)); obtain ⟨r0, r1, r2⟩ := HPX.out w7 hb7; clear hb7)
      | (go_at_call 10; refine (HLV.out _ HB7.out).mono ?_; rintro e w9 ⟨rfl, hb9⟩))
    go_ret
    exact ⟨rfl, HB7.out.trans (hb9.mono HB7.out.size)⟩


theorem laid_met_TreeBuilds (os : Os) : laidMet Tryz.prog Rows.treeBuildsRow.laid ((laidWorld #[.string .empty] os).forCall (fun _ _ => 0) ⟨#[], #[.string .empty], []⟩).memory :=
  laidMet_of_run' 8 (by kernel_rfl) (by kernel_rfl)
theorem reads_TreeBuilds (os : Os) {H : Type} (enc : TypeId × Value → H) : ∃ places, DataW.whole enc Tryz.prog ((laidWorld #[.string .empty] os).forCall (fun _ _ => 0) ⟨#[], #[.string .empty], []⟩).memory Tryz.f3.params.toList Rows.treeBuildsSpec.vars false (#[.string .empty] : Array Value).toList 8 = some ([.lit (.string [])], [], places) :=
  ⟨[], by kernel_rfl⟩
set_option maxRecDepth 100000 in
theorem lifted_TreeBuilds (os : Os) (started : os.Started) (H : Type) (enc : TypeId × Value → H) (F : Stop.Interp) :
    ReturnsInHanded {} Tryz.checked os 3 .any ((OpenSpec.ofChange Rows.treeBuildsSpec).preRow enc Tryz.prog Tryz.f3 Rows.treeBuildsRow.domain false Rows.treeBuildsRow.laid) (((OpenSpec.ofChange Rows.treeBuildsSpec).at F).post enc Tryz.prog Tryz.f3 false true false false) := by
  obtain ⟨places, hx⟩ := reads_TreeBuilds os enc
  refine returnsInHanded_of_row (C := Tryz.checked) (s := OpenSpec.ofChange Rows.treeBuildsSpec) own_knob started (by kernel_rfl) Tryz.func3
    (witness_row_at (enc := enc) (C := Tryz.checked) false (laidWorld #[.string .empty] os) #[.string .empty] rfl (by kernel_rfl) (by kernel_rfl) (by kernel_rfl)
      (OpenSpec.preRow_of_cond 8 hx (by kernel_rfl) (fun k hk => by cases hk) (by kernel_rfl) (laid_met_TreeBuilds os))) ?_
  intro W base args ds gs before hval0 hW _ _ _ hL hsh _
  have hU : Lib.Utf8Tabs 1 2 W :=
    utf8Tabs_of_reads (ρ := Tryz.lays260_ren) { Tryz.lays260 with } ⟨by kernel_rfl, by kernel_rfl, by kernel_rfl, by kernel_rfl, by kernel_rfl, by kernel_rfl, by kernel_rfl⟩ (Lib.laidMet.reads hL (.tail _ (.head _))) (Lib.laidMet.reads hL (.head _))
  have hval : ∀ (j : Nat) t v, Tryz.f3.params[j]? = some t → args[j]? = some v → Value.okWide Tryz.prog W .any base t v := hval0
  have hW' := hW
  obtain ⟨p, q, hA0, hV, rfl, _, _⟩ := hW
  have hA : DataW.TrodAll enc Tryz.prog W 0 (fun _ => true) true Tryz.f3.params.toList args.toList ds p := hA0
  rw [Tryz.params3] at hA hval
  obtain ⟨v0, vs0, d0, ds0, p0, q0, hargs, rfl, rfl, h0, r0⟩ := trodAll_cons hA
  obtain ⟨rfl, rfl, rfl⟩ := trodAll_nil r0
  obtain rfl : args = #[v0] := by cases args; simp_all
  obtain ⟨rfl, rfl⟩ := trodVars_none hV
  obtain ⟨a0, rfl, rfl, rfl, w0⟩ := open_string Tryz.underlying9 (hval 0 9 v0 rfl rfl) h0
  clear hA0 hval0
  refine (walk_TreeBuilds a0 (by unfold maxLen at w0; exact w0) W  hU).mono fun e W' ⟨he, hb⟩ => ?_
  subst he
  exact ⟨_, rfl, law_post (by kernel_rfl) rfl rfl rfl hW' hb⟩
theorem said_TreeBuilds : Rows.TreeBuildsSaid :=
  OpenClaim.holds_of_cond 3 Tryz.f3 rfl rfl rfl rfl rfl rfl rfl ⟨rfl, rfl, rfl, rfl, rfl⟩ rfl rfl rfl rfl rfl (by kernel_rfl) Tryz.func3 (by kernel_rfl)
    (of_decide_eq_true (by kernel_rfl)) (by unfold Func.isWrapper; first | (rw [if_pos (by decide +kernel)]; kernel_rfl) | (rw [if_neg (by decide +kernel)]; exact ⟨rfl, rfl⟩))
    (fun os started H enc _ F => by rw [OpenClaim.pre_eq_preRow]; exact lifted_TreeBuilds os started H enc F)
set_option maxRecDepth 100000 in
theorem plain_TreeBuilds (f : FuncId) (fn : Func) (hf : Tryz.pinned.checked.prog.funcNamed "pomace/pomacelaw03.TreeBuilds" = some f) (hfn : Tryz.pinned.checked.prog.funcs[f]? = some fn) :
    true = Tryz.pinned.checked.prog.looks [] ∧ ∀ (j : Nat) t, fn.params[j]? = some t → Tryz.pinned.checked.prog.wantsStandIn t = false := by
  obtain rfl : f = 3 := Option.some.inj ((show Tryz.prog.funcNamed "pomace/pomacelaw03.TreeBuilds" = some 3 by kernel_rfl).symm.trans hf) |>.symm
  obtain rfl : fn = Tryz.f3 := (Option.some.inj (Tryz.func3.symm.trans hfn)).symm
  refine ⟨by kernel_rfl, fun j t ht => ?_⟩
  rw [Tryz.params3] at ht
  have h := Array.mem_of_getElem? ht
  simp only [List.mem_toArray, List.mem_cons, List.not_mem_nil, or_false] at h
  rcases h with rfl
  all_goals first
    | exact (show Tryz.prog.wantsStandIn 9 = false by kernel_rfl)

/-- the statement of TreeBuilds: its card -/
theorem proved_TreeBuilds : Rows.TreeBuildsCardSaid :=
  Claim7.holds_tied_plain_at .later [] _ _ _ _ said_TreeBuilds (fun _ h => by cases h) (by kernel_rfl) (fun _ h => by cases h) treeBuilds_row_tie rfl ⟨rfl, rfl⟩ (by kernel_rfl) rfl plain_TreeBuilds (by kernel_rfl)
end
end Go.Proofs.YtpbkidmdfibaoaaGreatDoor
