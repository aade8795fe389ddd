/-
  Layer 5: the contract of the reader of ranges: interval. Own work.
-/
import Derived.Test.YtnghagikchffiaaDoorRead5b
namespace Go.Proofs.YtnghagikchffiaaDoor
set_option linter.unusedVariables false
set_option linter.unusedSimpArgs false
open Go.RowKit

theorem trimS_size (s : ByteArray) : (trimS s).size ≤ s.size := by
  rcases trimF_is s with ⟨F, T, _, h2, h3, _⟩ | ⟨h, _⟩
  · unfold trimS; rw [h3, ByteArray.size_extract]; omega
  · unfold trimS; rw [h]; exact Nat.zero_le _
def dropS (s : ByteArray) : ByteArray := trimS (s.extract 1 s.size)
theorem dropS_size (s : ByteArray) : (dropS s).size ≤ s.size := by
  have := trimS_size (s.extract 1 s.size)
  unfold dropS
  rw [ByteArray.size_extract] at this
  omega
theorem endM_size (s : ByteArray) (c : Bool) : (endM s c).2.size ≤ s.size ∧ (endM s c).1.ver.size ≤ s.size := by
  unfold endM
  split
  · exact ⟨Nat.le_refl _, Nat.zero_le _⟩
  · have := trimS_size (s.extract (spanV s) s.size)
    rw [ByteArray.size_extract] at this
    refine ⟨by simp only; omega, ?_⟩
    simp only [ByteArray.size_extract]; omega
/-- the interval that is read, and what is left; none: it is none -/
def ivM (s : ByteArray) : Option (Iv × ByteArray) :=
  if nextS s = 91 ∨ nextS s = 40 then
    let closed := decide (nextS s = 91)
    let s1 := dropS s
    let lo := (endM s1 closed).1
    let s2 := (endM s1 closed).2
    if nextS s2 = 44 then
      let s3 := dropS s2
      let hi := (endM s3 false).1
      let s4 := (endM s3 false).2
      if nextS s4 = 93 ∨ nextS s4 = 41 then some (⟨lo, ⟨hi.has, hi.ver, hi.has && decide (nextS s4 = 93)⟩⟩, dropS s4) else none
    else if closed && lo.has && decide (nextS s2 = 93) then some (⟨lo, lo⟩, dropS s2) else none
  else none
def IvP (b : Nat) (s : ByteArray) (w : World) (e : Ending) (w' : World) : Prop :=
  (∃ p r, ivM s = some (p, r) ∧ e = .returned (ivV p) ∧ Left5 b r w w') ∨ (ivM s = none ∧ e = bad5 ∧ w.grownBy w' (some b))
theorem grown_row {w w' : World} {b k : Nat} {o : Obj} (hg : w.grownBy w' (some b)) (h : w.heap[k]? = some o) (hk : k ≠ b) : w'.heap[k]? = some o :=
  (hg.block k (Array.getElem?_eq_some_iff.1 h).1 (by simpa using hk)).trans h
theorem row3_cells {w : World} {B : Nat} {x0 x1 x2 : Value} {t : TypeId} (h : w.heap[B]? = some (.cells #[x0, x1, x2] t (0, 0))) :
    w.cell? ⟨B, 0, none⟩ = some x0 ∧ w.cell? ⟨B, 1, none⟩ = some x1 ∧ w.cell? ⟨B, 2, none⟩ = some x2 ∧ w.frozen? ⟨B, 2, none⟩ = false := by
  refine ⟨?_, ?_, ?_, frozen_of_row w B 2 _ _ h⟩
  · rw [cell_of_row w B 0 _ _ (0, 0) h]; rfl
  · rw [cell_of_row w B 1 _ _ (0, 0) h]; rfl
  · rw [cell_of_row w B 2 _ _ (0, 0) h]; rfl
theorem row6_cells {w : World} {B : Nat} {x0 x1 x2 x3 x4 x5 : Value} {t : TypeId} (h : w.heap[B]? = some (.cells #[x0, x1, x2, x3, x4, x5] t (0, 0))) :
    (w.cell? ⟨B, 0, none⟩ = some x0 ∧ w.cell? ⟨B, 1, none⟩ = some x1 ∧ w.cell? ⟨B, 2, none⟩ = some x2 ∧ w.cell? ⟨B, 3, none⟩ = some x3 ∧ w.cell? ⟨B, 4, none⟩ = some x4 ∧ w.cell? ⟨B, 5, none⟩ = some x5) ∧
    (w.frozen? ⟨B, 0, none⟩ = false ∧ w.frozen? ⟨B, 1, none⟩ = false ∧ w.frozen? ⟨B, 2, none⟩ = false ∧ w.frozen? ⟨B, 3, none⟩ = false ∧ w.frozen? ⟨B, 4, none⟩ = false ∧ w.frozen? ⟨B, 5, none⟩ = false) := by
  refine ⟨⟨?_, ?_, ?_, ?_, ?_, ?_⟩, frozen_of_row w B 0 _ _ h, frozen_of_row w B 1 _ _ h, frozen_of_row w B 2 _ _ h, frozen_of_row w B 3 _ _ h, frozen_of_row w B 4 _ _ h, frozen_of_row w B 5 _ _ h⟩
  · rw [cell_of_row w B 0 _ _ (0, 0) h]; rfl
  · rw [cell_of_row w B 1 _ _ (0, 0) h]; rfl
  · rw [cell_of_row w B 2 _ _ (0, 0) h]; rfl
  · rw [cell_of_row w B 3 _ _ (0, 0) h]; rfl
  · rw [cell_of_row w B 4 _ _ (0, 0) h]; rfl
  · rw [cell_of_row w B 5 _ _ (0, 0) h]; rfl
theorem row_set6 {w : World} {B : Nat} {x0 x1 x2 x3 x4 x5 : Value} (y0 y1 y2 y3 y4 y5 : Value) (t : TypeId) (h : w.heap[B]? = some (.cells #[x0, x1, x2, x3, x4, x5] t (0, 0))) :
    ((((((w.setCell ⟨B, 0, none⟩ y0).setCell ⟨B, 1, none⟩ y1).setCell ⟨B, 2, none⟩ y2).setCell ⟨B, 3, none⟩ y3).setCell ⟨B, 4, none⟩ y4).setCell ⟨B, 5, none⟩ y5).heap[B]? = some (.cells #[y0, y1, y2, y3, y4, y5] t (0, 0)) := by
  have h1 := heap_setCell_same w B 0 _ t y0 h
  have h2 := heap_setCell_same _ B 1 _ t y1 h1
  have h3 := heap_setCell_same _ B 2 _ t y2 h2
  have h4 := heap_setCell_same _ B 3 _ t y3 h3
  have h5 := heap_setCell_same _ B 4 _ t y4 h4
  have h6 := heap_setCell_same _ B 5 _ t y5 h5
  simpa using h6
theorem left_set6 {w w' : World} {b B : Nat} {s : ByteArray} (y0 y1 y2 y3 y4 y5 : Value) (hb : b < B) (hB : w.heap.size ≤ B) (h : Left5 b s w w') :
    Left5 b s w ((((((w'.setCell ⟨B, 0, none⟩ y0).setCell ⟨B, 1, none⟩ y1).setCell ⟨B, 2, none⟩ y2).setCell ⟨B, 3, none⟩ y3).setCell ⟨B, 4, none⟩ y4).setCell ⟨B, 5, none⟩ y5) :=
  ⟨(((((h.1.setO _ 0 hb _).setO _ 1 hb _).setO _ 2 hb _).setO _ 3 hb _).setO _ 4 hb _).setO _ 5 hb _, grown_set (grown_set (grown_set (grown_set (grown_set (grown_set h.2 _ 0 hB _) _ 1 hB _) _ 2 hB _) _ 3 hB _) _ 4 hB _) _ 5 hB _⟩
theorem RB.alloc {w : World} {b : Nat} {s : ByteArray} (h : RB w b s) (o : Obj) : RB (w.alloc o) b s := (Below.heap_alloc _ _ _ h.lt).trans h
theorem iv_fin {w w8 : World} {b B : Nat} {s : ByteArray} {x0 x1 x2 x3 x4 x5 : Value} (y y0 y1 y2 y3 y4 y5 : Value) (hb : b < w.heap.size) (hB : w.heap.size < B) (h : w8.heap[w.heap.size]? = some (.cells #[x0, x1, x2, x3, x4, x5] 61 (0, 0))) (hl : Left5 b s w w8) :
    (((((((w8.setCell ⟨B, 2, none⟩ y).setCell ⟨w.heap.size, 0, none⟩ y0).setCell ⟨w.heap.size, 1, none⟩ y1).setCell ⟨w.heap.size, 2, none⟩ y2).setCell ⟨w.heap.size, 3, none⟩ y3).setCell ⟨w.heap.size, 4, none⟩ y4).setCell ⟨w.heap.size, 5, none⟩ y5).heap[w.heap.size]? = some (.cells #[y0, y1, y2, y3, y4, y5] 61 (0, 0)) ∧
    Left5 b s w (((((((w8.setCell ⟨B, 2, none⟩ y).setCell ⟨w.heap.size, 0, none⟩ y0).setCell ⟨w.heap.size, 1, none⟩ y1).setCell ⟨w.heap.size, 2, none⟩ y2).setCell ⟨w.heap.size, 3, none⟩ y3).setCell ⟨w.heap.size, 4, none⟩ y4).setCell ⟨w.heap.size, 5, none⟩ y5) :=
  ⟨row_set6 y0 y1 y2 y3 y4 y5 _ ((heap_setCell_other w8 ⟨B, 2, none⟩ _ _ (fun e => by simp only at e; omega)).trans h),
    left_set6 y0 y1 y2 y3 y4 y5 hb (Nat.le_refl _) ⟨hl.1.setO _ 2 (by omega) _, grown_set hl.2 _ 2 (by omega) _⟩⟩
set_option maxRecDepth 100000 in
set_option maxHeartbeats 2000000 in
theorem ivR_at (w0 : World) (b : Nat) (s : ByteArray) (hs : s.size ≤ 1000000) (w : World) (hT : Tabs w0 w b) (h : RB w b s) :
    Calls Tryd.prog 52 #[.pointer (some ⟨b, 0, none⟩)] w (IvP b s w) := by
  have hlt := h.lt
  have hltb := Lib.hid hlt
  -- the variable of the result
  have R0 := heap_alloc_new w (.cells #[.bool false, .string { data := #[] }, .bool false, .bool false, .string { data := #[] }, .bool false] 61)
  have hga := alloc_grown w (.cells #[.bool false, .string { data := #[] }, .bool false, .bool false, .string { data := #[] }, .bool false] 61) (some b)
  have hra := h.alloc (.cells #[.bool false, .string { data := #[] }, .bool false, .bool false, .string { data := #[] }, .bool false] 61)
  have hTa := hT.left hga
  have hza : (w.alloc (.cells #[.bool false, .string { data := #[] }, .bool false, .bool false, .string { data := #[] }, .bool false] 61)).heap.size = w.heap.size + 1 := by simp
  by_cases h1 : nextS s = 91 ∨ nextS s = 40
  case neg =>
    have hm : ivM s = none := by unfold ivM; rw [if_neg h1]
    have HM := Lib.hid hm
    have HG := Lib.hid hga
    have hc := take_bad b s 91 40 h1 _ hra
    have HC := Lib.hid hc
    clear hc hm hga hra hTa hza R0 hT h
    go_enter Tryd.func52, Tryd.ntmps52
    go_wp2_with fail
    refine HC.out.mono ?_
    rintro e w2 ⟨rfl, rfl⟩
    go_wp2
    exact ⟨rfl, .inr ⟨HM.out, rfl, HG.out⟩⟩
  case pos =>
  have ht1 := take_ok w0 b s hs 91 40 (by omega) (by omega) h1 _ hTa hra
  generalize hcl : decide (nextS s = 91) = closed at ht1
  generalize hs1 : trimS (s.extract 1 s.size) = s1 at ht1
  have hs1z : s1.size ≤ 1000000 := by have := dropS_size s; unfold dropS at this; rw [hs1] at this; omega
  have hend := endM_size s1 closed
  obtain ⟨lo, s2, hlo⟩ : ∃ lo s2, endM s1 closed = (lo, s2) := ⟨_, _, rfl⟩
  rw [hlo] at hend
  obtain ⟨hs2z, hloz⟩ := hend
  simp only at hs2z hloz
  -- what the model says, with these names
  have hm : ivM s = if nextS s2 = 44 then
      (if nextS (endM (dropS s2) false).2 = 93 ∨ nextS (endM (dropS s2) false).2 = 41 then some (⟨lo, ⟨(endM (dropS s2) false).1.has, (endM (dropS s2) false).1.ver, (endM (dropS s2) false).1.has && decide (nextS (endM (dropS s2) false).2 = 93)⟩⟩, dropS (endM (dropS s2) false).2) else none)
      else if closed && lo.has && decide (nextS s2 = 93) then some (⟨lo, lo⟩, dropS s2) else none := by
    unfold ivM
    rw [if_pos h1]
    simp only [hcl]
    have e1 : dropS s = s1 := hs1
    rw [e1, hlo]
  have HM := Lib.hid hm
  have HT1 := Lib.hid ht1
  have HTA := Lib.hid hTa
  have HR0 := Lib.hid R0
  have HGA := Lib.hid hga
  have HLO := Lib.hid hlo
  clear hm ht1 hTa R0 hga hra hlo hT h h1 hcl hs1
  go_enter Tryd.func52, Tryd.ntmps52
  go_wp2_with fail
  refine HT1.out.mono ?_
  rintro e w1 ⟨rfl, hl1⟩
  have hT1 := HTA.out.left hl1.2
  have HL1 := Lib.hid hl1
  have hz1 := hl1.2.size
  rw [hza] at hz1
  have hR1 := grown_row hl1.2 HR0.out (by omega)
  have HR1 := Lib.hid hR1
  have he := rdEnd_at w0 b s1 hs1z closed w1 hT1 hl1.1
  have HE := Lib.hid he
  have HT1' := Lib.hid hT1
  clear hl1 hT1 hR1 he
  go_wp2_with fail
  refine HE.out.mono ?_
  rintro e w2 ⟨he2, hl2⟩
  rw [HLO.out] at he2 hl2
  subst he2
  simp only at hl2
  have hT2 := HT1'.out.left hl2.2
  have hz2 := hl2.2.size
  have hR2 := grown_row hl2.2 HR1.out (by omega)
  -- the variable of the front
  obtain ⟨lh, lv, lc⟩ := lo
  have R4 := heap_alloc_new w2 (.cells #[.bool lh, .string lv, .bool lc] 58)
  have hg3 := alloc_grown w2 (.cells #[.bool lh, .string lv, .bool lc] 58) (some b)
  have hb3 := hl2.1.alloc (.cells #[.bool lh, .string lv, .bool lc] 58)
  have hR3 := grown_row hg3 hR2 (by omega)
  have hT3 := hT2.left hg3
  have hL3 := (HL1.out.2.trans hl2.2).trans hg3
  have hz3 : (w2.alloc (.cells #[.bool lh, .string lv, .bool lc] 58)).heap.size = w2.heap.size + 1 := by simp
  have hw2b : b < w2.heap.size := hl2.1.lt
  clear hl2 hT2 hR2
  unfold enV
  go_wp2_with fail
  generalize w2.alloc (.cells #[.bool lh, .string lv, .bool lc] 58) = w3 at R4 hg3 hb3 hR3 hT3 hL3 hz3 ⊢
  clear hg3
  have HR4 := Lib.hid R4
  have HL3 := Lib.hid hL3
  have HR3 := Lib.hid hR3
  have HT3 := Lib.hid hT3
  have HB3 := Lib.hid hb3
  have HN3 := Lib.hid (next_at b s2 w3 hb3)
  obtain ⟨p0, p1, p2, p3⟩ := row3_cells R4
  clear R4 hL3 hR3 hT3 hb3
  refine HN3.out.mono ?_
  rintro e w4 ⟨rfl, rfl⟩
  have hbz : b ≠ w.heap.size := by omega
  have hww : w.heap.size < w2.heap.size := by omega
  by_cases h44 : nextS s2 = 44
  · have hs2p := nextS_pos (s := s2) (by omega)
    have HM2 := Lib.hid (HM.out.trans (if_pos h44))
    have HSK := Lib.hid (skip_at w0 b s2 (by omega) hs2p w4 HT3.out HB3.out)
    obtain ⟨s3, hs3⟩ : ∃ s3, dropS s2 = s3 := ⟨_, rfl⟩
    have hs3z : s3.size ≤ 1000000 := by have := dropS_size s2; rw [hs3] at this; omega
    rw [h44]
    go_wp2_with fail
    refine HSK.out.mono ?_
    rintro e w5 ⟨rfl, hl5⟩
    rw [show trimS (s2.extract 1 s2.size) = s3 from hs3] at hl5
    have hT5 := HT3.out.left hl5.2
    have HR5 := Lib.hid (grown_row hl5.2 HR3.out (by omega))
    have HF5 := Lib.hid (grown_row hl5.2 HR4.out (by omega))
    have HL5 := Lib.hid (HL3.out.trans hl5.2)
    have hz5 := hl5.2.size
    have HE5 := Lib.hid (rdEnd_at w0 b s3 hs3z false w5 hT5 hl5.1)
    have HT5 := Lib.hid hT5
    have hend5 := endM_size s3 false
    obtain ⟨hi, s4, hhi⟩ : ∃ hi s4, endM s3 false = (hi, s4) := ⟨_, _, rfl⟩
    rw [hhi] at hend5
    obtain ⟨hs4z, hhiz⟩ := hend5
    simp only at hs4z hhiz
    have hm3 := HM2.out
    rw [hs3, hhi] at hm3
    simp only at hm3
    have HM3 := Lib.hid hm3
    have HHI := Lib.hid hhi
    clear hl5 hT5 hm3 hhi p0 p1 p2 p3
    go_wp2_with fail
    refine HE5.out.mono ?_
    rintro e w6 ⟨he6, hl6⟩
    rw [HHI.out] at he6 hl6
    subst he6
    simp only at hl6
    obtain ⟨hh, hv, hc⟩ := hi
    have hT6 := HT5.out.left hl6.2
    have hz6 := hl6.2.size
    have hR6 := grown_row hl6.2 HR5.out (by omega)
    have hF6 := grown_row hl6.2 HF5.out (by omega)
    have R7 := heap_alloc_new w6 (.cells #[.bool hh, .string hv, .bool hc] 58)
    have hg7 := alloc_grown w6 (.cells #[.bool hh, .string hv, .bool hc] 58) (some b)
    have hb7 := hl6.1.alloc (.cells #[.bool hh, .string hv, .bool hc] 58)
    have hR7 := grown_row hg7 hR6 (by omega)
    have hF7 := grown_row hg7 hF6 (by omega)
    have hT7 := hT6.left hg7
    have hL7 := (HL5.out.trans hl6.2).trans hg7
    have hz7 : (w6.alloc (.cells #[.bool hh, .string hv, .bool hc] 58)).heap.size = w6.heap.size + 1 := by simp
    clear hl6 hT6 hR6 hF6
    unfold enV
    go_wp2_with fail
    generalize w6.alloc (.cells #[.bool hh, .string hv, .bool hc] 58) = w7 at R7 hg7 hb7 hR7 hF7 hT7 hL7 hz7 ⊢
    clear hg7
    by_cases h93 : nextS s4 = 93 ∨ nextS s4 = 41
    · have HM4 := Lib.hid (HM3.out.trans (if_pos h93))
      have htk := take_ok w0 b s4 (by omega) 93 41 (by omega) (by omega) h93 w7 hT7 hb7
      generalize hcl : decide (nextS s4 = 93) = cl2 at htk
      have HCL := Lib.hid hcl
      have HTK := Lib.hid htk
      have HR7 := Lib.hid hR7
      have HF7 := Lib.hid hF7
      have HS7 := Lib.hid R7
      have HL7 := Lib.hid hL7
      clear htk hR7 hF7 R7 hL7 hT7 hb7 h93 hcl
      refine HTK.out.mono ?_
      rintro e w8 ⟨rfl, hl8⟩
      have hR8 := grown_row hl8.2 HR7.out (by omega)
      have hF8 := grown_row hl8.2 HF7.out (by omega)
      have hS8 := grown_row hl8.2 HS7.out (by omega)
      have HR8 := Lib.hid hR8
      have HF8 := Lib.hid hF8
      have HS8 := Lib.hid hS8
      have HL8 := Lib.hid (show Left5 b _ w w8 from ⟨hl8.1, (HGA.out.trans HL7.out).trans hl8.2⟩)
      obtain ⟨⟨x0, x1, x2, x3, x4, x5⟩, z0, z1, z2, z3, z4, z5⟩ := row6_cells hR8
      obtain ⟨y0, y1, y2, y3⟩ := row3_cells hF8
      obtain ⟨v0, v1, v2, v3⟩ := row3_cells hS8
      have n1 : ¬ w6.heap.size = w2.heap.size := by omega
      have n2 : ¬ w6.heap.size = w.heap.size := by omega
      have n3 : ¬ w2.heap.size = w.heap.size := by omega
      clear hl8 hR8 hF8 hS8
      have hwb := Lib.hid (show w.heap.size < w6.heap.size by omega)
      cases hh
      · go_wp2
        obtain ⟨r1, r2⟩ := iv_fin (w := w) (B := w6.heap.size) (.bool false) (.bool lh) (.string lv) (.bool lc) (.bool false) (.string hv) (.bool false) hltb.out hwb.out HR8.out HL8.out
        refine bodyPost_ret (results_cell_row (P := Tryd.prog) rfl _ _ w.heap.size 61 _ (0, 0) _ rfl r1 Tryd.underlying61 rfl (by kernel_rfl)) rfl ?_
        exact .inl ⟨_, _, HM4.out, rfl, r2⟩
      · go_wp2
        obtain ⟨r1, r2⟩ := iv_fin (w := w) (B := w6.heap.size) (.bool cl2) (.bool lh) (.string lv) (.bool lc) (.bool true) (.string hv) (.bool cl2) hltb.out hwb.out HR8.out HL8.out
        refine bodyPost_ret (results_cell_row (P := Tryd.prog) rfl _ _ w.heap.size 61 _ (0, 0) _ rfl r1 Tryd.underlying61 rfl (by kernel_rfl)) rfl ?_
        exact .inl ⟨_, _, HM4.out, (by rw [← HCL.out]; rfl), r2⟩
    · have HM4 := Lib.hid (HM3.out.trans (if_neg h93))
      have HTK := Lib.hid (take_bad b s4 93 41 h93 w7 hb7)
      have HL7 := Lib.hid (HGA.out.trans hL7)
      clear hR7 hF7 R7 hL7 hT7 hb7 h93
      refine HTK.out.mono ?_
      rintro e w8 ⟨rfl, rfl⟩
      go_wp2
      exact ⟨rfl, .inr ⟨HM4.out, rfl, HL7.out⟩⟩
  · have hm2 := HM.out.trans (if_neg h44)
    have HM2 := Lib.hid hm2
    have HGL := Lib.hid (HGA.out.trans HL3.out)
    clear hm2
    have q44 : (nextS s2 == 44) = false := by simp [h44]
    cases closed
    · go_wp2
      exact ⟨rfl, .inr ⟨HM2.out, rfl, HGL.out⟩⟩
    cases lh
    · go_wp2
      exact ⟨rfl, .inr ⟨HM2.out, rfl, HGL.out⟩⟩
    by_cases h93 : nextS s2 = 93
    · have hs2p := nextS_pos (s := s2) (by omega)
      have HM4 := Lib.hid (show ivM s = some (⟨⟨true, lv, lc⟩, ⟨true, lv, lc⟩⟩, dropS s2) by rw [HM2.out]; simp [h93])
      have HSK := Lib.hid (skip_at w0 b s2 (by omega) hs2p w4 HT3.out HB3.out)
      go_wp2_with fail
      refine HN3.out.mono ?_
      rintro e w5 ⟨rfl, rfl⟩
      rw [h93]
      go_wp2_with fail
      refine HSK.out.mono ?_
      rintro e w6 ⟨rfl, hl6⟩
      have hR6 := grown_row hl6.2 HR3.out (by omega)
      have hF6 := grown_row hl6.2 HR4.out (by omega)
      have HR6 := Lib.hid hR6
      have HL6 := Lib.hid (show Left5 b _ w w6 from ⟨hl6.1, HGL.out.trans hl6.2⟩)
      obtain ⟨⟨x0, x1, x2, x3, x4, x5⟩, z0, z1, z2, z3, z4, z5⟩ := row6_cells hR6
      obtain ⟨y0, y1, y2, y3⟩ := row3_cells hF6
      have n3 : ¬ w2.heap.size = w.heap.size := by omega
      clear hl6 hR6 hF6 p0 p1 p2 p3
      go_wp2
      have r1 := row_set6 (.bool true) (.string lv) (.bool lc) (.bool true) (.string lv) (.bool lc) _ HR6.out
      have r2 := left_set6 (.bool true) (.string lv) (.bool lc) (.bool true) (.string lv) (.bool lc) hltb.out (Nat.le_refl _) HL6.out
      refine bodyPost_ret (results_cell_row (P := Tryd.prog) rfl _ _ w.heap.size 61 _ (0, 0) _ rfl r1 Tryd.underlying61 rfl (by kernel_rfl)) rfl ?_
      exact .inl ⟨_, _, HM4.out, rfl, r2⟩
    · have HM4 := Lib.hid (show ivM s = none by rw [HM2.out]; simp [h93])
      have q93 : (nextS s2 == 93) = false := by simp [h93]
      go_wp2_with fail
      refine HN3.out.mono ?_
      rintro e w5 ⟨rfl, rfl⟩
      go_wp2
      exact ⟨rfl, .inr ⟨HM4.out, rfl, HGL.out⟩⟩
end Go.Proofs.YtnghagikchffiaaDoor
