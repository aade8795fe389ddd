/-
  Layer 5: the document's examples hold. Own work.
-/
import Derived.Test.YtnghagikchffiaaDoorParse5b
namespace Go.Proofs.YtnghagikchffiaaDoor
set_option linter.unusedVariables false
set_option linter.unusedSimpArgs false
open Go.RowKit

def e0 : En := ⟨false, .empty, false⟩
def eI (l : List UInt8) : En := ⟨true, ⟨l.toArray⟩, true⟩
def eO (l : List UInt8) : En := ⟨true, ⟨l.toArray⟩, false⟩
theorem parse_1 : parseM ⟨#[91, 49, 44, 50, 41]⟩ = some (true, .empty, [⟨eI [49], eO [50]⟩]) := by kernel_rfl
theorem parse_2 : parseM ⟨#[40, 44, 49, 93, 44, 91, 50, 44, 41]⟩ = some (true, .empty, [⟨e0, eI [49]⟩, ⟨eI [50], e0⟩]) := by kernel_rfl
theorem parse_3 : parseM ⟨#[91, 49, 93]⟩ = some (true, .empty, [⟨eI [49], eI [49]⟩]) := by kernel_rfl
theorem parse_4 : parseM ⟨#[91, 50, 44, 49, 93]⟩ = none := by kernel_rfl
theorem parse_5 : parseM ⟨#[91, 49, 44, 50]⟩ = none := by kernel_rfl
theorem parse_6 : parseM ⟨#[49, 46, 48]⟩ = some (false, ⟨#[49, 46, 48]⟩, []) := by kernel_rfl
/-- a variable that holds a range -/
def VarR (w : World) (B : Nat) (hard : Bool) (ver : ByteArray) (pv : Value) (l : List Iv) : Prop := w.heap[B]? = some (.cells #[.bool hard, .string ver, pv] 25 (0, 0)) ∧ RdI w pv l
theorem VarR.below {w w' : World} {B : Nat} {hard : Bool} {ver : ByteArray} {pv : Value} {l : List Iv} (h : VarR w B hard ver pv l) (hb : Below w.heap.size w w') : VarR w' B hard ver pv l :=
  ⟨(hb.block _ (Array.getElem?_eq_some_iff.1 h.1).1).trans h.1, h.2.below hb (Nat.le_refl _)⟩
theorem VarR.new {w : World} {hard : Bool} {ver : ByteArray} {pv : Value} {l : List Iv} (h : RdI w pv l) : VarR (w.alloc (.cells #[.bool hard, .string ver, pv] 25)) w.heap.size hard ver pv l :=
  ⟨heap_alloc_new w _, h.below ((Below.refl w.heap.size w).alloc (Nat.le_refl _) _) (Nat.le_refl _)⟩
theorem VarR.cells {w : World} {B : Nat} {hard : Bool} {ver : ByteArray} {pv : Value} {l : List Iv} (h : VarR w B hard ver pv l) : w.cell? ⟨B, 0, none⟩ = some (.bool hard) ∧ w.cell? ⟨B, 1, none⟩ = some (.string ver) ∧ w.cell? ⟨B, 2, none⟩ = some pv := by
  obtain ⟨a, b, c, _⟩ := row3_cells h.1
  exact ⟨a, b, c⟩
theorem rd_shape {w : World} {v : Value} {l : List Iv} (h : RdI w v l) : ∃ a c, v = .slice a l.length c := by
  rcases h with ⟨rfl, rfl⟩ | ⟨a, cap, rfl, _⟩
  · exact ⟨_, _, rfl⟩
  · exact ⟨_, _, rfl⟩
theorem parse_ok {s ver : ByteArray} {hard : Bool} {l : List Iv} (hm : parseM s = some (hard, ver, l)) (hs : s.size ≤ 100000) (w0 w : World) (hT : Lib.Utf8Tabs 1 2 w0) (hb : Below w0.heap.size w0 w) :
    Calls Tryd.prog 10 #[.string s] w fun e w' => ∃ a c, e = .returned (.tuple #[.agg #[.bool hard, .string ver, .slice a l.length c], .int .i64 0]) ∧ RdI w' (.slice a l.length c) l ∧ Below w.heap.size w w' := by
  refine (Parse_any s hs w (Utf8Tabs_below hT hb)).mono ?_
  rintro e w' ⟨h1, ⟨hd, vr, l', pv, h2, h3, h4, _⟩ | ⟨h2, _⟩⟩
  · rw [hm] at h2
    cases h2
    obtain ⟨a, c, rfl⟩ := rd_shape h4
    exact ⟨a, c, h3, h4, h1⟩
  · rw [hm] at h2; cases h2
theorem parse_not {s : ByteArray} (hm : parseM s = none) (hs : s.size ≤ 100000) (w0 w : World) (hT : Lib.Utf8Tabs 1 2 w0) (hb : Below w0.heap.size w0 w) :
    Calls Tryd.prog 10 #[.string s] w fun e w' => e = .returned (.tuple #[.agg #[.bool false, .string .empty, .slice none 0 0], .int .i64 21]) ∧ Below w.heap.size w w' := by
  refine (Parse_any s hs w (Utf8Tabs_below hT hb)).mono ?_
  rintro e w' ⟨h1, ⟨hd, vr, l', pv, h2, _⟩ | ⟨_, h3⟩⟩
  · rw [hm] at h2; cases h2
  · exact ⟨h3, h1⟩
theorem has_at {hard b : Bool} {ver v : ByteArray} {pv : Value} {l : List Iv} (hb : (!hard || l.any fun p => inB p v) = b) (hl : ∀ p ∈ l, smallI p) (hv : v.size ≤ 100000) (w : World) (hr : RdI w pv l) :
    Calls Tryd.prog 17 #[.agg #[.bool hard, .string ver, pv], .string v] w fun r w' => r = .returned (.bool b) ∧ Below w.heap.size w w' := by
  rw [← hb]; exact Has_any hard ver pv l v hl hv w hr
def lA : List Iv := [⟨eI [49], eO [50]⟩]
def lB : List Iv := [⟨e0, eI [49]⟩, ⟨eI [50], e0⟩]
def lC : List Iv := [⟨eI [49], eI [49]⟩]
theorem small_lA : ∀ p ∈ lA, smallI p := by unfold lA smallI smallE; decide
theorem small_lB : ∀ p ∈ lB, smallI p := by unfold lB smallI smallE; decide
theorem small_lC : ∀ p ∈ lC, smallI p := by unfold lC smallI smallE; decide
theorem has_1 : (!true || lA.any fun p => inB p ⟨#[49]⟩) = true := by kernel_rfl
theorem has_2 : (!true || lA.any fun p => inB p ⟨#[49, 46, 57]⟩) = true := by kernel_rfl
theorem has_3 : (!true || lA.any fun p => inB p ⟨#[50]⟩) = false := by kernel_rfl
theorem has_4 : (!true || lA.any fun p => inB p ⟨#[50, 46, 48]⟩) = false := by kernel_rfl
theorem has_5 : (!true || lB.any fun p => inB p ⟨#[48, 46, 53]⟩) = true := by kernel_rfl
theorem has_6 : (!true || lB.any fun p => inB p ⟨#[51]⟩) = true := by kernel_rfl
theorem has_7 : (!true || lB.any fun p => inB p ⟨#[49, 46, 53]⟩) = false := by kernel_rfl
theorem has_8 : (!true || lC.any fun p => inB p ⟨#[49, 46, 48]⟩) = true := by kernel_rfl
set_option maxRecDepth 100000 in
set_option maxHeartbeats 2000000 in
theorem lives05 (w : World) (hT : Lib.Utf8Tabs 1 2 w) : Calls Tryd.prog 13 #[] w fun e w' => e = .returned (.bool true) ∧ Below w.heap.size w w' := by
  have P1 := Lib.hid (fun w' hb => parse_ok parse_1 (by decide) w w' hT hb)
  have P2 := Lib.hid (fun w' hb => parse_ok parse_2 (by decide) w w' hT hb)
  have P3 := Lib.hid (fun w' hb => parse_ok parse_3 (by decide) w w' hT hb)
  have P4 := Lib.hid (fun w' hb => parse_not parse_4 (by decide) w w' hT hb)
  have P5 := Lib.hid (fun w' hb => parse_not parse_5 (by decide) w w' hT hb)
  have P6 := Lib.hid (fun w' hb => parse_ok parse_6 (by decide) w w' hT hb)
  have B0 := Lib.hid (Below.refl w.heap.size w)
  clear hT
  go_enter Tryd.func13, Tryd.ntmps13
  go_wp2_with fail
  refine (P1.out _ B0.out).mono ?_
  rintro e w1 ⟨a1, c1, rfl, hr1, hb1⟩
  have hba1 := hb1.alloc hb1.size (.cells #[.bool true, .string .empty, .slice a1 1 c1] 25)
  have B1 := Lib.hid (B0.out.trans (hba1.mono B0.out.size))
  have A1_1 := Lib.hid (show VarR (w1.alloc (.cells #[.bool true, .string .empty, .slice a1 1 c1] 25)) w1.heap.size true _ _ lA from VarR.new hr1)
  clear hr1 hb1 hba1
  go_wp2_with fail
  refine (P2.out _ B1.out).mono ?_
  rintro e w2 ⟨a2, c2, rfl, hr2, hb2⟩
  have hba2 := hb2.alloc hb2.size (.cells #[.bool true, .string .empty, .slice a2 2 c2] 25)
  have B2 := Lib.hid (B1.out.trans (hba2.mono B1.out.size))
  have A1_2 := Lib.hid (A1_1.out.below hba2)
  have A2_2 := Lib.hid (show VarR (w2.alloc (.cells #[.bool true, .string .empty, .slice a2 2 c2] 25)) w2.heap.size true _ _ lB from VarR.new hr2)
  clear hr2 hb2 hba2
  go_wp2_with fail
  refine (P3.out _ B2.out).mono ?_
  rintro e w3 ⟨a3, c3, rfl, hr3, hb3⟩
  have hba3 := hb3.alloc hb3.size (.cells #[.bool true, .string .empty, .slice a3 1 c3] 25)
  have B3 := Lib.hid (B2.out.trans (hba3.mono B2.out.size))
  have A1_3 := Lib.hid (A1_2.out.below hba3)
  have A2_3 := Lib.hid (A2_2.out.below hba3)
  have A3_3 := Lib.hid (show VarR (w3.alloc (.cells #[.bool true, .string .empty, .slice a3 1 c3] 25)) w3.heap.size true _ _ lC from VarR.new hr3)
  clear hr3 hb3 hba3
  go_wp2_with fail
  refine (P4.out _ B3.out).mono ?_
  rintro e w4 ⟨rfl, hb4⟩
  have hba4 := hb4.alloc hb4.size (.cells #[.bool false, .string .empty, .slice none 0 0] 25)
  have B4 := Lib.hid (B3.out.trans (hba4.mono B3.out.size))
  have A1_4 := Lib.hid (A1_3.out.below hba4)
  have A2_4 := Lib.hid (A2_3.out.below hba4)
  have A3_4 := Lib.hid (A3_3.out.below hba4)
  clear hb4 hba4
  go_wp2_with fail
  refine (P5.out _ B4.out).mono ?_
  rintro e w5 ⟨rfl, hb5⟩
  have hba5 := hb5.alloc hb5.size (.cells #[.bool false, .string .empty, .slice none 0 0] 25)
  have B5 := Lib.hid (B4.out.trans (hba5.mono B4.out.size))
  have A1_5 := Lib.hid (A1_4.out.below hba5)
  have A2_5 := Lib.hid (A2_4.out.below hba5)
  have A3_5 := Lib.hid (A3_4.out.below hba5)
  clear hb5 hba5
  go_wp2_with fail
  refine (P6.out _ B5.out).mono ?_
  rintro e w6 ⟨a6, c6, rfl, hr6, hb6⟩
  have hba6 := hb6.alloc hb6.size (.cells #[.bool false, .string ⟨#[49, 46, 48]⟩, .slice a6 0 c6] 25)
  have B6 := Lib.hid (B5.out.trans (hba6.mono B5.out.size))
  have A1_6 := Lib.hid (A1_5.out.below hba6)
  have A2_6 := Lib.hid (A2_5.out.below hba6)
  have A3_6 := Lib.hid (A3_5.out.below hba6)
  have A6_6 := Lib.hid (show VarR (w6.alloc (.cells #[.bool false, .string ⟨#[49, 46, 48]⟩, .slice a6 0 c6] 25)) w6.heap.size false _ _ ([] : List Iv) from VarR.new hr6)
  clear hr6 hb6 hba6
  obtain ⟨d0, d1, d2⟩ := A6_6.out.cells
  obtain ⟨g0, g1, g2⟩ := A1_6.out.cells
  go_wp2_with fail
  refine (has_at has_1 small_lA (by decide) _ A1_6.out.2).mono ?_
  rintro e v1 ⟨rfl, hv1⟩
  have B7 := Lib.hid (B6.out.trans (hv1.mono B6.out.size))
  have A1_7 := Lib.hid (A1_6.out.below hv1)
  have A2_7 := Lib.hid (A2_6.out.below hv1)
  have A3_7 := Lib.hid (A3_6.out.below hv1)
  clear g0 g1 g2 d0 d1 d2 hv1
  obtain ⟨g0, g1, g2⟩ := A1_7.out.cells
  go_wp2_with fail
  refine (has_at has_2 small_lA (by decide) _ A1_7.out.2).mono ?_
  rintro e v2 ⟨rfl, hv2⟩
  have B8 := Lib.hid (B7.out.trans (hv2.mono B7.out.size))
  have A1_8 := Lib.hid (A1_7.out.below hv2)
  have A2_8 := Lib.hid (A2_7.out.below hv2)
  have A3_8 := Lib.hid (A3_7.out.below hv2)
  clear g0 g1 g2 hv2
  obtain ⟨g0, g1, g2⟩ := A1_8.out.cells
  go_wp2_with fail
  refine (has_at has_3 small_lA (by decide) _ A1_8.out.2).mono ?_
  rintro e v3 ⟨rfl, hv3⟩
  have B9 := Lib.hid (B8.out.trans (hv3.mono B8.out.size))
  have A1_9 := Lib.hid (A1_8.out.below hv3)
  have A2_9 := Lib.hid (A2_8.out.below hv3)
  have A3_9 := Lib.hid (A3_8.out.below hv3)
  clear g0 g1 g2 hv3
  obtain ⟨g0, g1, g2⟩ := A1_9.out.cells
  go_wp2_with fail
  refine (has_at has_4 small_lA (by decide) _ A1_9.out.2).mono ?_
  rintro e v4 ⟨rfl, hv4⟩
  have B10 := Lib.hid (B9.out.trans (hv4.mono B9.out.size))
  have A1_10 := Lib.hid (A1_9.out.below hv4)
  have A2_10 := Lib.hid (A2_9.out.below hv4)
  have A3_10 := Lib.hid (A3_9.out.below hv4)
  clear g0 g1 g2 hv4
  obtain ⟨g0, g1, g2⟩ := A2_10.out.cells
  go_wp2_with fail
  refine (has_at has_5 small_lB (by decide) _ A2_10.out.2).mono ?_
  rintro e v5 ⟨rfl, hv5⟩
  have B11 := Lib.hid (B10.out.trans (hv5.mono B10.out.size))
  have A1_11 := Lib.hid (A1_10.out.below hv5)
  have A2_11 := Lib.hid (A2_10.out.below hv5)
  have A3_11 := Lib.hid (A3_10.out.below hv5)
  clear g0 g1 g2 hv5
  obtain ⟨g0, g1, g2⟩ := A2_11.out.cells
  go_wp2_with fail
  refine (has_at has_6 small_lB (by decide) _ A2_11.out.2).mono ?_
  rintro e v6 ⟨rfl, hv6⟩
  have B12 := Lib.hid (B11.out.trans (hv6.mono B11.out.size))
  have A1_12 := Lib.hid (A1_11.out.below hv6)
  have A2_12 := Lib.hid (A2_11.out.below hv6)
  have A3_12 := Lib.hid (A3_11.out.below hv6)
  clear g0 g1 g2 hv6
  obtain ⟨g0, g1, g2⟩ := A2_12.out.cells
  go_wp2_with fail
  refine (has_at has_7 small_lB (by decide) _ A2_12.out.2).mono ?_
  rintro e v7 ⟨rfl, hv7⟩
  have B13 := Lib.hid (B12.out.trans (hv7.mono B12.out.size))
  have A1_13 := Lib.hid (A1_12.out.below hv7)
  have A2_13 := Lib.hid (A2_12.out.below hv7)
  have A3_13 := Lib.hid (A3_12.out.below hv7)
  clear g0 g1 g2 hv7
  obtain ⟨g0, g1, g2⟩ := A3_13.out.cells
  go_wp2_with fail
  refine (has_at has_8 small_lC (by decide) _ A3_13.out.2).mono ?_
  rintro e v8 ⟨rfl, hv8⟩
  have B14 := Lib.hid (B13.out.trans (hv8.mono B13.out.size))
  have A1_14 := Lib.hid (A1_13.out.below hv8)
  have A2_14 := Lib.hid (A2_13.out.below hv8)
  have A3_14 := Lib.hid (A3_13.out.below hv8)
  go_wp2
  go_ret
  exact ⟨rfl, B14.out⟩
end Go.Proofs.YtnghagikchffiaaDoor
