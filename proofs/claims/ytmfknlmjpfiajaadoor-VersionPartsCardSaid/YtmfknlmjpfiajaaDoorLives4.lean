/-
  Layer 4: the document's examples hold. Own work.
-/
import Derived.Test.YtmfknlmjpfiajaaDoorVer4
import Derived.Deep.QuietTactic
import Derived.Deep.RegionHeld3
namespace Go.Proofs.YtmfknlmjpfiajaaDoor
set_option linter.unusedVariables false
set_option linter.unusedSimpArgs false
open Go.RowKit

theorem cmp_at (s t : ByteArray) (r : Int) (hs : s.size ≤ 100000) (ht : t.size ≤ 100000) (hr : cmpB s.data.toList t.data.toList = r) (w : World) :
    Calls Tryd.prog 20 #[.string s, .string t] w fun e w' => e = .returned (.int .i64 r) ∧ Below w.heap.size w w' := by
  rw [← hr]
  exact Compare_any s t hs ht w
theorem canon_at (s t : ByteArray) (hs : s.size ≤ 1000) (hr : str (canonB s.data.toList) = t) (w : World) :
    Calls Tryd.prog 18 #[.string s] w fun e w' => e = .returned (.string t) ∧ Below w.heap.size w w' := by
  rw [← hr]
  exact Canon_any s hs w

def row7 : Array Value := #[.string ⟨#[49, 46, 48, 45, 114, 99, 50]⟩, .string ⟨#[49, 46, 48, 45, 115, 110, 97, 112, 115, 104, 111, 116]⟩, .string ⟨#[49]⟩, .string ⟨#[49, 45, 115, 112]⟩, .string ⟨#[49, 45, 120]⟩, .string ⟨#[49, 45, 49]⟩, .string ⟨#[49, 46, 49]⟩]
def R7 (w w' : World) : Prop := w'.heap[w.heap.size]? = some (.cells row7 9 (0, 0)) ∧ Below w.heap.size w w'
theorem R7.cell {w w' : World} (h : R7 w w') (i : Nat) : w'.cell? ⟨w.heap.size, i, none⟩ = row7[i]? := by rw [Lib.cell_of_heap h.1]
theorem R7.on {w w1 w2 : World} (h : R7 w w1) (hb : Below w1.heap.size w1 w2) : R7 w w2 := ⟨(hb.block _ (Array.getElem?_eq_some_iff.1 h.1).1).trans h.1, h.2.trans (hb.mono h.2.size)⟩
theorem R7.drew {w w1 : World} (h : R7 w w1) : R7 w w1.drew := ⟨h.1, h.2.drew⟩
theorem R7.drewN {w w1 : World} (h : R7 w w1) (n : Nat) : R7 w (w1.drewN n) := ⟨h.1, below_drewN h.2 n⟩
theorem keep7r_1 {w w1 : World} (h : w1.cell? ⟨w.heap.size, 0, none⟩ = some (.string ⟨#[49, 46, 48, 45, 114, 99, 50]⟩) ∧ w1.cell? ⟨w.heap.size, 1, none⟩ = some (.string ⟨#[49, 46, 48, 45, 115, 110, 97, 112, 115, 104, 111, 116]⟩) ∧ R7 w w1) : R7 w w1 := h.2.2
theorem keep7r_2 {w w1 : World} (h : w1.cell? ⟨w.heap.size, 1, none⟩ = some (.string ⟨#[49, 46, 48, 45, 115, 110, 97, 112, 115, 104, 111, 116]⟩) ∧ w1.cell? ⟨w.heap.size, 2, none⟩ = some (.string ⟨#[49]⟩) ∧ R7 w w1) : R7 w w1 := h.2.2
theorem keep7r_3 {w w1 : World} (h : w1.cell? ⟨w.heap.size, 2, none⟩ = some (.string ⟨#[49]⟩) ∧ w1.cell? ⟨w.heap.size, 3, none⟩ = some (.string ⟨#[49, 45, 115, 112]⟩) ∧ R7 w w1) : R7 w w1 := h.2.2
theorem keep7r_4 {w w1 : World} (h : w1.cell? ⟨w.heap.size, 3, none⟩ = some (.string ⟨#[49, 45, 115, 112]⟩) ∧ w1.cell? ⟨w.heap.size, 4, none⟩ = some (.string ⟨#[49, 45, 120]⟩) ∧ R7 w w1) : R7 w w1 := h.2.2
theorem keep7r_5 {w w1 : World} (h : w1.cell? ⟨w.heap.size, 4, none⟩ = some (.string ⟨#[49, 45, 120]⟩) ∧ w1.cell? ⟨w.heap.size, 5, none⟩ = some (.string ⟨#[49, 45, 49]⟩) ∧ R7 w w1) : R7 w w1 := h.2.2
theorem keep7r_6 {w w1 : World} (h : w1.cell? ⟨w.heap.size, 5, none⟩ = some (.string ⟨#[49, 45, 49]⟩) ∧ w1.cell? ⟨w.heap.size, 6, none⟩ = some (.string ⟨#[49, 46, 49]⟩) ∧ R7 w w1) : R7 w w1 := h.2.2
theorem keep7_1 {w w1 w2 : World} (h : w1.cell? ⟨w.heap.size, 0, none⟩ = some (.string ⟨#[49, 46, 48, 45, 114, 99, 50]⟩) ∧ w1.cell? ⟨w.heap.size, 1, none⟩ = some (.string ⟨#[49, 46, 48, 45, 115, 110, 97, 112, 115, 104, 111, 116]⟩) ∧ R7 w w1) (hb : Below w1.heap.size w1 w2) :
    w2.cell? ⟨w.heap.size, 0, none⟩ = some (.string ⟨#[49, 46, 48, 45, 114, 99, 50]⟩) ∧ w2.cell? ⟨w.heap.size, 1, none⟩ = some (.string ⟨#[49, 46, 48, 45, 115, 110, 97, 112, 115, 104, 111, 116]⟩) ∧ R7 w w2 := ⟨(h.2.2.on hb).cell 0, (h.2.2.on hb).cell 1, h.2.2.on hb⟩
theorem keep7_2 {w w1 w2 : World} (h : w1.cell? ⟨w.heap.size, 1, none⟩ = some (.string ⟨#[49, 46, 48, 45, 115, 110, 97, 112, 115, 104, 111, 116]⟩) ∧ w1.cell? ⟨w.heap.size, 2, none⟩ = some (.string ⟨#[49]⟩) ∧ R7 w w1) (hb : Below w1.heap.size w1 w2) :
    w2.cell? ⟨w.heap.size, 1, none⟩ = some (.string ⟨#[49, 46, 48, 45, 115, 110, 97, 112, 115, 104, 111, 116]⟩) ∧ w2.cell? ⟨w.heap.size, 2, none⟩ = some (.string ⟨#[49]⟩) ∧ R7 w w2 := ⟨(h.2.2.on hb).cell 1, (h.2.2.on hb).cell 2, h.2.2.on hb⟩
theorem keep7_3 {w w1 w2 : World} (h : w1.cell? ⟨w.heap.size, 2, none⟩ = some (.string ⟨#[49]⟩) ∧ w1.cell? ⟨w.heap.size, 3, none⟩ = some (.string ⟨#[49, 45, 115, 112]⟩) ∧ R7 w w1) (hb : Below w1.heap.size w1 w2) :
    w2.cell? ⟨w.heap.size, 2, none⟩ = some (.string ⟨#[49]⟩) ∧ w2.cell? ⟨w.heap.size, 3, none⟩ = some (.string ⟨#[49, 45, 115, 112]⟩) ∧ R7 w w2 := ⟨(h.2.2.on hb).cell 2, (h.2.2.on hb).cell 3, h.2.2.on hb⟩
theorem keep7_4 {w w1 w2 : World} (h : w1.cell? ⟨w.heap.size, 3, none⟩ = some (.string ⟨#[49, 45, 115, 112]⟩) ∧ w1.cell? ⟨w.heap.size, 4, none⟩ = some (.string ⟨#[49, 45, 120]⟩) ∧ R7 w w1) (hb : Below w1.heap.size w1 w2) :
    w2.cell? ⟨w.heap.size, 3, none⟩ = some (.string ⟨#[49, 45, 115, 112]⟩) ∧ w2.cell? ⟨w.heap.size, 4, none⟩ = some (.string ⟨#[49, 45, 120]⟩) ∧ R7 w w2 := ⟨(h.2.2.on hb).cell 3, (h.2.2.on hb).cell 4, h.2.2.on hb⟩
theorem keep7_5 {w w1 w2 : World} (h : w1.cell? ⟨w.heap.size, 4, none⟩ = some (.string ⟨#[49, 45, 120]⟩) ∧ w1.cell? ⟨w.heap.size, 5, none⟩ = some (.string ⟨#[49, 45, 49]⟩) ∧ R7 w w1) (hb : Below w1.heap.size w1 w2) :
    w2.cell? ⟨w.heap.size, 4, none⟩ = some (.string ⟨#[49, 45, 120]⟩) ∧ w2.cell? ⟨w.heap.size, 5, none⟩ = some (.string ⟨#[49, 45, 49]⟩) ∧ R7 w w2 := ⟨(h.2.2.on hb).cell 4, (h.2.2.on hb).cell 5, h.2.2.on hb⟩
theorem keep7_6 {w w1 w2 : World} (h : w1.cell? ⟨w.heap.size, 5, none⟩ = some (.string ⟨#[49, 45, 49]⟩) ∧ w1.cell? ⟨w.heap.size, 6, none⟩ = some (.string ⟨#[49, 46, 49]⟩) ∧ R7 w w1) (hb : Below w1.heap.size w1 w2) :
    w2.cell? ⟨w.heap.size, 5, none⟩ = some (.string ⟨#[49, 45, 49]⟩) ∧ w2.cell? ⟨w.heap.size, 6, none⟩ = some (.string ⟨#[49, 46, 49]⟩) ∧ R7 w w2 := ⟨(h.2.2.on hb).cell 5, (h.2.2.on hb).cell 6, h.2.2.on hb⟩
set_option maxHeartbeats 4000000 in
theorem lives04 (w : World) : Calls Tryd.prog 15 #[] w fun e w' => e = .returned (.bool true) ∧ Below w.heap.size w w' := by
  have c1 := Lib.hid (fun w => cmp_at ⟨#[49, 46, 48, 45, 114, 99, 50]⟩ ⟨#[49, 46, 48, 45, 115, 110, 97, 112, 115, 104, 111, 116]⟩ (-1) (by decide) (by decide) (by decide +kernel) w)
  have c2 := Lib.hid (fun w => cmp_at ⟨#[49, 46, 48, 45, 115, 110, 97, 112, 115, 104, 111, 116]⟩ ⟨#[49]⟩ (-1) (by decide) (by decide) (by decide +kernel) w)
  have c3 := Lib.hid (fun w => cmp_at ⟨#[49]⟩ ⟨#[49, 45, 115, 112]⟩ (-1) (by decide) (by decide) (by decide +kernel) w)
  have c4 := Lib.hid (fun w => cmp_at ⟨#[49, 45, 115, 112]⟩ ⟨#[49, 45, 120]⟩ (-1) (by decide) (by decide) (by decide +kernel) w)
  have c5 := Lib.hid (fun w => cmp_at ⟨#[49, 45, 120]⟩ ⟨#[49, 45, 49]⟩ (-1) (by decide) (by decide) (by decide +kernel) w)
  have c6 := Lib.hid (fun w => cmp_at ⟨#[49, 45, 49]⟩ ⟨#[49, 46, 49]⟩ (-1) (by decide) (by decide) (by decide +kernel) w)
  have c7 := Lib.hid (fun w => cmp_at ⟨#[49, 46, 48]⟩ ⟨#[49]⟩ 0 (by decide) (by decide) (by decide +kernel) w)
  have c8 := Lib.hid (fun w => cmp_at ⟨#[49, 45, 97, 108, 112, 104, 97, 49]⟩ ⟨#[49, 45, 97, 49]⟩ 0 (by decide) (by decide) (by decide +kernel) w)
  have n1 := Lib.hid (fun w => canon_at ⟨#[49, 46, 48, 46, 82, 69, 76, 69, 65, 83, 69]⟩ ⟨#[49]⟩ (by decide) (by decide +kernel) w)
  have n2 := Lib.hid (fun w => canon_at ⟨#[49, 46, 49, 48, 97, 50]⟩ ⟨#[49, 46, 49, 48, 45, 97, 108, 112, 104, 97, 45, 50]⟩ (by decide) (by decide +kernel) w)
  go_enter Tryd.func15, Tryd.ntmps15
  go_wp2
  have h7 : R7 w (w.alloc (.cells row7 9)) := ⟨heap_alloc_new w _, (Below.refl _ _).alloc (Nat.le_refl _) _⟩
  have H7 := Lib.hid h7; clear h7
  go_loopw [6] (fun i wr => ∃ k : Nat, k ≤ 7 ∧ i = .int .i64 k ∧ R7 w wr) (fun i _ => 7 - (intOf i).toNat)
  case atStart => exact ⟨0, Nat.zero_le _, rfl, H7.out⟩
  case round =>
    obtain ⟨k, hk, rfl, h7⟩ := hrel
    have hcase : k = 0 ∨ k = 1 ∨ k = 2 ∨ k = 3 ∨ k = 4 ∨ k = 5 ∨ k = 6 ∨ k = 7 := by omega
    rcases hcase with rfl | rfl | rfl | rfl | rfl | rfl | rfl | rfl
    · go_wp2
      go_quiet (fail)
      go_wp2
      exact ⟨⟨1, by omega, rfl, h7.drewN _⟩, by simp [intOf]⟩
    · have a0 : wr.cell? ⟨w.heap.size, 0, none⟩ = some (.string ⟨#[49, 46, 48, 45, 114, 99, 50]⟩) := h7.cell 0
      have a1 : wr.cell? ⟨w.heap.size, 1, none⟩ = some (.string ⟨#[49, 46, 48, 45, 115, 110, 97, 112, 115, 104, 111, 116]⟩) := h7.cell 1
      have hw1 : IntKind.i64.wrap ((1 : Int) - 1) = 0 := by decide
      have hw2 : IntKind.i64.wrap (0 : Int) = 0 := by decide
      go_wp2
      go_region_held3 (fun w' => w'.cell? ⟨w.heap.size, 0, none⟩ = some (.string ⟨#[49, 46, 48, 45, 114, 99, 50]⟩) ∧ w'.cell? ⟨w.heap.size, 1, none⟩ = some (.string ⟨#[49, 46, 48, 45, 115, 110, 97, 112, 115, 104, 111, 116]⟩) ∧ R7 w w') (first | exact keep7_1 (by assumption) (by assumption) | exact ⟨a0, a1, h7.drew⟩ | exact ⟨a0, a1, h7⟩) ((go_at_call 20; refine (c1.out _).mono ?_; rintro e w1 ⟨rfl, hb1⟩))
      go_wp2
      exact ⟨⟨2, by omega, rfl, keep7r_1 (by assumption)⟩, by simp [intOf]⟩
    · have a0 : wr.cell? ⟨w.heap.size, 1, none⟩ = some (.string ⟨#[49, 46, 48, 45, 115, 110, 97, 112, 115, 104, 111, 116]⟩) := h7.cell 1
      have a1 : wr.cell? ⟨w.heap.size, 2, none⟩ = some (.string ⟨#[49]⟩) := h7.cell 2
      have hw1 : IntKind.i64.wrap ((2 : Int) - 1) = 1 := by decide
      have hw2 : IntKind.i64.wrap (1 : Int) = 1 := by decide
      go_wp2
      go_region_held3 (fun w' => w'.cell? ⟨w.heap.size, 1, none⟩ = some (.string ⟨#[49, 46, 48, 45, 115, 110, 97, 112, 115, 104, 111, 116]⟩) ∧ w'.cell? ⟨w.heap.size, 2, none⟩ = some (.string ⟨#[49]⟩) ∧ R7 w w') (first | exact keep7_2 (by assumption) (by assumption) | exact ⟨a0, a1, h7.drew⟩ | exact ⟨a0, a1, h7⟩) ((go_at_call 20; refine (c2.out _).mono ?_; rintro e w1 ⟨rfl, hb1⟩))
      go_wp2
      exact ⟨⟨3, by omega, rfl, keep7r_2 (by assumption)⟩, by simp [intOf]⟩
    · have a0 : wr.cell? ⟨w.heap.size, 2, none⟩ = some (.string ⟨#[49]⟩) := h7.cell 2
      have a1 : wr.cell? ⟨w.heap.size, 3, none⟩ = some (.string ⟨#[49, 45, 115, 112]⟩) := h7.cell 3
      have hw1 : IntKind.i64.wrap ((3 : Int) - 1) = 2 := by decide
      have hw2 : IntKind.i64.wrap (2 : Int) = 2 := by decide
      go_wp2
      go_region_held3 (fun w' => w'.cell? ⟨w.heap.size, 2, none⟩ = some (.string ⟨#[49]⟩) ∧ w'.cell? ⟨w.heap.size, 3, none⟩ = some (.string ⟨#[49, 45, 115, 112]⟩) ∧ R7 w w') (first | exact keep7_3 (by assumption) (by assumption) | exact ⟨a0, a1, h7.drew⟩ | exact ⟨a0, a1, h7⟩) ((go_at_call 20; refine (c3.out _).mono ?_; rintro e w1 ⟨rfl, hb1⟩))
      go_wp2
      exact ⟨⟨4, by omega, rfl, keep7r_3 (by assumption)⟩, by simp [intOf]⟩
    · have a0 : wr.cell? ⟨w.heap.size, 3, none⟩ = some (.string ⟨#[49, 45, 115, 112]⟩) := h7.cell 3
      have a1 : wr.cell? ⟨w.heap.size, 4, none⟩ = some (.string ⟨#[49, 45, 120]⟩) := h7.cell 4
      have hw1 : IntKind.i64.wrap ((4 : Int) - 1) = 3 := by decide
      have hw2 : IntKind.i64.wrap (3 : Int) = 3 := by decide
      go_wp2
      go_region_held3 (fun w' => w'.cell? ⟨w.heap.size, 3, none⟩ = some (.string ⟨#[49, 45, 115, 112]⟩) ∧ w'.cell? ⟨w.heap.size, 4, none⟩ = some (.string ⟨#[49, 45, 120]⟩) ∧ R7 w w') (first | exact keep7_4 (by assumption) (by assumption) | exact ⟨a0, a1, h7.drew⟩ | exact ⟨a0, a1, h7⟩) ((go_at_call 20; refine (c4.out _).mono ?_; rintro e w1 ⟨rfl, hb1⟩))
      go_wp2
      exact ⟨⟨5, by omega, rfl, keep7r_4 (by assumption)⟩, by simp [intOf]⟩
    · have a0 : wr.cell? ⟨w.heap.size, 4, none⟩ = some (.string ⟨#[49, 45, 120]⟩) := h7.cell 4
      have a1 : wr.cell? ⟨w.heap.size, 5, none⟩ = some (.string ⟨#[49, 45, 49]⟩) := h7.cell 5
      have hw1 : IntKind.i64.wrap ((5 : Int) - 1) = 4 := by decide
      have hw2 : IntKind.i64.wrap (4 : Int) = 4 := by decide
      go_wp2
      go_region_held3 (fun w' => w'.cell? ⟨w.heap.size, 4, none⟩ = some (.string ⟨#[49, 45, 120]⟩) ∧ w'.cell? ⟨w.heap.size, 5, none⟩ = some (.string ⟨#[49, 45, 49]⟩) ∧ R7 w w') (first | exact keep7_5 (by assumption) (by assumption) | exact ⟨a0, a1, h7.drew⟩ | exact ⟨a0, a1, h7⟩) ((go_at_call 20; refine (c5.out _).mono ?_; rintro e w1 ⟨rfl, hb1⟩))
      go_wp2
      exact ⟨⟨6, by omega, rfl, keep7r_5 (by assumption)⟩, by simp [intOf]⟩
    · have a0 : wr.cell? ⟨w.heap.size, 5, none⟩ = some (.string ⟨#[49, 45, 49]⟩) := h7.cell 5
      have a1 : wr.cell? ⟨w.heap.size, 6, none⟩ = some (.string ⟨#[49, 46, 49]⟩) := h7.cell 6
      have hw1 : IntKind.i64.wrap ((6 : Int) - 1) = 5 := by decide
      have hw2 : IntKind.i64.wrap (5 : Int) = 5 := by decide
      go_wp2
      go_region_held3 (fun w' => w'.cell? ⟨w.heap.size, 5, none⟩ = some (.string ⟨#[49, 45, 49]⟩) ∧ w'.cell? ⟨w.heap.size, 6, none⟩ = some (.string ⟨#[49, 46, 49]⟩) ∧ R7 w w') (first | exact keep7_6 (by assumption) (by assumption) | exact ⟨a0, a1, h7.drew⟩ | exact ⟨a0, a1, h7⟩) ((go_at_call 20; refine (c6.out _).mono ?_; rintro e w1 ⟨rfl, hb1⟩))
      go_wp2
      exact ⟨⟨7, by omega, rfl, keep7r_6 (by assumption)⟩, by simp [intOf]⟩
    · have hb7 := h7.2
      have hz7 := hb7.size
      go_wp2_with fail
      refine (c7.out _).mono ?_
      rintro e w1 ⟨rfl, hb1⟩
      go_wp2_with fail
      refine (c8.out _).mono ?_
      rintro e w2 ⟨rfl, hb2⟩
      go_wp2_with fail
      refine (n1.out _).mono ?_
      rintro e w3 ⟨rfl, hb3⟩
      go_wp2_with fail
      refine (n2.out _).mono ?_
      rintro e w4 ⟨rfl, hb4⟩
      have z1 := hb1.size
      have z2 := hb2.size
      have z3 := hb3.size
      go_wp2
      go_ret
      exact ⟨rfl, (((hb7.trans (hb1.mono hz7)).trans (hb2.mono (by omega))).trans (hb3.mono (by omega))).trans (hb4.mono (by omega))⟩
end Go.Proofs.YtmfknlmjpfiajaaDoor
