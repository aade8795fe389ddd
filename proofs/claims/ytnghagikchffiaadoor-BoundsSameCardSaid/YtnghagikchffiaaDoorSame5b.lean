/-
  Layer 5: the walk of BoundsSame, over the contracts that it calls. Own work.
-/
import Derived.Test.YtnghagikchffiaaDoorSame5
import Derived.Test.YtnghagikchffiaaDoorLives5
import Derived.Deep.RegionHeld3
namespace Go.Proofs.YtnghagikchffiaaDoor
set_option linter.unusedVariables false
set_option linter.unusedSimpArgs false
open Go.RowKit

def cutS (s : ByteArray) : ByteArray := if 300 < s.size then s.extract 0 300 else s
theorem cutS_size (s : ByteArray) : (cutS s).size ≤ 300 := by
  unfold cutS; split
  · rw [ByteArray.size_extract]; omega
  · omega
theorem cut_eq (s : ByteArray) (hs : s.size ≤ 9223372036854775807) (w : World) : Calls Tryd.prog 9 #[.string s] w fun e w' => e = .returned (.string (cutS s)) ∧ w' = w := by
  by_cases h : 300 < s.size
  · have hI : (300 : Int) < s.size := by omega
    have HE := Lib.hid (show cutS s = s.extract 0 300 by unfold cutS; rw [if_pos h])
    go_enter Tryd.func9, Tryd.ntmps9
    go_wp2
    go_ret
    exact ⟨ret_str HE.out.symm, rfl⟩
  · have hI : (s.size : Int) ≤ 300 := by omega
    have HE := Lib.hid (show cutS s = s by unfold cutS; rw [if_neg h])
    go_enter Tryd.func9, Tryd.ntmps9
    go_wp2
    go_ret
    exact ⟨ret_str HE.out.symm, rfl⟩
/-- the cells of two variables of three cells each -/
def Two3 (w w1 : World) (B C : Nat) (x0 x1 x2 y0 y1 y2 : Value) : Prop :=
  w1.cell? ⟨B, 0, none⟩ = some x0 ∧ w1.cell? ⟨B, 1, none⟩ = some x1 ∧ w1.cell? ⟨B, 2, none⟩ = some x2 ∧ w1.cell? ⟨C, 0, none⟩ = some y0 ∧ w1.cell? ⟨C, 1, none⟩ = some y1 ∧ w1.cell? ⟨C, 2, none⟩ = some y2 ∧ Below w.heap.size w w1
theorem two3_d {w w1 : World} {B C : Nat} {x0 x1 x2 y0 y1 y2 : Value} (h : w1.cell? ⟨B, 0, none⟩ = some x0 ∧ w1.cell? ⟨B, 1, none⟩ = some x1 ∧ w1.cell? ⟨B, 2, none⟩ = some x2 ∧ w1.cell? ⟨C, 0, none⟩ = some y0 ∧ w1.cell? ⟨C, 1, none⟩ = some y1 ∧ w1.cell? ⟨C, 2, none⟩ = some y2 ∧ Below w.heap.size w w1) :
    w1.drew.cell? ⟨B, 0, none⟩ = some x0 ∧ w1.drew.cell? ⟨B, 1, none⟩ = some x1 ∧ w1.drew.cell? ⟨B, 2, none⟩ = some x2 ∧ w1.drew.cell? ⟨C, 0, none⟩ = some y0 ∧ w1.drew.cell? ⟨C, 1, none⟩ = some y1 ∧ w1.drew.cell? ⟨C, 2, none⟩ = some y2 ∧ Below w.heap.size w w1.drew :=
  ⟨h.1, h.2.1, h.2.2.1, h.2.2.2.1, h.2.2.2.2.1, h.2.2.2.2.2.1, h.2.2.2.2.2.2.drew⟩
theorem two3_id {w w1 : World} {B C : Nat} {x0 x1 x2 y0 y1 y2 : Value} (h : w1.cell? ⟨B, 0, none⟩ = some x0 ∧ w1.cell? ⟨B, 1, none⟩ = some x1 ∧ w1.cell? ⟨B, 2, none⟩ = some x2 ∧ w1.cell? ⟨C, 0, none⟩ = some y0 ∧ w1.cell? ⟨C, 1, none⟩ = some y1 ∧ w1.cell? ⟨C, 2, none⟩ = some y2 ∧ Below w.heap.size w w1) : Two3 w w1 B C x0 x1 x2 y0 y1 y2 := h
theorem two3_k {w w1 w2 : World} {B C : Nat} {x0 x1 x2 y0 y1 y2 : Value} (h : w1.cell? ⟨B, 0, none⟩ = some x0 ∧ w1.cell? ⟨B, 1, none⟩ = some x1 ∧ w1.cell? ⟨B, 2, none⟩ = some x2 ∧ w1.cell? ⟨C, 0, none⟩ = some y0 ∧ w1.cell? ⟨C, 1, none⟩ = some y1 ∧ w1.cell? ⟨C, 2, none⟩ = some y2 ∧ Below w.heap.size w w1) (hb : Below w1.heap.size w1 w2) :
    w2.cell? ⟨B, 0, none⟩ = some x0 ∧ w2.cell? ⟨B, 1, none⟩ = some x1 ∧ w2.cell? ⟨B, 2, none⟩ = some x2 ∧ w2.cell? ⟨C, 0, none⟩ = some y0 ∧ w2.cell? ⟨C, 1, none⟩ = some y1 ∧ w2.cell? ⟨C, 2, none⟩ = some y2 ∧ Below w.heap.size w w2 := by
  obtain ⟨h0, h1, h2, h3, h4, h5, h6⟩ := h
  have hc : ∀ {A : Addr} {x : Value}, w1.cell? A = some x → w2.cell? A = some x := fun hx => (hb.cell (World.block_lt_of_cell? w1 _ hx)).trans hx
  exact ⟨hc h0, hc h1, hc h2, hc h3, hc h4, hc h5, h6.trans (hb.mono h6.size)⟩
theorem two3_b {w w1 : World} {B C : Nat} {x0 x1 x2 y0 y1 y2 : Value} (h : w1.cell? ⟨B, 0, none⟩ = some x0 ∧ w1.cell? ⟨B, 1, none⟩ = some x1 ∧ w1.cell? ⟨B, 2, none⟩ = some x2 ∧ w1.cell? ⟨C, 0, none⟩ = some y0 ∧ w1.cell? ⟨C, 1, none⟩ = some y1 ∧ w1.cell? ⟨C, 2, none⟩ = some y2 ∧ Below w.heap.size w w1) : Below w.heap.size w w1 := h.2.2.2.2.2.2
end Go.Proofs.YtnghagikchffiaaDoor
