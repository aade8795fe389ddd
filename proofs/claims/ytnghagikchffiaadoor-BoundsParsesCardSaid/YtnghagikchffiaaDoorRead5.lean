/-
  Layer 5: the contracts of the reader of ranges: next, skip, take, end. Own work.
-/
import Derived.Test.YtnghagikchffiaaDoorRng5
import Derived.Test.YtnghagikchffiaaDoorTrim1
import Derived.Test.YtnghagikchffiaaDoorIds
import Derived.WalkLawsBesides
import Derived.Maps.AppendAt
namespace Go.Proofs.YtnghagikchffiaaDoor
set_option linter.unusedVariables false
set_option linter.unusedSimpArgs false
open Go.RowKit

/-- the text that a reader still has to go through -/
def RB (w : World) (b : Nat) (s : ByteArray) : Prop := w.heap[b]? = some (.cells #[.string s] 51 (0, 0))
theorem RB.cell {w : World} {b : Nat} {s : ByteArray} (h : RB w b s) : w.cell? ⟨b, 0, none⟩ = some (.string s) := by rw [cell_of_row w b 0 _ _ (0, 0) h]; rfl
theorem RB.frozen {w : World} {b : Nat} {s : ByteArray} (h : RB w b s) : w.frozen? ⟨b, 0, none⟩ = false := frozen_of_row w b 0 _ _ h
theorem RB.lt {w : World} {b : Nat} {s : ByteArray} (h : RB w b s) : b < w.heap.size := (Array.getElem?_eq_some_iff.1 h).1
theorem RB.below {w w' : World} {b B : Nat} {s : ByteArray} (h : RB w b s) (hb : Below B w w') (hB : w.heap.size ≤ B) : RB w' b s := (hb.block b (Nat.lt_of_lt_of_le h.lt hB)).trans h
theorem RB.set {w : World} {b : Nat} {s : ByteArray} (h : RB w b s) (t : ByteArray) : RB (w.setCell ⟨b, 0, none⟩ (.string t)) b t := by
  have := heap_setCell_same w b 0 #[.string s] 51 (.string t) h
  simpa [RB] using this
theorem set_grown (w : World) (b : Nat) (v : Value) : w.grownBy (w.setCell ⟨b, 0, none⟩ v) (some b) :=
  ⟨rfl, rfl, rfl, by simp, fun k _ hk => heap_setCell_other w ⟨b, 0, none⟩ k v (fun e => hk (by simp [e]))⟩
theorem below_grown {w w' : World} (h : Below w.heap.size w w') (row : Option Nat) : w.grownBy w' row := ⟨h.os, h.tape, h.output, h.size, fun k hk _ => h.block k hk⟩
def nextS (s : ByteArray) : Int := ((s.data.toList.headD 0).toNat : Int)
theorem nextS_nil {s : ByteArray} (h : s.size = 0) : nextS s = 0 := by
  have : s.data.toList = [] := List.eq_nil_of_length_eq_zero (by simpa using h)
  unfold nextS; rw [this]; rfl
theorem nextS_pos {s : ByteArray} (h : nextS s ≠ 0) : 1 ≤ s.size := by
  rcases Nat.eq_zero_or_pos s.size with h0 | h0
  · exact absurd (nextS_nil h0) h
  · exact h0
theorem nextS_at {s : ByteArray} (h : 1 ≤ s.size) : s.data.toList[0]? = some (s.data.toList.headD 0) := by
  have h2 : s.data.toList.length = s.size := Array.length_toList
  cases hl : s.data.toList with
  | nil =>
    rw [hl] at h2
    simp at h2; omega
  | cons c r => rfl
theorem emp_is (s : ByteArray) : (s.toList == ([] : List UInt8)) = decide (s.size = 0) := isEmpty_beq s
set_option maxHeartbeats 1000000 in
theorem next_at (b : Nat) (s : ByteArray) (w : World) (h : RB w b s) :
    Calls Tryd.prog 26 #[.pointer (some ⟨b, 0, none⟩)] w fun e w' => e = .returned (.int .u8 (nextS s)) ∧ w' = w := by
  have hc := h.cell
  have he := emp_is s
  by_cases h0 : s.size = 0
  · rw [decide_eq_true h0] at he
    have HN := Lib.hid (nextS_nil h0)
    go_enter Tryd.func26, Tryd.ntmps26
    go_wp2
    go_ret
    exact ⟨ret_int HN.out.symm, rfl⟩
  · rw [decide_eq_false h0] at he
    have hn : nextS s = ((s.data.toList.headD 0).toNat : Int) := rfl
    have hi := fun w => bidx s 0 _ (nextS_at (by omega)) w
    generalize s.data.toList.headD 0 = c at hn hi
    have HN := Lib.hid hn
    have hi0 : ∀ w, (Instr.index 9 (.string s) (.int .i64 0)).run Tryd.prog w = .ok (.int .u8 (c.toNat : Int)) w := hi
    clear hi hn
    go_enter Tryd.func26, Tryd.ntmps26
    go_wp2
    go_ret
    exact ⟨ret_int HN.out.symm, rfl⟩
def trimS (s : ByteArray) : ByteArray := Lib.trimF blankN s
/-- what a method of the reader leaves: another text, all else as it was -/
def Left5 (b : Nat) (s : ByteArray) (w w' : World) : Prop := RB w' b s ∧ w.grownBy w' (some b)
theorem Left5.trans {b : Nat} {s t : ByteArray} {w w1 w2 : World} (h : Left5 b s w w1) (k : Left5 b t w1 w2) : Left5 b t w w2 := ⟨k.1, h.2.trans k.2⟩
/-- the tables lie under all that is made -/
def Tabs (w0 w : World) (b : Nat) : Prop := Lib.Utf8Tabs 1 2 w0 ∧ Below w0.heap.size w0 w ∧ w0.heap.size ≤ b
theorem Tabs.at {w0 w : World} {b : Nat} (h : Tabs w0 w b) : Lib.Utf8Tabs 1 2 w := Utf8Tabs_below h.1 h.2.1
theorem Tabs.left {w0 w w' : World} {b : Nat} (h : Tabs w0 w b) (hg : w.grownBy w' (some b)) : Tabs w0 w' b := ⟨h.1, h.2.1.grown hg h.2.1.size (fun k e => by cases e; exact h.2.2), h.2.2⟩
set_option maxHeartbeats 1000000 in
theorem skip_at (w0 : World) (b : Nat) (s : ByteArray) (hs : s.size ≤ 1000000) (h1 : 1 ≤ s.size) (w : World) (hT : Tabs w0 w b) (h : RB w b s) :
    Calls Tryd.prog 66 #[.pointer (some ⟨b, 0, none⟩)] w fun e w' => e = .returned (.tuple #[]) ∧ Left5 b (trimS (s.extract 1 s.size)) w w' := by
  have hc := h.cell
  have hsz : (s.extract 1 s.size).size ≤ 9223372036854775807 := by rw [ByteArray.size_extract]; omega
  have hcall := Trim_any (s.extract 1 s.size) hsz w hT.at
  have HCALL := Lib.hid hcall
  have H := Lib.hid h
  have hsI : (1 : Int) ≤ s.size := by omega
  have hsJ : (s.size : Int) ≤ 1000000 := by omega
  clear hcall h hT
  go_enter Tryd.func66, Tryd.ntmps66
  go_wp2_with fail
  refine HCALL.out.mono ?_
  rintro e w2 ⟨rfl, hb2⟩
  have h2 := H.out.below hb2 (Nat.le_refl _)
  have H2 := Lib.hid h2
  have f2 := h2.frozen
  have c2 := h2.cell
  have HB2 := Lib.hid hb2
  clear h2 hb2
  go_wp2
  go_end0
  exact ⟨rfl, H2.out.set _, (below_grown HB2.out (some b)).trans (set_grown w2 b _)⟩
/-- the panic that stands for: no range -/
abbrev bad5 : Ending := .panicked [{ v := .iface 48 (.agg #[]), recovered := false }]
theorem u8_beq (a b : Int) : (a == b) = decide (a = b) := by by_cases h : a = b <;> simp [h]
set_option maxHeartbeats 1000000 in
theorem take_ok (w0 : World) (b : Nat) (s : ByteArray) (hs : s.size ≤ 1000000) (x y : Int) (hx : 1 ≤ x) (hy : 1 ≤ y) (hxy : nextS s = x ∨ nextS s = y) (w : World) (hT : Tabs w0 w b) (h : RB w b s) :
    Calls Tryd.prog 53 #[.pointer (some ⟨b, 0, none⟩), .int .u8 x, .int .u8 y] w fun e w' => e = .returned (.bool (decide (nextS s = x))) ∧ Left5 b (trimS (s.extract 1 s.size)) w w' := by
  have hn := next_at b s w h
  have HN := Lib.hid hn
  · skip
    have hp := nextS_pos (s := s) (by rcases hxy with h | h <;> omega)
    have hk := skip_at w0 b s hs hp w hT h
    have HK := Lib.hid hk
    clear hk hn h hT
    generalize nextS s = c at hxy HN ⊢
    by_cases hcx : c = x
    · subst hcx
      clear hxy
      go_enter Tryd.func53, Tryd.ntmps53
      go_wp2_with fail
      refine HN.out.mono ?_
      rintro e w2 ⟨rfl, rfl⟩
      go_wp2_with fail
      refine HK.out.mono ?_
      rintro e w3 ⟨rfl, hl⟩
      have HL := Lib.hid hl
      clear hl
      go_wp2
      go_ret
      exact ⟨ret_bool (by simp), HL.out⟩
    · have hcy : c = y := by rcases hxy with h | h; exact absurd h hcx; exact h
      subst hcy
      clear hxy
      have n1 : (c == x) = false := by simp [hcx]
      go_enter Tryd.func53, Tryd.ntmps53
      go_wp2_with fail
      refine HN.out.mono ?_
      rintro e w2 ⟨rfl, rfl⟩
      go_wp2_with fail
      refine HK.out.mono ?_
      rintro e w3 ⟨rfl, hl⟩
      have HL := Lib.hid hl
      clear hl
      go_wp2
      go_ret
      exact ⟨ret_bool (by simp [hcx]), HL.out⟩
set_option maxHeartbeats 1000000 in
theorem take_bad (b : Nat) (s : ByteArray) (x y : Int) (hxy : ¬ (nextS s = x ∨ nextS s = y)) (w : World) (h : RB w b s) :
    Calls Tryd.prog 53 #[.pointer (some ⟨b, 0, none⟩), .int .u8 x, .int .u8 y] w fun e w' => e = bad5 ∧ w' = w := by
  have hn := next_at b s w h
  have HN := Lib.hid hn
  · skip
    clear hn h
    generalize nextS s = c at hxy HN ⊢
    have n1 : (c == x) = false := by simp; omega
    have n2 : (c == y) = false := by simp; omega
    have m1 : (c != x) = true := by simp; omega
    have m2 : (c != y) = true := by simp; omega
    have o1 : ¬ c = x := by omega
    have o2 : ¬ c = y := by omega
    clear hxy
    go_enter Tryd.func53, Tryd.ntmps53
    go_wp2_with fail
    refine HN.out.mono ?_
    rintro e w2 ⟨rfl, rfl⟩
    go_wp2
    exact ⟨rfl, rfl, rfl⟩
end Go.Proofs.YtnghagikchffiaaDoor
