/-
  Layer 16: parameters, and small things for the laws. Own work.
-/
import Derived.Test.YtmiiclhhenepiaaLv16
import Derived.Test.YtmiiclhhenepiaaRc16
import Derived.Test.YtmiiclhhenepiaaRHo16
namespace Go.Proofs.Ytmiiclhhenepiaa
set_option linter.unusedVariables false
set_option linter.unusedSimpArgs false
open Go.ChangeShapes Go.WideShapes Go.ChangeAt Go.RowKit

section
variable {H : Type} {enc : TypeId × Value → H} {W : World} {b0 base : Nat} {v : Value} {d : DataW H} {p : List MemPlace}
theorem open_reads_ints (hv : Value.okWide Try.prog W .any b0 31 v) (h : DataW.Trod enc Try.prog W base (fun _ => true) true 31 v d p) :
    ∃ l : List Int, Reads W iV v l ∧ ∀ n ∈ l, -9223372036854775808 ≤ n ∧ n ≤ 9223372036854775807 := by
  obtain ⟨a0, len, cap, rfl⟩ := okWide_slice Try.underlying31 hv
  obtain ⟨fuel, hf⟩ := h
  exact ints_in hf
theorem bools_in {n : Nat} {y : DataW H × List MemPlace} (h : DataW.trod enc Try.prog W base (fun _ => true) true n 23 [v] = some y) : ∃ l : List Bool, Reads W bV v l := by
  rcases Go.Deep.open_bools Try.underlying23 Try.underlying4 (by kernel_rfl) h with ⟨hcs, hx⟩ | ⟨a, len', cap', B, hcs, _, hl, hm, hx, hcell⟩
  · simp only [List.cons.injEq, and_true] at hcs
    subst hcs
    exact ⟨[], .inl ⟨rfl, rfl⟩⟩
  · simp only [List.cons.injEq, and_true] at hcs
    subst hcs
    refine ⟨(List.range len').map B, .inr ⟨a, cap', by simp, by simp; omega, by unfold maxLen at hm; exact hm, fun j n hj => ?_⟩⟩
    have hjl : j < len' := by have := (List.getElem?_eq_some_iff.1 hj).1; simpa using this
    rw [List.getElem?_map, List.getElem?_range hjl] at hj
    simp only [Option.map_some, Option.some.injEq] at hj
    rw [hcell j (by omega), ← hj]
    rfl
theorem open_reads_bools (hv : Value.okWide Try.prog W .any b0 23 v) (h : DataW.Trod enc Try.prog W base (fun _ => true) true 23 v d p) : ∃ l : List Bool, Reads W bV v l := by
  obtain ⟨a0, len, cap, rfl⟩ := okWide_slice Try.underlying23 hv
  obtain ⟨fuel, hf⟩ := h
  exact bools_in hf
end
theorem then16 {W w1 w2 : World} (h : Below W.heap.size W w1) (k : Below w1.heap.size w1 w2) : Below W.heap.size W w2 :=
  h.trans ⟨k.os, k.tape, k.output, k.size, fun i hi => k.block i (Nat.lt_of_lt_of_le hi h.size)⟩
/-- a row of one row -/
theorem one_row16 (w : World) (r : Value) (c : List Int) (h : Reads w iV r c) : Reads2 (w.alloc (.cells #[r] 31)) (.slice (some ⟨w.heap.size, 0, none⟩) 1 1) [c] :=
  lit_reads2 (cs := [c]) (rows := [r]) (heap_alloc_new w (.cells #[r] 31)) (by simp) (fun j d hj => by
    match j, hj with
    | 0, hj => cases hj; exact ⟨r, rfl, h.below ((Below.refl _ _).alloc (Nat.le_refl _) _) (Nat.le_refl _)⟩)
theorem fit_one {c : List Int} (h : ∀ n ∈ c, -9223372036854775808 ≤ n ∧ n ≤ 9223372036854775807) : Fit64 [c] := fun d hd n hn => by
  rw [List.mem_singleton.1 hd] at hn
  exact h n hn
theorem mild_one {c : List Int} (h : Mild16 [c]) : ∀ n ∈ c, -9223372036854775808 < n ∧ n ≤ 9223372036854775807 := fun n hn => h c (by simp) n hn
theorem bool_same {b b' : Bool} {P : Prop} (h : b = true ↔ P) (h' : b' = true ↔ P) : b = b' := by rw [Bool.eq_iff_iff]; exact h.trans h'.symm
theorem Reads2.then16 {W w1 : World} {v : Value} {cs : List (List Int)} (h : Reads2 W v cs) (hb : Below W.heap.size W w1) : Reads2 w1 v cs := h.below hb (Nat.le_refl _)
end Go.Proofs.Ytmiiclhhenepiaa
