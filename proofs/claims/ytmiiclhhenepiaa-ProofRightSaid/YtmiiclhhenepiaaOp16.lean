/-
  Layer 16: a parameter of rows of numbers. Own work.
-/
import Derived.Test.YtmiiclhhenepiaaLiM16
import Derived.Test.YtmiiclhhenepiaaLaw
import Derived.Test.YtmiiclhhenepiaaMem10
import Derived.Deep.Grids
import Derived.ChangeSlices
namespace Go.Proofs.Ytmiiclhhenepiaa
set_option linter.unusedVariables false
set_option linter.unusedSimpArgs false
open Go.ChangeShapes Go.WideShapes Go.ChangeAt Go.RowKit

section
variable {H : Type} {enc : TypeId × Value → H} {W : World} {b0 base : Nat} {sp : Nat → Bool} {held : Bool} {v : Value} {d : DataW H} {p : List MemPlace}
theorem add_zero16 (a : Addr) : a.add 0 = a := by unfold Addr.add; rw [if_pos rfl]
/-- a slice of elements of sz cells each -/
theorem open_rows {α : Type} [Inhabited α] {t e : TypeId} {sz : Nat} {R : Addr → α → Prop} {Q : α → Prop} (ht : Try.prog.underlying t = some (.slice e)) (hk : Try.prog.cellsOf e = sz)
    (hR : ∀ (n : Nat) (cs : List Value) (y : DataW H × List MemPlace) (a : Addr), DataW.trod enc Try.prog W base sp held n e cs = some y → cs.length = sz → (∀ c, c < sz → W.cell? (a.add c) = cs[c]?) → ∃ x, R a x ∧ Q x)
    {n : Nat} {v : Value} {y : DataW H × List MemPlace} (h : DataW.trod enc Try.prog W base sp held n t [v] = some y) : ∃ l, RdSl sz R v l ∧ ∀ x ∈ l, Q x := by
  rcases Go.Deep.open_slice ht h with ⟨h0, _⟩ | ⟨a, len, cap, m, k, D, Pl, h0, _, hlc, hcm, hm, _, hel⟩
  · simp only [List.cons.injEq, and_true] at h0
    exact ⟨[], .inl ⟨h0, rfl⟩, by simp⟩
  · simp only [List.cons.injEq, and_true] at h0
    subst h0
    have hlm : len ≤ m := by rw [hm]; split <;> omega
    have each : ∀ i, i < len → ∃ x : α, R (a.add (i * sz)) x ∧ Q x := by
      intro i hi
      obtain ⟨cs, h1, h2⟩ := hel i (by omega)
      rw [hk] at h1
      obtain ⟨_, hl, hc⟩ := World.cells?_some h1
      exact hR _ cs _ _ h2 hl (fun c hcs => hc c (by omega))
    obtain ⟨q, hq⟩ := Go.Deep.choose_lt each
    refine ⟨(List.range len).map q, .inr ⟨a, cap, by simp, by simp; omega, by unfold maxLen at hcm; exact hcm, fun i x hx => ?_⟩, fun x hx => ?_⟩
    · have hil : i < len := by have := (List.getElem?_eq_some_iff.1 hx).1; simpa using this
      rw [List.getElem?_map, List.getElem?_range hil] at hx
      simp only [Option.map_some, Option.some.injEq] at hx
      subst hx
      exact (hq i hil).1
    · obtain ⟨i, hi, rfl⟩ := List.mem_map.1 hx
      exact (hq i (List.mem_range.1 hi)).2
end
section
variable {H : Type} {enc : TypeId × Value → H} {W : World} {b0 base : Nat} {v : Value} {d : DataW H} {p : List MemPlace}
theorem ints_in {n : Nat} {y : DataW H × List MemPlace} (h : DataW.trod enc Try.prog W base (fun _ => true) true n 31 [v] = some y) :
    ∃ l : List Int, Reads W iV v l ∧ ∀ n ∈ l, -9223372036854775808 ≤ n ∧ n ≤ 9223372036854775807 := by
  rcases open_ints Try.underlying31 Try.underlying3 (by kernel_rfl) h with ⟨hcs, hx⟩ | ⟨a, len, cap, zs, hcs, _, hl, hm, hz, hx, hcell, hwz⟩
  · simp only [List.cons.injEq, and_true] at hcs
    subst hcs
    exact ⟨[], .inl ⟨rfl, rfl⟩, fun n hn => by simp at hn⟩
  · simp only [List.cons.injEq, and_true] at hcs
    subst hcs
    simp only [if_true] at hz
    have hlen : (zs.take len).length = len := by rw [List.length_take]; omega
    refine ⟨zs.take len, .inr ⟨a, cap, by rw [hlen], by omega, by unfold maxLen at hm; exact hm, fun j n hj => ?_⟩, fun n hn => wf_i64 (hwz n (List.mem_of_mem_take hn))⟩
    have hjl : j < len := by have := (List.getElem?_eq_some_iff.1 hj).1; omega
    rw [List.getElem?_take, if_pos hjl] at hj
    rw [hcell j (by omega)]
    simp only [List.getD, hj, Option.getD_some]
    rfl
set_option maxRecDepth 100000 in
theorem rows_in {n : Nat} {y : DataW H × List MemPlace} (h : DataW.trod enc Try.prog W base (fun _ => true) true n 22 [v] = some y) : ∃ cs, Reads2 W v cs ∧ Fit64 cs := by
  obtain ⟨l, h1, h2⟩ := open_rows (α := List Int) (sz := 1) (R := fun a c => ∃ r, W.cell? a = some r ∧ Reads W iV r c) (Q := fun c => ∀ n ∈ c, -9223372036854775808 ≤ n ∧ n ≤ 9223372036854775807) Try.underlying22 (by kernel_rfl) (fun n cs y a h hl hc => by
    match cs, hl with
    | [r], _ =>
      obtain ⟨l, k1, k2⟩ := ints_in h
      refine ⟨l, ⟨r, ?_, k1⟩, k2⟩
      have := hc 0 (by omega)
      rw [add_zero16] at this
      exact this) h
  refine ⟨l, ?_, h2⟩
  rcases h1 with ⟨rfl, rfl⟩ | ⟨a, cap, rfl, q1, q2, q3⟩
  · exact ⟨none, 0, rfl, by simp, fun j d hj => by simp at hj⟩
  · refine ⟨some a, cap, rfl, by omega, fun j d hj => ?_⟩
    obtain ⟨r, k1, k2⟩ := q3 j d hj
    rw [Nat.mul_one] at k1
    exact ⟨a, r, rfl, k1, k2⟩
theorem open_cs (hv : Value.okWide Try.prog W .any b0 22 v) (h : DataW.Trod enc Try.prog W base (fun _ => true) true 22 v d p) : ∃ cs, Reads2 W v cs ∧ Fit64 cs := by
  obtain ⟨a0, len, cap, rfl⟩ := okWide_slice Try.underlying22 hv
  obtain ⟨fuel, hf⟩ := h
  exact rows_in hf
end
end Go.Proofs.Ytmiiclhhenepiaa
