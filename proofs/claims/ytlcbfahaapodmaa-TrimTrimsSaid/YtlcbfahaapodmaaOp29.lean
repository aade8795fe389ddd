/-
  Layer 29: what parameters are: a question, a smaller question, rows of numbers, truths. Own work.
-/
import Derived.Test.YtlcbfahaapodmaaLv29
import Derived.Test.YtlcbfahaapodmaaLaw
import Derived.Deep.Grids
import Derived.ChangeSlices
namespace Go.Proofs.Ytlcbfahaapodmaa
set_option linter.unusedVariables false
set_option linter.unusedSimpArgs false
open Go.ChangeShapes Go.WideShapes Go.ChangeAt Go.RowKit

def Fit64 (cs : List (List Int)) : Prop := ∀ c ∈ cs, ∀ n ∈ c, -9223372036854775808 ≤ n ∧ n ≤ 9223372036854775807
def RdSl {α : Type} (sz : Nat) (R : Addr → α → Prop) (v : Value) (l : List α) : Prop :=
  (v = .slice none 0 0 ∧ l = []) ∨ ∃ a cap, v = .slice (some a) l.length cap ∧ l.length ≤ cap ∧ cap ≤ 9223372036854775807 ∧ ∀ (i : Nat) x, l[i]? = some x → R (a.add (i * sz)) x
section
variable {H : Type} {enc : TypeId × Value → H} {W : World} {b0 base : Nat} {sp : Nat → Bool} {held : Bool} {v : Value} {d : DataW H} {p : List MemPlace}
theorem add_zero16 (a : Addr) : a.add 0 = a := by unfold Addr.add; rw [if_pos rfl]
/-- a slice of elements of sz cells each -/
theorem open_rows {α : Type} [Inhabited α] {t e : TypeId} {sz : Nat} {R : Addr → α → Prop} {Q : α → Prop} (ht : Try.prog.underlying t = some (.slice e)) (hk : Try.prog.cellsOf e = sz)
    (hR : ∀ (n : Nat) (cs : List Value) (y : DataW H × List MemPlace) (a : Addr), DataW.trod enc Try.prog W base sp held n e cs = some y → cs.length = sz → (∀ c, c < sz → W.cell? (a.add c) = cs[c]?) → ∃ x, R a x ∧ Q x)
    {n : Nat} {v : Value} {y : DataW H × List MemPlace} (h : DataW.trod enc Try.prog W base sp held n t [v] = some y) : ∃ l, RdSl sz R v l ∧ ∀ x ∈ l, Q x := by
  rcases Go.Deep.open_slice ht h with ⟨h0, _⟩ | ⟨a, len, cap, m, k, D, Pl, h0, _, hlc, hcm, hm, _, hel⟩
  · simp only [List.cons.injEq, and_true] at h0
    exact ⟨[], .inl ⟨h0, rfl⟩, by simp⟩
  · simp only [List.cons.injEq, and_true] at h0
    subst h0
    have hlm : len ≤ m := by rw [hm]; split <;> omega
    have each : ∀ i, i < len → ∃ x : α, R (a.add (i * sz)) x ∧ Q x := by
      intro i hi
      obtain ⟨cs, h1, h2⟩ := hel i (by omega)
      rw [hk] at h1
      obtain ⟨_, hl, hc⟩ := World.cells?_some h1
      exact hR _ cs _ _ h2 hl (fun c hcs => hc c (by omega))
    obtain ⟨q, hq⟩ := Go.Deep.choose_lt each
    refine ⟨(List.range len).map q, .inr ⟨a, cap, by simp, by simp; omega, by unfold maxLen at hcm; exact hcm, fun i x hx => ?_⟩, fun x hx => ?_⟩
    · have hil : i < len := by have := (List.getElem?_eq_some_iff.1 hx).1; simpa using this
      rw [List.getElem?_map, List.getElem?_range hil] at hx
      simp only [Option.map_some, Option.some.injEq] at hx
      subst hx
      exact (hq i hil).1
    · obtain ⟨i, hi, rfl⟩ := List.mem_map.1 hx
      exact (hq i (List.mem_range.1 hi)).2
end
section
variable {H : Type} {enc : TypeId × Value → H} {W : World} {b0 base : Nat} {v : Value} {d : DataW H} {p : List MemPlace}
theorem ints_in {n : Nat} {y : DataW H × List MemPlace} (h : DataW.trod enc Try.prog W base (fun _ => true) true n 27 [v] = some y) :
    ∃ l : List Int, Reads W iV v l ∧ ∀ n ∈ l, -9223372036854775808 ≤ n ∧ n ≤ 9223372036854775807 := by
  rcases open_ints Try.underlying27 Try.underlying3 (by kernel_rfl) h with ⟨hcs, hx⟩ | ⟨a, len, cap, zs, hcs, _, hl, hm, hz, hx, hcell, hwz⟩
  · simp only [List.cons.injEq, and_true] at hcs
    subst hcs
    exact ⟨[], .inl ⟨rfl, rfl⟩, fun n hn => by simp at hn⟩
  · simp only [List.cons.injEq, and_true] at hcs
    subst hcs
    simp only [if_true] at hz
    have hlen : (zs.take len).length = len := by rw [List.length_take]; omega
    refine ⟨zs.take len, .inr ⟨a, cap, by rw [hlen], by omega, by unfold maxLen at hm; exact hm, fun j n hj => ?_⟩, fun n hn => wf_i64 (hwz n (List.mem_of_mem_take hn))⟩
    have hjl : j < len := by have := (List.getElem?_eq_some_iff.1 hj).1; omega
    rw [List.getElem?_take, if_pos hjl] at hj
    rw [hcell j (by omega)]
    simp only [List.getD, hj, Option.getD_some]
    rfl
set_option maxRecDepth 100000 in
theorem rows_in {n : Nat} {y : DataW H × List MemPlace} (h : DataW.trod enc Try.prog W base (fun _ => true) true n 22 [v] = some y) : ∃ cs, Reads2 W v cs ∧ Fit64 cs := by
  obtain ⟨l, h1, h2⟩ := open_rows (α := List Int) (sz := 1) (R := fun a c => ∃ r, W.cell? a = some r ∧ Reads W iV r c) (Q := fun c => ∀ n ∈ c, -9223372036854775808 ≤ n ∧ n ≤ 9223372036854775807) Try.underlying22 (by kernel_rfl) (fun n cs y a h hl hc => by
    match cs, hl with
    | [r], _ =>
      obtain ⟨l, k1, k2⟩ := ints_in h
      refine ⟨l, ⟨r, ?_, k1⟩, k2⟩
      have := hc 0 (by omega)
      rw [add_zero16] at this
      exact this) h
  refine ⟨l, ?_, h2⟩
  rcases h1 with ⟨rfl, rfl⟩ | ⟨a, cap, rfl, q1, q2, q3⟩
  · exact ⟨none, 0, rfl, by simp, fun j d hj => by simp at hj⟩
  · refine ⟨some a, cap, rfl, by omega, fun j d hj => ?_⟩
    obtain ⟨r, k1, k2⟩ := q3 j d hj
    rw [Nat.mul_one] at k1
    exact ⟨a, r, rfl, k1, k2⟩
theorem open_cs (hv : Value.okWide Try.prog W .any b0 22 v) (h : DataW.Trod enc Try.prog W base (fun _ => true) true 22 v d p) : ∃ cs, Reads2 W v cs ∧ Fit64 cs := by
  obtain ⟨a0, len, cap, rfl⟩ := okWide_slice Try.underlying22 hv
  obtain ⟨fuel, hf⟩ := h
  exact rows_in hf
end
section
variable {H : Type} {enc : TypeId × Value → H} {W : World} {b0 base : Nat} {v : Value} {d : DataW H} {p : List MemPlace}
theorem open_reads_ints (hv : Value.okWide Try.prog W .any b0 27 v) (h : DataW.Trod enc Try.prog W base (fun _ => true) true 27 v d p) :
    ∃ l : List Int, Reads W iV v l ∧ ∀ n ∈ l, -9223372036854775808 ≤ n ∧ n ≤ 9223372036854775807 := by
  obtain ⟨a0, len, cap, rfl⟩ := okWide_slice Try.underlying27 hv
  obtain ⟨fuel, hf⟩ := h
  exact ints_in hf
theorem bools_in {n : Nat} {y : DataW H × List MemPlace} (h : DataW.trod enc Try.prog W base (fun _ => true) true n 40 [v] = some y) : ∃ l : List Bool, Reads W bV v l := by
  rcases Go.Deep.open_bools Try.underlying40 Try.underlying4 (by kernel_rfl) h with ⟨hcs, hx⟩ | ⟨a, len', cap', B, hcs, _, hl, hm, hx, hcell⟩
  · simp only [List.cons.injEq, and_true] at hcs
    subst hcs
    exact ⟨[], .inl ⟨rfl, rfl⟩⟩
  · simp only [List.cons.injEq, and_true] at hcs
    subst hcs
    refine ⟨(List.range len').map B, .inr ⟨a, cap', by simp, by simp; omega, by unfold maxLen at hm; exact hm, fun j n hj => ?_⟩⟩
    have hjl : j < len' := by have := (List.getElem?_eq_some_iff.1 hj).1; simpa using this
    rw [List.getElem?_map, List.getElem?_range hjl] at hj
    simp only [Option.map_some, Option.some.injEq] at hj
    rw [hcell j (by omega), ← hj]
    rfl
theorem open_reads_bools (hv : Value.okWide Try.prog W .any b0 40 v) (h : DataW.Trod enc Try.prog W base (fun _ => true) true 40 v d p) : ∃ l : List Bool, Reads W bV v l := by
  obtain ⟨a0, len, cap, rfl⟩ := okWide_slice Try.underlying40 hv
  obtain ⟨fuel, hf⟩ := h
  exact bools_in hf
end
section
variable {H : Type} {enc : TypeId × Value → H} {W : World} {b0 base : Nat} {v : Value} {d : DataW H} {p : List MemPlace} {sp : Nat → Bool} {held : Bool}
theorem trod_two29 {t : TypeId} {f0 f1 : Field} {fuel : Nat} {cs : List Value} {x : DataW H × List MemPlace} (ht : Try.prog.underlying t = some (.struct #[f0, f1])) (h : DataW.trod enc Try.prog W base sp held fuel t cs = some x) :
    ∃ y0 y1 n, DataW.trod enc Try.prog W base sp held n f0.type ((cs.drop f0.offset).take (Try.prog.cellsOf f0.type)) = some y0 ∧ DataW.trod enc Try.prog W base sp held n f1.type ((cs.drop f1.offset).take (Try.prog.cellsOf f1.type)) = some y1 := by
  obtain ⟨xs, n, _, rfl, hl, hlen, hf⟩ := DataW.trod_struct ht h
  match xs, hlen with
  | [y0, y1], _ => exact ⟨y0, y1, n, by simpa using hf 0 f0 rfl, by simpa using hf 1 f1 rfl⟩
set_option maxRecDepth 100000 in
theorem question_in {n : Nat} {cs : List Value} {y : DataW H × List MemPlace} (h : DataW.trod enc Try.prog W base (fun _ => true) true n 24 cs = some y) (hc : cs.length = 2) :
    ∃ (vars : Int) (cv : Value) (l : List (List Int)), cs = [.int .i64 vars, cv] ∧ (-9223372036854775808 ≤ vars ∧ vars ≤ 9223372036854775807) ∧ Reads2 W cv l ∧ Fit64 l := by
  have h1c : Try.prog.cellsOf 3 = 1 := by kernel_rfl
  have h2c : Try.prog.cellsOf 22 = 1 := by kernel_rfl
  obtain ⟨y0, y1, n, k0, k1⟩ := trod_two29 Try.underlying24 h
  match cs, hc with
  | [c0, c1], _ =>
    simp only [h1c, h2c, List.drop_zero, List.drop_succ_cons, List.take_succ_cons, List.take_zero] at k0 k1
    obtain ⟨r, hr, _, hw⟩ := DataW.trod_int Try.underlying3 k0
    simp only [List.cons.injEq, and_true] at hr
    subst hr
    obtain ⟨l, r1, r2⟩ := rows_in k1
    exact ⟨r, c1, l, rfl, wf_i64 hw, r1, r2⟩
set_option maxRecDepth 100000 in
theorem open_question (hv : Value.okWide Try.prog W .any b0 24 v) (h : DataW.Trod enc Try.prog W base (fun _ => true) true 24 v d p) :
    ∃ (vars : Int) (cv : Value) (l : List (List Int)), v = .agg #[.int .i64 vars, cv] ∧ (-9223372036854775808 ≤ vars ∧ vars ≤ 9223372036854775807) ∧ Reads2 W cv l ∧ Fit64 l := by
  obtain ⟨cs, rfl, hsz⟩ := okWide_struct Try.underlying24 hv
  obtain ⟨fuel, hf⟩ := h
  have hc : Try.prog.cellsOf 24 = 2 := by kernel_rfl
  rw [hc] at hsz
  obtain ⟨vars, cv, l, h1, h2, h3, h4⟩ := question_in hf (by simpa [Value.cells] using hsz)
  obtain ⟨cs⟩ := cs
  have h1 : cs = [.int .i64 vars, cv] := h1
  subst h1
  exact ⟨vars, cv, l, rfl, h2, h3, h4⟩
set_option maxRecDepth 100000 in
theorem open_trimmed (hv : Value.okWide Try.prog W .any b0 29 v) (h : DataW.Trod enc Try.prog W base (fun _ => true) true 29 v d p) :
    ∃ (vars : Int) (cv fv : Value) (l : List (List Int)) (fx : List Int), v = .agg #[.int .i64 vars, cv, fv] ∧ (-9223372036854775808 ≤ vars ∧ vars ≤ 9223372036854775807) ∧ Reads2 W cv l ∧ Fit64 l ∧ Reads W iV fv fx ∧ ∀ n ∈ fx, -9223372036854775808 ≤ n ∧ n ≤ 9223372036854775807 := by
  obtain ⟨cs, rfl, hsz⟩ := okWide_struct Try.underlying29 hv
  obtain ⟨fuel, hf⟩ := h
  have hc : Try.prog.cellsOf 29 = 3 := by kernel_rfl
  have h1c : Try.prog.cellsOf 24 = 2 := by kernel_rfl
  have h2c : Try.prog.cellsOf 27 = 1 := by kernel_rfl
  rw [hc] at hsz
  obtain ⟨y0, y1, n, k0, k1⟩ := trod_two29 Try.underlying29 hf
  obtain ⟨cs⟩ := cs
  match cs, hsz with
  | [c0, c1, c2], _ =>
    simp only [h1c, h2c, Value.cells, List.drop_zero, List.drop_succ_cons, List.take_succ_cons, List.take_zero] at k0 k1
    obtain ⟨vars, cv, l, e, h2, h3, h4⟩ := question_in k0 rfl
    simp only [List.cons.injEq, and_true] at e
    obtain ⟨rfl, rfl⟩ := e
    obtain ⟨fx, r1, r2⟩ := ints_in k1
    exact ⟨vars, c1, c2, l, fx, rfl, h2, h3, h4, r1, r2⟩
end
theorem then29 {W w1 w2 : World} (h : Below W.heap.size W w1) (k : Below w1.heap.size w1 w2) : Below W.heap.size W w2 :=
  h.trans ⟨k.os, k.tape, k.output, k.size, fun i hi => k.block i (Nat.lt_of_lt_of_le hi h.size)⟩
end Go.Proofs.Ytlcbfahaapodmaa
