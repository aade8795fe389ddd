/-
  Layer 8: what a parameter is; what every row of this seat needs. Own work.
-/
import Derived.Test.YthfholnnkdoagaaLiv8
import Derived.Test.YthfholnnkdoagaaLaw
import Derived.Deep.Grids
import Derived.ChangeSlices
import Derived.Deep.DeepHandedRow
import Derived.Lib.LaidTab
namespace Go.Proofs.Ythfholnnkdoagaa
set_option linter.unusedVariables false
set_option linter.unusedSimpArgs false
open Go.ChangeShapes Go.WideShapes Go.ChangeAt Go.RowKit

instance : Inhabited Pr := ⟨⟨⟨#[]⟩, ⟨#[]⟩⟩⟩
instance : Inhabited ByteArray := ⟨⟨#[]⟩⟩
section
variable {H : Type} {enc : TypeId × Value → H} {W : World} {b0 base : Nat} {sp : Nat → Bool} {held : Bool} {v : Value} {d : DataW H} {p : List MemPlace}
theorem add_zero10 (a : Addr) : a.add 0 = a := by unfold Addr.add; rw [if_pos rfl]
theorem add_pos10 (a : Addr) (c : Nat) : a.add (c + 1) = ⟨a.block, a.off + (c + 1), none⟩ := by unfold Addr.add; rw [if_neg (by omega)]
theorem text_in {n : Nat} {c : Value} {y : DataW H × List MemPlace} (h : DataW.trod enc Try.prog W base sp held n 9 [c] = some y) : ∃ s : ByteArray, c = .string s ∧ s.size ≤ maxLen := by
  obtain ⟨s, hc, _, hs⟩ := DataW.trod_string Try.underlying9 h
  simp only [List.cons.injEq, and_true] at hc
  exact ⟨s, hc, hs⟩
theorem int_in {n : Nat} {c : Value} {y : DataW H × List MemPlace} (h : DataW.trod enc Try.prog W base sp held n 3 [c] = some y) : ∃ k : Int, c = .int .i64 k := by
  obtain ⟨k, hc, _⟩ := DataW.trod_int Try.underlying3 h
  simp only [List.cons.injEq, and_true] at hc
  exact ⟨k, hc⟩
theorem bool_in {n : Nat} {c : Value} {y : DataW H × List MemPlace} (h : DataW.trod enc Try.prog W base sp held n 4 [c] = some y) : ∃ k : Bool, c = .bool k := by
  obtain ⟨k, hc, _⟩ := DataW.trod_bool Try.underlying4 h
  simp only [List.cons.injEq, and_true] at hc
  exact ⟨k, hc⟩
theorem fields_in {t : TypeId} {fs : Array Field} {fuel : Nat} {cs : List Value} {x : DataW H × List MemPlace} (ht : Try.prog.underlying t = some (.struct fs)) (h : DataW.trod enc Try.prog W base sp held fuel t cs = some x) :
    ∃ n, ∀ (j : Nat) f, fs[j]? = some f → ∃ y, DataW.trod enc Try.prog W base sp held n f.type ((cs.drop f.offset).take (Try.prog.cellsOf f.type)) = some y := by
  obtain ⟨xs, n, _, rfl, hl, hlen, hf⟩ := DataW.trod_struct ht h
  refine ⟨n, fun j f hj => ?_⟩
  have hjl : j < xs.length := by rw [hlen]; exact (Array.getElem?_eq_some_iff.1 hj).1
  exact ⟨xs[j], (hf j f hj).trans (List.getElem?_eq_getElem hjl)⟩
/-- a slice of elements of sz cells each -/
theorem open_rows {α : Type} [Inhabited α] {t e : TypeId} {sz : Nat} {R : Addr → α → Prop} {Q : α → Prop} (ht : Try.prog.underlying t = some (.slice e)) (hk : Try.prog.cellsOf e = sz)
    (hR : ∀ (n : Nat) (cs : List Value) (y : DataW H × List MemPlace) (a : Addr), DataW.trod enc Try.prog W base sp held n e cs = some y → cs.length = sz → (∀ c, c < sz → W.cell? (a.add c) = cs[c]?) → ∃ x, R a x ∧ Q x)
    {n : Nat} {v : Value} {y : DataW H × List MemPlace} (h : DataW.trod enc Try.prog W base sp held n t [v] = some y) : ∃ l, RdSl sz R v l ∧ ∀ x ∈ l, Q x := by
  rcases Go.Deep.open_slice ht h with ⟨h0, _⟩ | ⟨a, len, cap, m, k, D, Pl, h0, _, hlc, hcm, hm, _, hel⟩
  · simp only [List.cons.injEq, and_true] at h0
    exact ⟨[], .inl ⟨h0, rfl⟩, by simp⟩
  · simp only [List.cons.injEq, and_true] at h0
    subst h0
    have hlm : len ≤ m := by rw [hm]; split <;> omega
    have each : ∀ i, i < len → ∃ x : α, R (a.add (i * sz)) x ∧ Q x := by
      intro i hi
      obtain ⟨cs, h1, h2⟩ := hel i (by omega)
      rw [hk] at h1
      obtain ⟨_, hl, hc⟩ := World.cells?_some h1
      exact hR _ cs _ _ h2 hl (fun c hcs => hc c (by omega))
    obtain ⟨q, hq⟩ := Go.Deep.choose_lt each
    refine ⟨(List.range len).map q, .inr ⟨a, cap, by simp, by simp; omega, by unfold maxLen at hcm; exact hcm, fun i x hx => ?_⟩, fun x hx => ?_⟩
    · have hil : i < len := by have := (List.getElem?_eq_some_iff.1 hx).1; simpa using this
      rw [List.getElem?_map, List.getElem?_range hil] at hx
      simp only [Option.map_some, Option.some.injEq] at hx
      subst hx
      exact (hq i hil).1
    · obtain ⟨i, hi, rfl⟩ := List.mem_map.1 hx
      exact (hq i (List.mem_range.1 hi)).2
set_option maxRecDepth 100000 in
theorem two_in {t : TypeId} {f0 f1 : Field} {n : Nat} {cs : List Value} {y : DataW H × List MemPlace} (ht : Try.prog.underlying t = some (.struct #[f0, f1])) (h0 : f0.type = 9 ∧ f0.offset = 0) (h1 : f1.type = 9 ∧ f1.offset = 1)
    (h : DataW.trod enc Try.prog W base sp held n t cs = some y) (hc : cs.length = 2) : ∃ a b : ByteArray, cs = [.string a, .string b] ∧ a.size ≤ maxLen ∧ b.size ≤ maxLen := by
  have hs : Try.prog.cellsOf 9 = 1 := by kernel_rfl
  obtain ⟨m, hf⟩ := fields_in ht h
  obtain ⟨y0, k0⟩ := hf 0 f0 rfl
  obtain ⟨y1, k1⟩ := hf 1 f1 rfl
  rw [h0.1, h0.2, hs] at k0
  rw [h1.1, h1.2, hs] at k1
  match cs, hc with
  | [c0, c1], _ =>
    simp only [List.drop_zero, List.drop_succ_cons, List.take_succ_cons, List.take_zero] at k0 k1
    obtain ⟨a, rfl, e0⟩ := text_in k0
    obtain ⟨b, rfl, e1⟩ := text_in k1
    exact ⟨a, b, rfl, e0, e1⟩
def okPr (p : Pr) : Prop := p.n.size ≤ maxLen ∧ p.v.size ≤ maxLen
set_option maxRecDepth 100000 in
theorem props_in {n : Nat} {v : Value} {y : DataW H × List MemPlace} (h : DataW.trod enc Try.prog W base sp held n 27 [v] = some y) : ∃ l : List Pr, RdPs W v l ∧ ∀ x ∈ l, okPr x :=
  open_rows Try.underlying27 (by kernel_rfl) (fun n cs y a h hl hc => by
    obtain ⟨s, t, rfl, e0, e1⟩ := two_in Try.underlying33 ⟨rfl, rfl⟩ ⟨rfl, rfl⟩ h hl
    refine ⟨⟨s, t⟩, ⟨?_, ?_⟩, e0, e1⟩
    · have := hc 0 (by omega); rw [add_zero10] at this; exact this
    · have := hc 1 (by omega); rw [add_pos10] at this; exact this) h
def TxAt (w : World) (a : Addr) (s : ByteArray) : Prop := w.cell? a = some (.string s)
/-- a row of texts that came in -/
def RdTx (w : World) (v : Value) (l : List ByteArray) : Prop := RdSl 1 (TxAt w) v l
set_option maxRecDepth 100000 in
theorem texts_in {n : Nat} {v : Value} {y : DataW H × List MemPlace} (h : DataW.trod enc Try.prog W base sp held n 23 [v] = some y) : ∃ l : List ByteArray, RdTx W v l ∧ ∀ x ∈ l, x.size ≤ maxLen :=
  open_rows Try.underlying23 (by kernel_rfl) (fun n cs y a h hl hc => by
    match cs, hl with
    | [c0], _ =>
      obtain ⟨s, rfl, e0⟩ := text_in h
      refine ⟨s, ?_, e0⟩
      have := hc 0 (by omega); rw [add_zero10] at this; exact this) h
set_option maxRecDepth 100000 in
theorem open_props {b0 : Nat} {v : Value} {d : DataW H} {p : List MemPlace} (hv : Value.okWide Try.prog W .any b0 27 v) (h : DataW.Trod enc Try.prog W base (fun _ => true) true 27 v d p) : ∃ l : List Pr, RdPs W v l ∧ ∀ x ∈ l, okPr x := by
  obtain ⟨a0, len, cap, rfl⟩ := okWide_slice Try.underlying27 hv
  obtain ⟨fuel, hf⟩ := h
  exact props_in hf
set_option maxRecDepth 100000 in
theorem open_texts {b0 : Nat} {v : Value} {d : DataW H} {p : List MemPlace} (hv : Value.okWide Try.prog W .any b0 23 v) (h : DataW.Trod enc Try.prog W base (fun _ => true) true 23 v d p) : ∃ l : List ByteArray, RdTx W v l ∧ ∀ x ∈ l, x.size ≤ maxLen := by
  obtain ⟨a0, len, cap, rfl⟩ := okWide_slice Try.underlying23 hv
  obtain ⟨fuel, hf⟩ := h
  exact texts_in hf
end
set_option maxRecDepth 100000 in
theorem maxLen_cell (W : World) (h : W.ShapedOpen Try.prog) : ∃ m, W.cell? ⟨0, 0, none⟩ = some (.int .i64 m) :=
  Go.Proofs.cell_of_shapedOpen_int (zero := #[.int .i64 0]) (t := 3) h (of_decide_eq_true (by kernel_rfl)) (by kernel_rfl) rfl (by kernel_rfl) (by kernel_rfl) Try.underlying3
noncomputable def laidWorld (args : Array Value) (os : Os) : World := World.holding Try.prog os ⟨#[], args, []⟩
end Go.Proofs.Ythfholnnkdoagaa
