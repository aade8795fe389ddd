/-
  Layer 2: what a parameter of tokens is, with its bulk. Own work.
-/
import Derived.Test.YtldgjiohigiioaaOpenT2
namespace Go.Proofs.Ytldgjiohigiioaa
set_option linter.unusedVariables false
set_option linter.unusedSimpArgs false
set_option maxRecDepth 100000
open Go.ChangeShapes Go.WideShapes Go.ChangeAt Go.RowKit

def wtA (p : At2) : Nat := p.1.length + p.2.length
def wtT (x : Tm) : Nat := x.n.length + x.t.length + (x.ats.map wtA).sum
section
variable {H : Type} {enc : TypeId × Value → H} {W : World} {b0 base : Nat} {sp : Nat → Bool} {held : Bool} {v : Value} {d : DataW H} {p : List MemPlace}
theorem bulk_sum {α : Type} {wt : α → Nat} {q : Nat → α} {D : Nat → DataW H} : ∀ (is : List Nat), (∀ i ∈ is, wt (q i) + 1 ≤ Rows.uptoBulk (D i)) → ((is.map q).map wt).sum + is.length ≤ Rows.uptoBulkAll (is.map D)
  | [], _ => by simp [Rows.uptoBulkAll]
  | i :: is, h => by
    have h1 := bulk_sum (wt := wt) (q := q) (D := D) is fun j hj => h j (List.mem_cons_of_mem _ hj)
    have h2 := h i List.mem_cons_self
    simp only [List.map_cons, List.sum_cons, List.length_cons, Rows.uptoBulkAll] at h1 ⊢
    omega
/-- a slice of elements of sz cells each, with its bulk -/
theorem open_rowsB {α : Type} [Inhabited α] {t e : TypeId} {sz : Nat} {R : Addr → α → Prop} {wt : α → Nat} (ht : Try.prog.underlying t = some (.slice e)) (hk : Try.prog.cellsOf e = sz)
    (hR : ∀ (n : Nat) (cs : List Value) (y : DataW H × List MemPlace) (a : Addr), DataW.trod enc Try.prog W base sp held n e cs = some y → cs.length = sz → (∀ c, c < sz → W.cell? (a.add c) = cs[c]?) → ∃ x, R a x ∧ wt x + 1 ≤ Rows.uptoBulk y.1)
    {n : Nat} {v : Value} {y : DataW H × List MemPlace} (h : DataW.trod enc Try.prog W base sp held n t [v] = some y) : ∃ l, RdSl sz R v l ∧ (l.map wt).sum + l.length + 1 ≤ Rows.uptoBulk y.1 := by
  rcases Go.Deep.open_slice ht h with ⟨h0, hy⟩ | ⟨a, len, cap, m, k, D, Pl, h0, _, hlc, hcm, hm, hy, hel⟩
  · simp only [List.cons.injEq, and_true] at h0
    exact ⟨[], .inl ⟨h0, rfl⟩, by rw [hy]; simp [Rows.uptoBulk]⟩
  · simp only [List.cons.injEq, and_true] at h0
    subst h0
    have hlm : len ≤ m := by rw [hm]; split <;> omega
    have each : ∀ i, i < len → ∃ x : α, R (a.add (i * sz)) x ∧ wt x + 1 ≤ Rows.uptoBulk (D i) := by
      intro i hi
      obtain ⟨cs, h1, h2⟩ := hel i (by omega)
      rw [hk] at h1
      obtain ⟨_, hl, hc⟩ := World.cells?_some h1
      exact hR _ cs _ _ h2 hl (fun c hcs => hc c (by omega))
    obtain ⟨q, hq⟩ := Go.Deep.choose_lt each
    refine ⟨(List.range len).map q, .inr ⟨a, cap, by simp, by simp; omega, by unfold maxLen at hcm; exact hcm, fun i x hx => ?_⟩, ?_⟩
    · have hil : i < len := by have := (List.getElem?_eq_some_iff.1 hx).1; simpa using this
      rw [List.getElem?_map, List.getElem?_range hil] at hx
      simp only [Option.map_some, Option.some.injEq] at hx
      subst hx
      exact (hq i hil).1
    · have hs := bulk_sum (wt := wt) (q := q) (D := D) (List.range len) fun i hi => (hq i (List.mem_range.1 hi)).2
      rw [hy]
      simp only [Rows.uptoBulk, List.length_map] at hs ⊢
      omega
theorem str_inB {n : Nat} {c : Value} {y : DataW H × List MemPlace} (h : DataW.trod enc Try.prog W base sp held n 9 [c] = some y) : ∃ l : List UInt8, c = .string (str l) ∧ Rows.uptoBulk y.1 = l.length + 1 := by
  obtain ⟨s, hc, hy, hs⟩ := DataW.trod_string Try.underlying9 h
  simp only [List.cons.injEq, and_true] at hc
  exact ⟨s.data.toList, by rw [← str_ofT]; exact hc, by rw [hy]; simp [Rows.uptoBulk]⟩
theorem int_inB {n : Nat} {c : Value} {y : DataW H × List MemPlace} (h : DataW.trod enc Try.prog W base sp held n 3 [c] = some y) : ∃ k : Int, c = .int .i64 k := by
  obtain ⟨k, hc, _⟩ := DataW.trod_int Try.underlying3 h
  simp only [List.cons.injEq, and_true] at hc
  exact ⟨k, hc⟩
theorem attr_inB {n : Nat} {cs : List Value} {y : DataW H × List MemPlace} (h : DataW.trod enc Try.prog W base sp held n 46 cs = some y) (hc : cs.length = 2) : ∃ a b : List UInt8, cs = [.string (str a), .string (str b)] ∧ a.length + b.length + 3 ≤ Rows.uptoBulk y.1 := by
  have hs : Try.prog.cellsOf 9 = 1 := by kernel_rfl
  obtain ⟨xs, m, _, hy, _, hlen, hf⟩ := DataW.trod_struct Try.underlying46 h
  match xs, hlen with
  | [y0, y1], _ =>
    have k0 : DataW.trod enc Try.prog W base sp held m 9 ((cs.drop 0).take (Try.prog.cellsOf 9)) = some y0 := hf 0 _ rfl
    have k1 : DataW.trod enc Try.prog W base sp held m 9 ((cs.drop 1).take (Try.prog.cellsOf 9)) = some y1 := hf 1 _ rfl
    match cs, hc with
    | [c0, c1], _ =>
      simp only [hs, List.drop_zero, List.drop_succ_cons, List.take_succ_cons, List.take_zero] at k0 k1
      obtain ⟨a, rfl, e0⟩ := str_inB k0
      obtain ⟨b, rfl, e1⟩ := str_inB k1
      refine ⟨a, b, rfl, ?_⟩
      rw [hy]
      simp only [List.map_cons, List.map_nil, Rows.uptoBulk, Rows.uptoBulkAll]
      omega
theorem attrs_inB {n : Nat} {v : Value} {y : DataW H × List MemPlace} (h : DataW.trod enc Try.prog W base sp held n 32 [v] = some y) : ∃ l : List At2, RdAs W v l ∧ (l.map wtA).sum + l.length + 1 ≤ Rows.uptoBulk y.1 :=
  open_rowsB Try.underlying32 (by kernel_rfl) (fun n cs y a h hl hc => by
    obtain ⟨s, t, rfl, e0⟩ := attr_inB h hl
    refine ⟨(s, t), ⟨?_, ?_⟩, ?_⟩
    · have := hc 0 (by omega); rw [add_zero10] at this; exact this
    · have := hc 1 (by omega); rw [add_pos10] at this; exact this
    · simp only [wtA]; omega) h
theorem place_inB {n : Nat} {cs : List Value} {y : DataW H × List MemPlace} (h : DataW.trod enc Try.prog W base sp held n 26 cs = some y) (hc : cs.length = 3) : ∃ a b c : Int, cs = [.int .i64 a, .int .i64 b, .int .i64 c] := by
  have hi : Try.prog.cellsOf 3 = 1 := by kernel_rfl
  obtain ⟨xs, m, _, hy, _, hlen, hf⟩ := DataW.trod_struct Try.underlying26 h
  match xs, hlen with
  | [y0, y1, y2], _ =>
    have k0 : DataW.trod enc Try.prog W base sp held m 3 ((cs.drop 0).take (Try.prog.cellsOf 3)) = some y0 := hf 0 _ rfl
    have k1 : DataW.trod enc Try.prog W base sp held m 3 ((cs.drop 1).take (Try.prog.cellsOf 3)) = some y1 := hf 1 _ rfl
    have k2 : DataW.trod enc Try.prog W base sp held m 3 ((cs.drop 2).take (Try.prog.cellsOf 3)) = some y2 := hf 2 _ rfl
    match cs, hc with
    | [c0, c1, c2], _ =>
      simp only [hi, List.drop_zero, List.drop_succ_cons, List.take_succ_cons, List.take_zero] at k0 k1 k2
      obtain ⟨a, rfl⟩ := int_inB k0
      obtain ⟨b, rfl⟩ := int_inB k1
      obtain ⟨c, rfl⟩ := int_inB k2
      exact ⟨a, b, c, rfl⟩
instance : Inhabited Tm := ⟨⟨0, [], [], [], 0, 0, 0⟩⟩
theorem tokens_inB {n : Nat} {v : Value} {y : DataW H × List MemPlace} (h : DataW.trod enc Try.prog W base sp held n 23 [v] = some y) : ∃ l : List Tm, RdTs W v l ∧ (l.map wtT).sum + l.length + 1 ≤ Rows.uptoBulk y.1 :=
  open_rowsB Try.underlying23 (by kernel_rfl) (fun n cs y a h hl hc => by
    have hs : Try.prog.cellsOf 9 = 1 := by kernel_rfl
    have hi : Try.prog.cellsOf 3 = 1 := by kernel_rfl
    have hx : Try.prog.cellsOf 32 = 1 := by kernel_rfl
    have hp : Try.prog.cellsOf 26 = 3 := by kernel_rfl
    obtain ⟨xs, m, _, hy, _, hlen, hf⟩ := DataW.trod_struct Try.underlying34 h
    match xs, hlen with
    | [y0, y1, y2, y3, y4], _ =>
      have k0 : DataW.trod enc Try.prog W base sp held m 3 ((cs.drop 0).take (Try.prog.cellsOf 3)) = some y0 := hf 0 _ rfl
      have k1 : DataW.trod enc Try.prog W base sp held m 9 ((cs.drop 1).take (Try.prog.cellsOf 9)) = some y1 := hf 1 _ rfl
      have k2 : DataW.trod enc Try.prog W base sp held m 32 ((cs.drop 2).take (Try.prog.cellsOf 32)) = some y2 := hf 2 _ rfl
      have k3 : DataW.trod enc Try.prog W base sp held m 9 ((cs.drop 3).take (Try.prog.cellsOf 9)) = some y3 := hf 3 _ rfl
      have k4 : DataW.trod enc Try.prog W base sp held m 26 ((cs.drop 4).take (Try.prog.cellsOf 26)) = some y4 := hf 4 _ rfl
      match cs, hl with
      | [c0, c1, c2, c3, c4, c5, c6], _ =>
        simp only [hs, hi, hx, hp, List.drop_zero, List.drop_succ_cons, List.take_succ_cons, List.take_zero] at k0 k1 k2 k3 k4
        obtain ⟨k, rfl⟩ := int_inB k0
        obtain ⟨nm, rfl, e1⟩ := str_inB k1
        obtain ⟨ats, r2, e2⟩ := attrs_inB k2
        obtain ⟨t, rfl, e3⟩ := str_inB k3
        obtain ⟨p0, p1, p2, e4⟩ := place_inB k4 rfl
        simp only [List.cons.injEq, and_true] at e4
        obtain ⟨rfl, rfl, rfl⟩ := e4
        refine ⟨⟨k, nm, ats, t, p0, p1, p2⟩, ⟨c2, ⟨?_, ?_, ?_, ?_, ?_, ?_, ?_⟩, r2⟩, ?_⟩
        · have := hc 0 (by omega); rw [add_zero10] at this; exact this
        · have := hc 1 (by omega); rw [add_pos10] at this; exact this
        · have := hc 2 (by omega); rw [add_pos10] at this; exact this
        · have := hc 3 (by omega); rw [add_pos10] at this; exact this
        · have := hc 4 (by omega); rw [add_pos10] at this; exact this
        · have := hc 5 (by omega); rw [add_pos10] at this; exact this
        · have := hc 6 (by omega); rw [add_pos10] at this; exact this
        · rw [hy]
          simp only [List.map_cons, List.map_nil, Rows.uptoBulk, Rows.uptoBulkAll, wtT]
          omega) h
theorem open_tokensB (hv : Value.okWide Try.prog W .any b0 23 v) (h : DataW.Trod enc Try.prog W base sp held 23 v d p) :
    ∃ l : List Tm, RdTs W v l ∧ (l.map wtT).sum + l.length + 1 ≤ Rows.uptoBulk d := by
  obtain ⟨a0, len0, cap0, rfl⟩ := okWide_slice Try.underlying23 hv
  obtain ⟨fuel, h⟩ := h
  exact tokens_inB h
end
end Go.Proofs.Ytldgjiohigiioaa
