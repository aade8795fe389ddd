/-
  Layer 25: what a parameter of edits is, with the bound that a row's reach lays on each text of it. Own work.
-/
import Derived.Test.YtoibanffaebllaaOpen24
import Derived.Test.YtoibanffaebllaaMem25
namespace Go.Proofs.Ytoibanffaebllaa
set_option linter.unusedVariables false
set_option linter.unusedSimpArgs false
open Go.ChangeShapes Go.WideShapes Go.ChangeAt Go.RowKit Go.Joins

def okEd (e : Ed) : Prop := (okR e.key.g ∧ okR e.key.a ∧ okR e.key.t ∧ okR e.key.c) ∧ okK e.old ∧ okK e.new
section
variable {H : Type} {enc : TypeId × Value → H} {W : World} {b0 base : Nat} {sp : Nat → Bool} {held : Bool} {v : Value} {d : DataW H} {p : List MemPlace}
theorem wb5 {t : TypeId} {f0 f1 f2 f3 f4 : Field} {d0 d1 d2 d3 d4 : DataW H} (ht : Try.prog.underlying t = some (.struct #[f0, f1, f2, f3, f4])) (h : WB t (.agg [d0, d1, d2, d3, d4])) : WB f0.type d0 ∧ WB f1.type d1 ∧ WB f2.type d2 ∧ WB f3.type d3 ∧ WB f4.type d4 :=
  ⟨fun n hn => h n (by simp [DataW.weights, ht, DataW.weightsEach, hn]), fun n hn => h n (by simp [DataW.weights, ht, DataW.weightsEach, hn]), fun n hn => h n (by simp [DataW.weights, ht, DataW.weightsEach, hn]), fun n hn => h n (by simp [DataW.weights, ht, DataW.weightsEach, hn]), fun n hn => h n (by simp [DataW.weights, ht, DataW.weightsEach, hn])⟩
set_option maxRecDepth 100000 in
theorem five_parts {t : TypeId} {f0 f1 f2 f3 f4 : Field} {fuel : Nat} {cs : List Value} {x : DataW H × List MemPlace} (ht : Try.prog.underlying t = some (.struct #[f0, f1, f2, f3, f4])) (h : DataW.trod enc Try.prog W base sp held fuel t cs = some x) (hw : WB t x.1) :
    ∃ y0 y1 y2 y3 y4 n, DataW.trod enc Try.prog W base sp held n f0.type ((cs.drop f0.offset).take (Try.prog.cellsOf f0.type)) = some y0 ∧ DataW.trod enc Try.prog W base sp held n f1.type ((cs.drop f1.offset).take (Try.prog.cellsOf f1.type)) = some y1 ∧
      DataW.trod enc Try.prog W base sp held n f2.type ((cs.drop f2.offset).take (Try.prog.cellsOf f2.type)) = some y2 ∧ DataW.trod enc Try.prog W base sp held n f3.type ((cs.drop f3.offset).take (Try.prog.cellsOf f3.type)) = some y3 ∧ DataW.trod enc Try.prog W base sp held n f4.type ((cs.drop f4.offset).take (Try.prog.cellsOf f4.type)) = some y4 ∧ WB f0.type y0.1 ∧ WB f1.type y1.1 ∧ WB f2.type y2.1 ∧ WB f3.type y3.1 ∧ WB f4.type y4.1 := by
  obtain ⟨xs, n, _, rfl, hl, hlen, hf⟩ := DataW.trod_struct ht h
  match xs, hlen with
  | [y0, y1, y2, y3, y4], _ =>
    obtain ⟨w0, w1, w2, w3, w4⟩ := wb5 ht (show WB t (.agg [y0.1, y1.1, y2.1, y3.1, y4.1]) from hw)
    exact ⟨y0, y1, y2, y3, y4, n, by simpa using hf 0 f0 rfl, by simpa using hf 1 f1 rfl, by simpa using hf 2 f2 rfl, by simpa using hf 3 f3 rfl, by simpa using hf 4 f4 rfl, w0, w1, w2, w3, w4⟩
theorem bool_r {n : Nat} {c : Value} {y : DataW H × List MemPlace} (h : DataW.trod enc Try.prog W base sp held n 4 [c] = some y) : ∃ b : Bool, c = .bool b := by
  obtain ⟨b, hc, _⟩ := DataW.trod_bool Try.underlying4 h
  simp only [List.cons.injEq, and_true] at hc
  exact ⟨b, hc⟩
set_option maxRecDepth 100000 in
theorem edit_r {n : Nat} {cs : List Value} {y : DataW H × List MemPlace} (h : DataW.trod enc Try.prog W base sp held n 50 cs = some y) (hc : cs.length = 18) (hw : WB 50 y.1) :
    ∃ e : Ed, cs = edCells e ∧ okEd e := by
  obtain ⟨y0, y1, y2, y3, y4, n, h0, h1, h2, h3, h4, w0, w1, w2, w3, w4⟩ := five_parts Try.underlying50 h hw
  have hk : Try.prog.cellsOf 46 = 4 := by kernel_rfl
  have hb : Try.prog.cellsOf 4 = 1 := by kernel_rfl
  have hp : Try.prog.cellsOf 48 = 6 := by kernel_rfl
  match cs, hc with
  | [c0, c1, c2, c3, c4, c5, c6, c7, c8, c9, c10, c11, c12, c13, c14, c15, c16, c17], _ =>
    simp only [hk, hb, hp, List.drop_zero, List.drop_succ_cons, List.take_succ_cons, List.take_zero] at h0 h1 h2 h3 h4
    obtain ⟨g, a, t, c, rfl, rfl, rfl, rfl, z0, z1, z2, z3⟩ := key_r h0 w0
    obtain ⟨had, rfl⟩ := bool_r h1
    obtain ⟨has, rfl⟩ := bool_r h2
    obtain ⟨old, ho, z4⟩ := pin_r h3 rfl w3
    obtain ⟨new, hn, z5⟩ := pin_r h4 rfl w4
    refine ⟨⟨⟨g, a, t, c⟩, had, has, old, new⟩, ?_, ⟨z0, z1, z2, z3⟩, z4, z5⟩
    simp only [pnCells, List.cons.injEq, and_true] at ho hn
    obtain ⟨rfl, rfl, rfl, rfl, rfl, rfl⟩ := ho
    obtain ⟨rfl, rfl, rfl, rfl, rfl, rfl⟩ := hn
    rfl
set_option maxRecDepth 100000 in
theorem open_edits (hv : Value.okWide Try.prog W .any b0 29 v) (h : DataW.Trod enc Try.prog W base sp held 29 v d p) (hw : WB 29 d) :
    ∃ l : List Ed, RdE W v l ∧ (∀ e ∈ l, okEd e) := by
  obtain ⟨a0, len0, cap0, rfl⟩ := okWide_slice Try.underlying29 hv
  obtain ⟨fuel, h⟩ := h
  have hk : Try.prog.cellsOf 50 = 18 := by kernel_rfl
  rcases Go.Deep.open_slice Try.underlying29 h with ⟨h0, _⟩ | ⟨a, len, cap, m, k, D, Pl, h0, _, hlc, hcm, hm, hd, hel⟩
  · simp only [Value.cells, List.cons.injEq, and_true] at h0
    exact ⟨[], .inl ⟨h0, rfl⟩, by simp⟩
  · simp only [Value.cells, List.cons.injEq, and_true] at h0
    rw [h0]
    simp only [Prod.mk.injEq] at hd
    obtain ⟨rfl, _⟩ := hd
    have hlm : len ≤ m := by rw [hm]; split <;> omega
    have hwd : ∀ i, i < len → WB 50 (D i) := fun i hi n hn => hw n (by
      have hx : DataW.weights Try.prog 29 (.slice ((List.range len).map D) ((List.range (m - len)).map fun j => D (len + j))) = (((List.range len).map D).length + ((List.range (m - len)).map fun j => D (len + j)).length) * Try.prog.bytesOf 50 :: (DataW.weightsAll Try.prog 50 ((List.range len).map D) ++ DataW.weightsAll Try.prog 50 ((List.range (m - len)).map fun j => D (len + j))) := by
        simp only [DataW.weights, Try.underlying29]
      rw [hx]
      exact List.mem_cons_of_mem _ (List.mem_append_left _ (wb_all (List.mem_map.2 ⟨i, List.mem_range.2 hi, rfl⟩) n hn)))
    have each : ∀ i, i < len → ∃ p : Ed, okEd p ∧ ∀ (c : Nat) u, (edCells p)[c]? = some u → W.cell? (a.add (i * 18 + c)) = some u := by
      intro i hi
      obtain ⟨cs, h1, h2⟩ := hel i (by omega)
      rw [hk] at h1
      obtain ⟨_, hl, hc⟩ := World.cells?_some h1
      obtain ⟨p, rfl, z⟩ := edit_r h2 hl (hwd i hi)
      refine ⟨p, z, fun c u hu => ?_⟩
      rw [← Go.Deep.add_add, hc c (by have := (List.getElem?_eq_some_iff.1 hu).1; omega)]
      exact hu
    haveI : Inhabited Ed := ⟨⟨⟨⟨#[]⟩, ⟨#[]⟩, ⟨#[]⟩, ⟨#[]⟩⟩, false, false, zP, zP⟩⟩
    obtain ⟨q, hq⟩ := Go.Deep.choose_lt each
    refine ⟨(List.range len).map q, .inr ⟨a, cap, by simp, by simp; omega, by unfold maxLen at hcm; exact hcm, fun i p hp c u hu => ?_⟩, fun p hp => ?_⟩
    · have hil : i < len := by have := (List.getElem?_eq_some_iff.1 hp).1; simpa using this
      rw [List.getElem?_map, List.getElem?_range hil] at hp
      simp only [Option.map_some, Option.some.injEq] at hp
      subst hp
      exact (hq i hil).2 c u hu
    · obtain ⟨i, hi, rfl⟩ := List.mem_map.1 hp
      exact (hq i (List.mem_range.1 hi)).1
end
end Go.Proofs.Ytoibanffaebllaa
