/-
  Layer 10: what a parameter is: a project. Own work.
-/
import Derived.Test.YtjkmmmmbdfcnbaaMerge10
import Derived.Test.YtjkmmmmbdfcnbaaLaw
import Derived.Deep.Grids
import Derived.ChangeSlices
namespace Go.Proofs.Ytjkmmmmbdfcnbaa
set_option linter.unusedVariables false
set_option linter.unusedSimpArgs false
open Go.ChangeShapes Go.WideShapes Go.ChangeAt Go.RowKit

instance : Inhabited Pr := ⟨⟨⟨#[]⟩, ⟨#[]⟩⟩⟩
instance : Inhabited Ix := ⟨⟨⟨#[]⟩, ⟨#[]⟩⟩⟩
instance : Inhabited Dp := ⟨⟨⟨#[]⟩, ⟨#[]⟩, ⟨#[]⟩, ⟨#[]⟩, ⟨#[]⟩, 0, 0, []⟩⟩
section
variable {H : Type} {enc : TypeId × Value → H} {W : World} {b0 base : Nat} {sp : Nat → Bool} {held : Bool} {v : Value} {d : DataW H} {p : List MemPlace}
theorem add_zero10 (a : Addr) : a.add 0 = a := by unfold Addr.add; rw [if_pos rfl]
theorem add_pos10 (a : Addr) (c : Nat) : a.add (c + 1) = ⟨a.block, a.off + (c + 1), none⟩ := by unfold Addr.add; rw [if_neg (by omega)]
theorem text_in {n : Nat} {c : Value} {y : DataW H × List MemPlace} (h : DataW.trod enc Try.prog W base sp held n 9 [c] = some y) : ∃ s : ByteArray, c = .string s ∧ s.size ≤ maxLen := by
  obtain ⟨s, hc, _, hs⟩ := DataW.trod_string Try.underlying9 h
  simp only [List.cons.injEq, and_true] at hc
  exact ⟨s, hc, hs⟩
theorem int_in {n : Nat} {c : Value} {y : DataW H × List MemPlace} (h : DataW.trod enc Try.prog W base sp held n 3 [c] = some y) : ∃ k : Int, c = .int .i64 k := by
  obtain ⟨k, hc, _⟩ := DataW.trod_int Try.underlying3 h
  simp only [List.cons.injEq, and_true] at hc
  exact ⟨k, hc⟩
theorem bool_in {n : Nat} {c : Value} {y : DataW H × List MemPlace} (h : DataW.trod enc Try.prog W base sp held n 4 [c] = some y) : ∃ k : Bool, c = .bool k := by
  obtain ⟨k, hc, _⟩ := DataW.trod_bool Try.underlying4 h
  simp only [List.cons.injEq, and_true] at hc
  exact ⟨k, hc⟩
theorem fields_in {t : TypeId} {fs : Array Field} {fuel : Nat} {cs : List Value} {x : DataW H × List MemPlace} (ht : Try.prog.underlying t = some (.struct fs)) (h : DataW.trod enc Try.prog W base sp held fuel t cs = some x) :
    ∃ n, ∀ (j : Nat) f, fs[j]? = some f → ∃ y, DataW.trod enc Try.prog W base sp held n f.type ((cs.drop f.offset).take (Try.prog.cellsOf f.type)) = some y := by
  obtain ⟨xs, n, _, rfl, hl, hlen, hf⟩ := DataW.trod_struct ht h
  refine ⟨n, fun j f hj => ?_⟩
  have hjl : j < xs.length := by rw [hlen]; exact (Array.getElem?_eq_some_iff.1 hj).1
  exact ⟨xs[j], (hf j f hj).trans (List.getElem?_eq_getElem hjl)⟩
/-- a slice of elements of sz cells each -/
theorem open_rows {α : Type} [Inhabited α] {t e : TypeId} {sz : Nat} {R : Addr → α → Prop} {Q : α → Prop} (ht : Try.prog.underlying t = some (.slice e)) (hk : Try.prog.cellsOf e = sz)
    (hR : ∀ (n : Nat) (cs : List Value) (y : DataW H × List MemPlace) (a : Addr), DataW.trod enc Try.prog W base sp held n e cs = some y → cs.length = sz → (∀ c, c < sz → W.cell? (a.add c) = cs[c]?) → ∃ x, R a x ∧ Q x)
    {n : Nat} {v : Value} {y : DataW H × List MemPlace} (h : DataW.trod enc Try.prog W base sp held n t [v] = some y) : ∃ l, RdSl sz R v l ∧ ∀ x ∈ l, Q x := by
  rcases Go.Deep.open_slice ht h with ⟨h0, _⟩ | ⟨a, len, cap, m, k, D, Pl, h0, _, hlc, hcm, hm, _, hel⟩
  · simp only [List.cons.injEq, and_true] at h0
    exact ⟨[], .inl ⟨h0, rfl⟩, by simp⟩
  · simp only [List.cons.injEq, and_true] at h0
    subst h0
    have hlm : len ≤ m := by rw [hm]; split <;> omega
    have each : ∀ i, i < len → ∃ x : α, R (a.add (i * sz)) x ∧ Q x := by
      intro i hi
      obtain ⟨cs, h1, h2⟩ := hel i (by omega)
      rw [hk] at h1
      obtain ⟨_, hl, hc⟩ := World.cells?_some h1
      exact hR _ cs _ _ h2 hl (fun c hcs => hc c (by omega))
    obtain ⟨q, hq⟩ := Go.Deep.choose_lt each
    refine ⟨(List.range len).map q, .inr ⟨a, cap, by simp, by simp; omega, by unfold maxLen at hcm; exact hcm, fun i x hx => ?_⟩, fun x hx => ?_⟩
    · have hil : i < len := by have := (List.getElem?_eq_some_iff.1 hx).1; simpa using this
      rw [List.getElem?_map, List.getElem?_range hil] at hx
      simp only [Option.map_some, Option.some.injEq] at hx
      subst hx
      exact (hq i hil).1
    · obtain ⟨i, hi, rfl⟩ := List.mem_map.1 hx
      exact (hq i (List.mem_range.1 hi)).2
theorem two_in {t : TypeId} {f0 f1 : Field} {n : Nat} {cs : List Value} {y : DataW H × List MemPlace} (ht : Try.prog.underlying t = some (.struct #[f0, f1])) (h0 : f0.type = 9 ∧ f0.offset = 0) (h1 : f1.type = 9 ∧ f1.offset = 1)
    (h : DataW.trod enc Try.prog W base sp held n t cs = some y) (hc : cs.length = 2) : ∃ a b : ByteArray, cs = [.string a, .string b] ∧ a.size ≤ maxLen ∧ b.size ≤ maxLen := by
  have hs : Try.prog.cellsOf 9 = 1 := by kernel_rfl
  obtain ⟨m, hf⟩ := fields_in ht h
  obtain ⟨y0, k0⟩ := hf 0 f0 rfl
  obtain ⟨y1, k1⟩ := hf 1 f1 rfl
  rw [h0.1, h0.2, hs] at k0
  rw [h1.1, h1.2, hs] at k1
  match cs, hc with
  | [c0, c1], _ =>
    simp only [List.drop_zero, List.drop_succ_cons, List.take_succ_cons, List.take_zero] at k0 k1
    obtain ⟨a, rfl, e0⟩ := text_in k0
    obtain ⟨b, rfl, e1⟩ := text_in k1
    exact ⟨a, b, rfl, e0, e1⟩
def okPr (p : Pr) : Prop := p.n.size ≤ maxLen
def okDp (d : Dp) : Prop := okKy (keyD d)
theorem props_in {n : Nat} {v : Value} {y : DataW H × List MemPlace} (h : DataW.trod enc Try.prog W base sp held n 24 [v] = some y) : ∃ l : List Pr, RdPs W v l ∧ ∀ x ∈ l, okPr x :=
  open_rows Try.underlying24 (by kernel_rfl) (fun n cs y a h hl hc => by
    obtain ⟨s, t, rfl, e0, e1⟩ := two_in Try.underlying36 ⟨rfl, rfl⟩ ⟨rfl, rfl⟩ h hl
    refine ⟨⟨s, t⟩, ⟨?_, ?_⟩, e0⟩
    · have := hc 0 (by omega); rw [add_zero10] at this; exact this
    · have := hc 1 (by omega); rw [add_pos10] at this; exact this) h
theorem ids_in {n : Nat} {v : Value} {y : DataW H × List MemPlace} (h : DataW.trod enc Try.prog W base sp held n 32 [v] = some y) : ∃ l : List Ix, RdXs W v l ∧ ∀ x ∈ l, True :=
  open_rows Try.underlying32 (by kernel_rfl) (fun n cs y a h hl hc => by
    obtain ⟨s, t, rfl, e0, e1⟩ := two_in Try.underlying57 ⟨rfl, rfl⟩ ⟨rfl, rfl⟩ h hl
    refine ⟨⟨s, t⟩, ⟨?_, ?_⟩, trivial⟩
    · have := hc 0 (by omega); rw [add_zero10] at this; exact this
    · have := hc 1 (by omega); rw [add_pos10] at this; exact this) h
theorem okDp_of {d : Dp} (h0 : d.g.size ≤ maxLen) (h1 : d.a.size ≤ maxLen) (h3 : d.t.size ≤ maxLen) (h4 : d.c.size ≤ maxLen) : okDp d := by
  refine ⟨h0, h1, ?_, h4⟩
  show (jarT d.t).size ≤ maxLen
  unfold jarT
  split
  · decide
  · exact h3
set_option maxRecDepth 100000 in
theorem deps_in {n : Nat} {v : Value} {y : DataW H × List MemPlace} (h : DataW.trod enc Try.prog W base sp held n 25 [v] = some y) : ∃ l : List Dp, RdDs W v l ∧ ∀ x ∈ l, okDp x :=
  open_rows Try.underlying25 (by kernel_rfl) (fun n cs y a h hl hc => by
    have hs : Try.prog.cellsOf 9 = 1 := by kernel_rfl
    have hi : Try.prog.cellsOf 3 = 1 := by kernel_rfl
    have hx : Try.prog.cellsOf 32 = 1 := by kernel_rfl
    obtain ⟨m, hf⟩ := fields_in Try.underlying34 h
    obtain ⟨y0, k0⟩ : ∃ y, DataW.trod enc Try.prog W base sp held m 9 ((cs.drop 0).take (Try.prog.cellsOf 9)) = some y := hf 0 _ rfl
    obtain ⟨y1, k1⟩ : ∃ y, DataW.trod enc Try.prog W base sp held m 9 ((cs.drop 1).take (Try.prog.cellsOf 9)) = some y := hf 1 _ rfl
    obtain ⟨y2, k2⟩ : ∃ y, DataW.trod enc Try.prog W base sp held m 9 ((cs.drop 2).take (Try.prog.cellsOf 9)) = some y := hf 2 _ rfl
    obtain ⟨y3, k3⟩ : ∃ y, DataW.trod enc Try.prog W base sp held m 9 ((cs.drop 3).take (Try.prog.cellsOf 9)) = some y := hf 3 _ rfl
    obtain ⟨y4, k4⟩ : ∃ y, DataW.trod enc Try.prog W base sp held m 9 ((cs.drop 4).take (Try.prog.cellsOf 9)) = some y := hf 4 _ rfl
    obtain ⟨y5, k5⟩ : ∃ y, DataW.trod enc Try.prog W base sp held m 3 ((cs.drop 5).take (Try.prog.cellsOf 3)) = some y := hf 5 _ rfl
    obtain ⟨y6, k6⟩ : ∃ y, DataW.trod enc Try.prog W base sp held m 3 ((cs.drop 6).take (Try.prog.cellsOf 3)) = some y := hf 6 _ rfl
    obtain ⟨y7, k7⟩ : ∃ y, DataW.trod enc Try.prog W base sp held m 32 ((cs.drop 7).take (Try.prog.cellsOf 32)) = some y := hf 7 _ rfl
    match cs, hl with
    | [c0, c1, c2, c3, c4, c5, c6, c7], _ =>
      simp only [hs, hi, hx, List.drop_zero, List.drop_succ_cons, List.take_succ_cons, List.take_zero] at k0 k1 k2 k3 k4 k5 k6 k7
      obtain ⟨s0, rfl, e0⟩ := text_in k0
      obtain ⟨s1, rfl, e1⟩ := text_in k1
      obtain ⟨s2, rfl, e2⟩ := text_in k2
      obtain ⟨s3, rfl, e3⟩ := text_in k3
      obtain ⟨s4, rfl, e4⟩ := text_in k4
      obtain ⟨s5, rfl⟩ := int_in k5
      obtain ⟨s6, rfl⟩ := int_in k6
      obtain ⟨l, r7, _⟩ := ids_in k7
      refine ⟨⟨s0, s1, s2, s3, s4, s5, s6, l⟩, ⟨c7, ⟨?_, ?_, ?_, ?_, ?_, ?_, ?_, ?_⟩, r7⟩, okDp_of e0 e1 e3 e4⟩
      · have := hc 0 (by omega); rw [add_zero10] at this; exact this
      · have := hc 1 (by omega); rw [add_pos10] at this; exact this
      · have := hc 2 (by omega); rw [add_pos10] at this; exact this
      · have := hc 3 (by omega); rw [add_pos10] at this; exact this
      · have := hc 4 (by omega); rw [add_pos10] at this; exact this
      · have := hc 5 (by omega); rw [add_pos10] at this; exact this
      · have := hc 6 (by omega); rw [add_pos10] at this; exact this
      · have := hc 7 (by omega); rw [add_pos10] at this; exact this) h
def okPm (x : Pm) : Prop := (∀ p ∈ x.ps, okPr p) ∧ (∀ d ∈ x.ms, okDp d) ∧ ∀ d ∈ x.ds, okDp d
set_option maxRecDepth 100000 in
theorem open_pom (hv : Value.okWide Try.prog W .any b0 27 v) (h : DataW.Trod enc Try.prog W base sp held 27 v d p) :
    ∃ (vp vm vd : Value) (x : Pm), v = pmV vp vm vd x ∧ RdP W vp vm vd x ∧ okPm x := by
  obtain ⟨cs, rfl, hsz⟩ := okWide_struct Try.underlying27 hv
  obtain ⟨fuel, hf⟩ := h
  have hc : Try.prog.cellsOf 27 = 11 := by kernel_rfl
  have hs : Try.prog.cellsOf 9 = 1 := by kernel_rfl
  have hb : Try.prog.cellsOf 4 = 1 := by kernel_rfl
  have hg : Try.prog.cellsOf 23 = 3 := by kernel_rfl
  have hp : Try.prog.cellsOf 24 = 1 := by kernel_rfl
  have hd : Try.prog.cellsOf 25 = 1 := by kernel_rfl
  rw [hc] at hsz
  obtain ⟨m, hf⟩ := fields_in Try.underlying27 hf
  obtain ⟨y0, k0⟩ : ∃ y, DataW.trod enc Try.prog W base sp held m 4 (((Value.agg cs).cells.toList.drop 0).take (Try.prog.cellsOf 4)) = some y := hf 0 _ rfl
  obtain ⟨y1, k1⟩ : ∃ y, DataW.trod enc Try.prog W base sp held m 23 (((Value.agg cs).cells.toList.drop 1).take (Try.prog.cellsOf 23)) = some y := hf 1 _ rfl
  obtain ⟨y2, k2⟩ : ∃ y, DataW.trod enc Try.prog W base sp held m 9 (((Value.agg cs).cells.toList.drop 4).take (Try.prog.cellsOf 9)) = some y := hf 2 _ rfl
  obtain ⟨y3, k3⟩ : ∃ y, DataW.trod enc Try.prog W base sp held m 9 (((Value.agg cs).cells.toList.drop 5).take (Try.prog.cellsOf 9)) = some y := hf 3 _ rfl
  obtain ⟨y4, k4⟩ : ∃ y, DataW.trod enc Try.prog W base sp held m 9 (((Value.agg cs).cells.toList.drop 6).take (Try.prog.cellsOf 9)) = some y := hf 4 _ rfl
  obtain ⟨y5, k5⟩ : ∃ y, DataW.trod enc Try.prog W base sp held m 9 (((Value.agg cs).cells.toList.drop 7).take (Try.prog.cellsOf 9)) = some y := hf 5 _ rfl
  obtain ⟨y6, k6⟩ : ∃ y, DataW.trod enc Try.prog W base sp held m 24 (((Value.agg cs).cells.toList.drop 8).take (Try.prog.cellsOf 24)) = some y := hf 6 _ rfl
  obtain ⟨y7, k7⟩ : ∃ y, DataW.trod enc Try.prog W base sp held m 25 (((Value.agg cs).cells.toList.drop 9).take (Try.prog.cellsOf 25)) = some y := hf 7 _ rfl
  obtain ⟨y8, k8⟩ : ∃ y, DataW.trod enc Try.prog W base sp held m 25 (((Value.agg cs).cells.toList.drop 10).take (Try.prog.cellsOf 25)) = some y := hf 8 _ rfl
  obtain ⟨l⟩ := cs
  match l, hsz with
  | [c0, c1, c2, c3, c4, c5, c6, c7, c8, c9, c10], _ =>
    simp only [hs, hb, hg, hp, hd, Value.cells, List.drop_zero, List.drop_succ_cons, List.take_succ_cons, List.take_zero] at k0 k1 k2 k3 k4 k5 k6 k7 k8
    obtain ⟨t0, rfl⟩ := bool_in k0
    obtain ⟨m1, hf1⟩ := fields_in Try.underlying23 k1
    obtain ⟨z0, j0⟩ : ∃ y, DataW.trod enc Try.prog W base sp held m1 9 ((([c1, c2, c3] : List Value).drop 0).take (Try.prog.cellsOf 9)) = some y := hf1 0 _ rfl
    obtain ⟨z1, j1⟩ : ∃ y, DataW.trod enc Try.prog W base sp held m1 9 ((([c1, c2, c3] : List Value).drop 1).take (Try.prog.cellsOf 9)) = some y := hf1 1 _ rfl
    obtain ⟨z2, j2⟩ : ∃ y, DataW.trod enc Try.prog W base sp held m1 9 ((([c1, c2, c3] : List Value).drop 2).take (Try.prog.cellsOf 9)) = some y := hf1 2 _ rfl
    simp only [hs, List.drop_zero, List.drop_succ_cons, List.take_succ_cons, List.take_zero] at j0 j1 j2
    obtain ⟨s1, rfl, e1⟩ := text_in j0
    obtain ⟨s2, rfl, e2⟩ := text_in j1
    obtain ⟨s3, rfl, e3⟩ := text_in j2
    obtain ⟨s4, rfl, e4⟩ := text_in k2
    obtain ⟨s5, rfl, e5⟩ := text_in k3
    obtain ⟨s6, rfl, e6⟩ := text_in k4
    obtain ⟨s7, rfl, e7⟩ := text_in k5
    obtain ⟨l8, r8, o8⟩ := props_in k6
    obtain ⟨l9, r9, o9⟩ := deps_in k7
    obtain ⟨l10, r10, o10⟩ := deps_in k8
    exact ⟨c8, c9, c10, ⟨t0, s1, s2, s3, s4, s5, s6, s7, l8, l9, l10⟩, rfl, ⟨r8, r9, r10⟩, o8, o9, o10⟩
end
theorem ok_of {x : Pm} (h : okPm x) (hl : lightM x) : OkP x :=
  ⟨by have := hl.1; omega, by have := hl.2.1; omega, by have := hl.2.2.1; omega, h.1, fun d hd => ⟨h.2.1 d hd, by have := hl.2.2.2.1 d hd; omega⟩, fun d hd => ⟨h.2.2 d hd, by have := hl.2.2.2.2 d hd; omega⟩⟩
end Go.Proofs.Ytjkmmmmbdfcnbaa
