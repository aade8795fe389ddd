/-
  Layer 5: ranges as values and in memory; what a parameter of that type is. Own work.
-/
import Derived.Test.YtnghagikchffiaaDoorVerMath
import Derived.Test.YtnghagikchffiaaDoorLaw
import Derived.Deep.Slices
import Derived.Lib.SmallJoins
namespace Go.Proofs.YtnghagikchffiaaDoor
set_option linter.unusedVariables false
set_option linter.unusedSimpArgs false
open Go.ChangeShapes Go.WideShapes Go.ChangeAt Go.RowKit Go.Joins

/-- an end; an interval -/
structure En where
  has : Bool
  ver : ByteArray
  cl : Bool
deriving Inhabited
structure Iv where
  lo : En
  hi : En
deriving Inhabited
def enCells (e : En) : List Value := [.bool e.has, .string e.ver, .bool e.cl]
def ivCells (p : Iv) : List Value := [.bool p.lo.has, .string p.lo.ver, .bool p.lo.cl, .bool p.hi.has, .string p.hi.ver, .bool p.hi.cl]
def enV (e : En) : Value := .agg #[.bool e.has, .string e.ver, .bool e.cl]
def ivV (p : Iv) : Value := .agg #[.bool p.lo.has, .string p.lo.ver, .bool p.lo.cl, .bool p.hi.has, .string p.hi.ver, .bool p.hi.cl]
def okV (s : ByteArray) : Prop := s.size ≤ 9223372036854775807
/-- the slice v reads in w as these intervals -/
def RdI (w : World) (v : Value) (l : List Iv) : Prop :=
  (v = .slice none 0 0 ∧ l = []) ∨ ∃ a cap, v = .slice (some a) l.length cap ∧ l.length ≤ cap ∧ cap ≤ 9223372036854775807 ∧
    ∀ (i : Nat) p, l[i]? = some p → ∀ (c : Nat) u, (ivCells p)[c]? = some u → w.cell? (a.add (i * 6 + c)) = some u
theorem RdI.below {w w' : World} {v : Value} {l : List Iv} {B : Nat} (h : RdI w v l) (hb : Below B w w') (hB : w.heap.size ≤ B) : RdI w' v l := by
  rcases h with h | ⟨a, cap, h1, h2, h3, h5⟩
  · exact .inl h
  · exact .inr ⟨a, cap, h1, h2, h3, fun i p hp c u hu => (hb.cell (Nat.lt_of_lt_of_le (World.block_lt_of_cell? w _ (h5 i p hp c u hu)) hB)).trans (h5 i p hp c u hu)⟩

theorem trod_three {H : Type} {enc : TypeId × Value → H} {P : Program} {w : World} {base : Nat} {spare : Nat → Bool} {held : Bool} {t : TypeId} {f0 f1 f2 : Field} {fuel : Nat} {cs : List Value} {x : DataW H × List MemPlace} (ht : P.underlying t = some (.struct #[f0, f1, f2])) (h : DataW.trod enc P w base spare held fuel t cs = some x) :
    ∃ y0 y1 y2 n, DataW.trod enc P w base spare held n f0.type ((cs.drop f0.offset).take (P.cellsOf f0.type)) = some y0 ∧
      DataW.trod enc P w base spare held n f1.type ((cs.drop f1.offset).take (P.cellsOf f1.type)) = some y1 ∧ DataW.trod enc P w base spare held n f2.type ((cs.drop f2.offset).take (P.cellsOf f2.type)) = some y2 := by
  obtain ⟨xs, n, _, rfl, hl, hlen, hf⟩ := DataW.trod_struct ht h
  match xs, hlen with
  | [y0, y1, y2], _ => exact ⟨y0, y1, y2, n, by simpa using hf 0 f0 rfl, by simpa using hf 1 f1 rfl, by simpa using hf 2 f2 rfl⟩
/-- an element's cells, in the forms in which a load asks for them -/
def IvAt (w : World) (a : Addr) (p : Iv) : Prop :=
  w.cell? a = some (.bool p.lo.has) ∧ w.cell? ⟨a.block, a.off + 1, none⟩ = some (.string p.lo.ver) ∧ w.cell? ⟨a.block, a.off + 2, none⟩ = some (.bool p.lo.cl) ∧ w.cell? ⟨a.block, a.off + 3, none⟩ = some (.bool p.hi.has) ∧ w.cell? ⟨a.block, a.off + 4, none⟩ = some (.string p.hi.ver) ∧ w.cell? ⟨a.block, a.off + 5, none⟩ = some (.bool p.hi.cl)
theorem RdI.at {w w' : World} {a : Addr} {B : Nat} {l : List Iv} {i : Nat} {p : Iv} (h : ∀ (i : Nat) p, l[i]? = some p → ∀ (c : Nat) u, (ivCells p)[c]? = some u → w.cell? (a.add (i * 6 + c)) = some u) (hp : l[i]? = some p) (hb : Below B w w') (hB : w.heap.size ≤ B) :
    IvAt w' (a.add (i * 6)) p := by
  have hc := fun c u hu => (hb.cell (Nat.lt_of_lt_of_le (World.block_lt_of_cell? w _ (h i p hp c u hu)) hB)).trans (h i p hp c u hu)
  refine ⟨hc 0 _ rfl, ?_, ?_, ?_, ?_, ?_⟩
  · have h1 := hc 1 _ rfl
    rw [← Go.Deep.add_add] at h1
    exact h1
  · have h2 := hc 2 _ rfl
    rw [← Go.Deep.add_add] at h2
    exact h2
  · have h3 := hc 3 _ rfl
    rw [← Go.Deep.add_add] at h3
    exact h3
  · have h4 := hc 4 _ rfl
    rw [← Go.Deep.add_add] at h4
    exact h4
  · have h5 := hc 5 _ rfl
    rw [← Go.Deep.add_add] at h5
    exact h5
section
variable {H : Type} {enc : TypeId × Value → H} {W : World} {b0 base : Nat} {sp : Nat → Bool} {v : Value} {d : DataW H} {p : List MemPlace}
theorem one_text {n : Nat} {c : Value} {y : DataW H × List MemPlace} (h : DataW.trod enc Tryd.prog W base sp true n 9 [c] = some y) : ∃ s : ByteArray, c = .string s ∧ s.size ≤ 9223372036854775807 := by
  obtain ⟨s, hc, _, hs⟩ := DataW.trod_string Tryd.underlying9 h
  unfold maxLen at hs
  simp only [List.cons.injEq, and_true] at hc
  exact ⟨s, hc, hs⟩
theorem one_bool {n : Nat} {c : Value} {y : DataW H × List MemPlace} (h : DataW.trod enc Tryd.prog W base sp true n 4 [c] = some y) : ∃ b : Bool, c = .bool b := by
  obtain ⟨b, hc, _⟩ := DataW.trod_bool Tryd.underlying4 h
  simp only [List.cons.injEq, and_true] at hc
  exact ⟨b, hc⟩
set_option maxRecDepth 100000 in
theorem end_cells {n : Nat} {c0 c1 c2 : Value} {y : DataW H × List MemPlace} (h : DataW.trod enc Tryd.prog W base sp true n 58 [c0, c1, c2] = some y) :
    ∃ e : En, c0 = .bool e.has ∧ c1 = .string e.ver ∧ c2 = .bool e.cl ∧ okV e.ver := by
  obtain ⟨y0, y1, y2, n, h0, h1, h2⟩ := trod_three Tryd.underlying58 h
  have hs : Tryd.prog.cellsOf 9 = 1 := by kernel_rfl
  have hb : Tryd.prog.cellsOf 4 = 1 := by kernel_rfl
  simp only [hs, hb, List.drop_zero, List.drop_succ_cons, List.take_succ_cons, List.take_zero] at h0 h1 h2
  obtain ⟨b, rfl⟩ := one_bool h0
  obtain ⟨s, rfl, z⟩ := one_text h1
  obtain ⟨c, rfl⟩ := one_bool h2
  exact ⟨⟨b, s, c⟩, rfl, rfl, rfl, z⟩
set_option maxRecDepth 100000 in
theorem iv_cells {n : Nat} {cs : List Value} {y : DataW H × List MemPlace} (h : DataW.trod enc Tryd.prog W base sp true n 61 cs = some y) (hc : cs.length = 6) :
    ∃ p : Iv, cs = ivCells p ∧ okV p.lo.ver ∧ okV p.hi.ver := by
  obtain ⟨y0, y1, n, _, _, h0, h1⟩ := trod_struct2 Tryd.underlying61 h
  have he : Tryd.prog.cellsOf 58 = 3 := by kernel_rfl
  match cs, hc with
  | [c0, c1, c2, c3, c4, c5], _ =>
    simp only [he, List.drop_zero, List.drop_succ_cons, List.take_succ_cons, List.take_zero] at h0 h1
    obtain ⟨e, rfl, rfl, rfl, z⟩ := end_cells h0
    obtain ⟨g, rfl, rfl, rfl, z'⟩ := end_cells h1
    exact ⟨⟨e, g⟩, rfl, z, z'⟩
set_option maxRecDepth 100000 in
theorem open_ivs {v : Value} {n : Nat} {y : DataW H × List MemPlace} (h : DataW.trod enc Tryd.prog W base sp true n 23 [v] = some y) :
    ∃ l : List Iv, RdI W v l ∧ (∀ p ∈ l, okV p.lo.ver ∧ okV p.hi.ver) := by
  have hk : Tryd.prog.cellsOf 61 = 6 := by kernel_rfl
  rcases Go.Deep.open_slice Tryd.underlying23 h with ⟨h0, _⟩ | ⟨a, len, cap, m, k, D, Pl, h0, _, hlc, hcm, hm, _, hel⟩
  · simp only [List.cons.injEq, and_true] at h0
    exact ⟨[], .inl ⟨h0, rfl⟩, by simp⟩
  · simp only [List.cons.injEq, and_true] at h0
    subst h0
    have hlm : len ≤ m := by rw [hm]; split <;> omega
    have each : ∀ i, i < len → ∃ p : Iv, (okV p.lo.ver ∧ okV p.hi.ver) ∧ ∀ (c : Nat) u, (ivCells p)[c]? = some u → W.cell? (a.add (i * 6 + c)) = some u := by
      intro i hi
      obtain ⟨cs, h1, h2⟩ := hel i (by omega)
      rw [hk] at h1
      obtain ⟨_, hl, hc⟩ := World.cells?_some h1
      obtain ⟨p, rfl, z1, z2⟩ := iv_cells h2 hl
      refine ⟨p, ⟨z1, z2⟩, fun c u hu => ?_⟩
      rw [← Go.Deep.add_add, hc c (by have := (List.getElem?_eq_some_iff.1 hu).1; omega)]
      exact hu
    obtain ⟨q, hq⟩ := Go.Deep.choose_lt each
    refine ⟨(List.range len).map q, .inr ⟨a, cap, by simp, by simp; omega, by unfold maxLen at hcm; exact hcm, fun i p hp c u hu => ?_⟩, fun p hp => ?_⟩
    · have hil : i < len := by have := (List.getElem?_eq_some_iff.1 hp).1; simpa using this
      rw [List.getElem?_map, List.getElem?_range hil] at hp
      simp only [Option.map_some, Option.some.injEq] at hp
      subst hp
      exact (hq i hil).2 c u hu
    · obtain ⟨i, hi, rfl⟩ := List.mem_map.1 hp
      exact (hq i (List.mem_range.1 hi)).1
set_option maxRecDepth 100000 in
theorem open_range (hv : Value.okWide Tryd.prog W .any b0 25 v) (h : DataW.Trod enc Tryd.prog W base sp true 25 v d p) :
    ∃ (hard : Bool) (ver : ByteArray) (pv : Value) (l : List Iv), v = .agg #[.bool hard, .string ver, pv] ∧ RdI W pv l ∧ okV ver ∧ (∀ p ∈ l, okV p.lo.ver ∧ okV p.hi.ver) := by
  obtain ⟨v0, v1, v2, y0, y1, y2, n, rfl, _, _, h0, h1, h2⟩ := Go.Joins.open_agg3 Tryd.underlying25 (by kernel_rfl) (by kernel_rfl) hv h
  obtain ⟨b, rfl⟩ := one_bool h0
  obtain ⟨s, rfl, z⟩ := one_text h1
  obtain ⟨l, hr, hz⟩ := open_ivs h2
  exact ⟨b, s, v2, l, rfl, hr, z, hz⟩
end
end Go.Proofs.YtnghagikchffiaaDoor
