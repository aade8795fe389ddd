/-
  Layer 24: pins and locks in memory: slices that read as pins; what a parameter of type Lock is; append of a pin; what keeps all old memory. Own work.
-/
import Derived.Test.YtoibanffaebllaaPn25
import Derived.Test.YtoibanffaebllaaLaw
import Derived.Deep.Slices
import Derived.Deep.AppendLies
import Derived.Laws.OwnMore
import Derived.OwnWalk
import Derived.Lib.SmallJoins
import Derived.Lib.LaidTab
namespace Go.Proofs.Ytoibanffaebllaa
set_option linter.unusedVariables false
set_option linter.unusedSimpArgs false
open Go.ChangeShapes Go.WideShapes Go.ChangeAt Go.RowKit Go.Joins

theorem below_grown {w w' : World} (h : Below w.heap.size w w') (row : Option Nat) : w.grownBy w' row := ⟨h.os, h.tape, h.output, h.size, fun k hk _ => h.block k hk⟩
/-- no longer than a text may be here -/
def okT (s : ByteArray) : Prop := s.size ≤ 1000000
def okP (p : Pn) : Prop := okT p.g ∧ okT p.a ∧ okT p.t ∧ okT p.c ∧ okT p.v
/-- the slice v reads in w as these pins -/
def RdN (w : World) (v : Value) (l : List Pn) : Prop :=
  (v = .slice none 0 0 ∧ l = []) ∨ ∃ a cap, v = .slice (some a) l.length cap ∧ l.length ≤ cap ∧ cap ≤ 9223372036854775807 ∧
    ∀ (i : Nat) p, l[i]? = some p → ∀ (c : Nat) u, (pnCells p)[c]? = some u → w.cell? (a.add (i * 6 + c)) = some u
theorem RdN.below {w w' : World} {v : Value} {l : List Pn} {B : Nat} (h : RdN w v l) (hb : Below B w w') (hB : w.heap.size ≤ B) : RdN w' v l := by
  rcases h with h | ⟨a, cap, h1, h2, h3, h5⟩
  · exact .inl h
  · exact .inr ⟨a, cap, h1, h2, h3, fun i p hp c u hu => (hb.cell (Nat.lt_of_lt_of_le (World.block_lt_of_cell? w _ (h5 i p hp c u hu)) hB)).trans (h5 i p hp c u hu)⟩
theorem RdN.shape {w : World} {v : Value} {l : List Pn} (h : RdN w v l) : ∃ a c, v = .slice a l.length c := by
  rcases h with ⟨rfl, rfl⟩ | ⟨a, cap, rfl, _⟩
  · exact ⟨none, 0, rfl⟩
  · exact ⟨some a, cap, rfl⟩
/-- an element's cells, in the forms in which a load asks for them -/
def PnAt (w : World) (a : Addr) (p : Pn) : Prop :=
  w.cell? a = some (.string p.g) ∧ w.cell? ⟨a.block, a.off + 1, none⟩ = some (.string p.a) ∧ w.cell? ⟨a.block, a.off + 2, none⟩ = some (.string p.t) ∧ w.cell? ⟨a.block, a.off + 3, none⟩ = some (.string p.c) ∧ w.cell? ⟨a.block, a.off + 4, none⟩ = some (.string p.v) ∧ w.cell? ⟨a.block, a.off + 5, none⟩ = some (.int .i64 p.sc)
theorem RdN.at {w w' : World} {a : Addr} {B : Nat} {l : List Pn} {i : Nat} {p : Pn} (h : ∀ (i : Nat) p, l[i]? = some p → ∀ (c : Nat) u, (pnCells p)[c]? = some u → w.cell? (a.add (i * 6 + c)) = some u) (hp : l[i]? = some p) (hb : Below B w w') (hB : w.heap.size ≤ B) :
    PnAt w' (a.add (i * 6)) p := by
  have hc := fun c u hu => (hb.cell (Nat.lt_of_lt_of_le (World.block_lt_of_cell? w _ (h i p hp c u hu)) hB)).trans (h i p hp c u hu)
  refine ⟨hc 0 _ rfl, ?_, ?_, ?_, ?_, ?_⟩
  · have h1 := hc 1 _ rfl
    rw [← Go.Deep.add_add] at h1
    exact h1
  · have h2 := hc 2 _ rfl
    rw [← Go.Deep.add_add] at h2
    exact h2
  · have h3 := hc 3 _ rfl
    rw [← Go.Deep.add_add] at h3
    exact h3
  · have h4 := hc 4 _ rfl
    rw [← Go.Deep.add_add] at h4
    exact h4
  · have h5 := hc 5 _ rfl
    rw [← Go.Deep.add_add] at h5
    exact h5
/-- the slice that has an element -/
theorem RdN.elem {w : World} {a : Option Addr} {n c : Nat} {l : List Pn} {i : Nat} {p : Pn} (h : RdN w (.slice a n c) l) (hp : l[i]? = some p) :
    ∃ b, a = some b ∧ n = l.length ∧ l.length ≤ c ∧ c ≤ 9223372036854775807 ∧ ∀ (i : Nat) p, l[i]? = some p → ∀ (c : Nat) u, (pnCells p)[c]? = some u → w.cell? (b.add (i * 6 + c)) = some u := by
  rcases h with ⟨_, rfl⟩ | ⟨b, cap, h, h1, h2, h3⟩
  · simp at hp
  · cases h
    exact ⟨b, rfl, rfl, h1, h2, h3⟩
theorem add_off (g i : Nat) : (⟨g, 0, none⟩ : Addr).add i = ⟨g, i, none⟩ := by unfold Addr.add; split <;> simp_all
theorem RdN.of_own {w : World} {v : Value} {l : List Pn} {base e : Nat} (h : w.ownsRow base e 6 v l.length (rowN l)) : RdN w v l := by
  have h0 := h
  obtain ⟨_, hc⟩ := h
  rcases hc with ⟨rfl, hn⟩ | ⟨g, cap, cur, rfl, _, hg, hn, hcm, _, _⟩
  · exact .inl ⟨rfl, List.eq_nil_of_length_eq_zero hn⟩
  · refine .inr ⟨⟨g, 0, none⟩, cap, rfl, hn, by unfold maxLen at hcm; exact hcm, fun i p hp c u hu => ?_⟩
    have hc6 : c < 6 := by have := (List.getElem?_eq_some_iff.1 hu).1; simpa [pnCells] using this
    exact h0.cells (g := g) rfl _ u ((rowN_at l i c p hp hc6).trans hu)
theorem pn_info : (Try.prog.info? 48).map (fun i => (i.zero, i.size, i.bytes)) = some (some (.agg #[.string .empty, .string .empty, .string .empty, .string .empty, .string .empty, .int .i64 0]), 6, 88) := by kernel_rfl
theorem heap_alloc_new' (w : World) (o : Obj) : (w.alloc o).heap[w.heap.size]? = some o := heap_alloc_new w o
/-- what `append(s, x)` of one pin does, and where the row lies then -/
theorem app6p {P : Program} {ops : Array Oper} {rest : List Oper} {o : Oper} {a : Act} {Q : Exit → Act → World → Prop} {w0 : World} (p : Pn) (hgd : o.guard = none) (s x : Operand) (t e : TypeId)
    (ho : o.op = .call { callee := .builtin .append, args := #[s, x], argTypes := #[t, t] }) (z : Value) (bytes base n : Nat)
    (ht : P.underlying t = some (.slice e)) (hinfo : (P.info? e).map (fun i => (i.zero, i.size, i.bytes)) = some (some z, 6, bytes)) (hzs : z.cells.size = 6)
    (v : Value) (xs : List Value) (hs : a.eval s = v) (hown : w0.ownsRow base e 6 v n xs) (hx : a.eval x = .slice (some ⟨w0.heap.size, 0, none⟩) 1 1)
    (h63 : n + 1 ≤ 281474976710656) (hbytes : (n + 1) * bytes ≤ 140737488355328) (hbase : base ≤ w0.heap.size)
    (h : ∀ v' w', w'.ownsRow base e 6 v' (n + 1) (xs ++ pnCells p) → w0.grownBy w' v.ownBlock → (∀ k, k < w0.heap.size → v.ownBlock ≠ some k → v'.ownBlock ≠ some k) → wpList P ops Q rest (a.put o.dst v') w') :
    wpList P ops Q (o :: rest) a (w0.alloc (.cells #[.string p.g, .string p.a, .string p.t, .string p.c, .string p.v, .int .i64 p.sc] e)) := by
  obtain ⟨i, hi, hz, hsize, hby⟩ := info_parts hinfo
  refine wpList_append_lies _ hgd s x t ho base e i z 6 bytes ht hi hz hsize hby hzs (by omega) v n xs hs (hown.alloc _) ⟨w0.heap.size, 0, none⟩ 1 1 (pnCells p) hx rfl ?_ (by simp [pnCells, Value.oneCell']) (by omega) (by simp only [maxLen]; omega) hbytes (by simp; omega) (w0.heap.size + 1) (by simp) ?_
  · intro j y hj
    rw [add_off, cell_of_row _ w0.heap.size j _ e (0, 0) (heap_alloc_new w0 _)]
    have : (#[Value.string p.g, .string p.a, .string p.t, .string p.c, .string p.v, .int .i64 p.sc] : Array Value) = (pnCells p).toArray := rfl
    rw [this]
    simpa using hj
  · intro g cap w' ho' hg hw _
    refine h _ w' ho' ⟨hg.os, hg.tape, hg.output, Nat.le_trans (by simp) hg.size, fun k hk hne => (hg.block k (by simp; omega) hne).trans (Below.heap_alloc _ _ _ hk)⟩ fun k hk hne => ?_
    have e1 : (Value.slice (some ⟨g, 0, none⟩) (n + 1) cap).ownBlock = some g := rfl
    rw [e1]
    intro h2
    cases h2
    rcases hw with hw | hw
    · exact hne hw
    · omega
def lockV (g a v : ByteArray) (pv : Value) : Value := .agg #[.string g, .string a, .string v, pv]
section
variable {H : Type} {enc : TypeId × Value → H} {W : World} {b0 base : Nat} {sp : Nat → Bool} {v : Value} {d : DataW H} {p : List MemPlace}
def okV (s : ByteArray) : Prop := s.size ≤ 9223372036854775807
def okW (p : Pn) : Prop := okV p.g ∧ okV p.a ∧ okV p.t ∧ okV p.c ∧ okV p.v ∧ -9223372036854775808 ≤ p.sc ∧ p.sc ≤ 9223372036854775807
theorem one_text {n : Nat} {c : Value} {y : DataW H × List MemPlace} (h : DataW.trod enc Try.prog W base sp true n 9 [c] = some y) : ∃ s : ByteArray, c = .string s ∧ s.size ≤ 9223372036854775807 := by
  obtain ⟨s, hc, _, hs⟩ := DataW.trod_string Try.underlying9 h
  unfold maxLen at hs
  simp only [List.cons.injEq, and_true] at hc
  exact ⟨s, hc, hs⟩
theorem one_int {n : Nat} {c : Value} {y : DataW H × List MemPlace} (h : DataW.trod enc Try.prog W base sp true n 3 [c] = some y) : ∃ k : Int, c = .int .i64 k ∧ -9223372036854775808 ≤ k ∧ k ≤ 9223372036854775807 := by
  obtain ⟨k, hc, _, hk⟩ := DataW.trod_int Try.underlying3 h
  simp only [List.cons.injEq, and_true] at hc
  exact ⟨k, hc, (wf_i64 hk).1, (wf_i64 hk).2⟩
theorem trod_three {P : Program} {w : World} {base : Nat} {spare : Nat → Bool} {held : Bool} {t : TypeId} {f0 f1 f2 : Field} {fuel : Nat} {cs : List Value} {x : DataW H × List MemPlace} (ht : P.underlying t = some (.struct #[f0, f1, f2])) (h : DataW.trod enc P w base spare held fuel t cs = some x) :
    ∃ y0 y1 y2 n, DataW.trod enc P w base spare held n f0.type ((cs.drop f0.offset).take (P.cellsOf f0.type)) = some y0 ∧
      DataW.trod enc P w base spare held n f1.type ((cs.drop f1.offset).take (P.cellsOf f1.type)) = some y1 ∧ DataW.trod enc P w base spare held n f2.type ((cs.drop f2.offset).take (P.cellsOf f2.type)) = some y2 := by
  obtain ⟨xs, n, _, rfl, hl, hlen, hf⟩ := DataW.trod_struct ht h
  match xs, hlen with
  | [y0, y1, y2], _ => exact ⟨y0, y1, y2, n, by simpa using hf 0 f0 rfl, by simpa using hf 1 f1 rfl, by simpa using hf 2 f2 rfl⟩
theorem trod_four {P : Program} {w : World} {base : Nat} {spare : Nat → Bool} {held : Bool} {t : TypeId} {f0 f1 f2 f3 : Field} {fuel : Nat} {cs : List Value} {x : DataW H × List MemPlace} (ht : P.underlying t = some (.struct #[f0, f1, f2, f3])) (h : DataW.trod enc P w base spare held fuel t cs = some x) :
    ∃ y0 y1 y2 y3 n, DataW.trod enc P w base spare held n f0.type ((cs.drop f0.offset).take (P.cellsOf f0.type)) = some y0 ∧
      DataW.trod enc P w base spare held n f1.type ((cs.drop f1.offset).take (P.cellsOf f1.type)) = some y1 ∧ DataW.trod enc P w base spare held n f2.type ((cs.drop f2.offset).take (P.cellsOf f2.type)) = some y2 ∧ DataW.trod enc P w base spare held n f3.type ((cs.drop f3.offset).take (P.cellsOf f3.type)) = some y3 := by
  obtain ⟨xs, n, _, rfl, hl, hlen, hf⟩ := DataW.trod_struct ht h
  match xs, hlen with
  | [y0, y1, y2, y3], _ => exact ⟨y0, y1, y2, y3, n, by simpa using hf 0 f0 rfl, by simpa using hf 1 f1 rfl, by simpa using hf 2 f2 rfl, by simpa using hf 3 f3 rfl⟩
set_option maxRecDepth 100000 in
theorem key_cells {n : Nat} {c0 c1 c2 c3 : Value} {y : DataW H × List MemPlace} (h : DataW.trod enc Try.prog W base sp true n 46 [c0, c1, c2, c3] = some y) :
    ∃ g a t c : ByteArray, c0 = .string g ∧ c1 = .string a ∧ c2 = .string t ∧ c3 = .string c ∧ okV g ∧ okV a ∧ okV t ∧ okV c := by
  obtain ⟨y0, y1, y2, y3, n, h0, h1, h2, h3⟩ := trod_four Try.underlying46 h
  have hs : Try.prog.cellsOf 9 = 1 := by kernel_rfl
  simp only [hs, List.drop_zero, List.drop_succ_cons, List.take_succ_cons, List.take_zero] at h0 h1 h2 h3
  obtain ⟨g, rfl, z0⟩ := one_text h0
  obtain ⟨a, rfl, z1⟩ := one_text h1
  obtain ⟨t, rfl, z2⟩ := one_text h2
  obtain ⟨c, rfl, z3⟩ := one_text h3
  exact ⟨g, a, t, c, rfl, rfl, rfl, rfl, z0, z1, z2, z3⟩
set_option maxRecDepth 100000 in
theorem pin_cells {n : Nat} {cs : List Value} {y : DataW H × List MemPlace} (h : DataW.trod enc Try.prog W base sp true n 48 cs = some y) (hc : cs.length = 6) :
    ∃ p : Pn, cs = pnCells p ∧ okW p := by
  obtain ⟨y0, y1, y2, n, h0, h1, h2⟩ := trod_three Try.underlying48 h
  have hk : Try.prog.cellsOf 46 = 4 := by kernel_rfl
  have hs : Try.prog.cellsOf 9 = 1 := by kernel_rfl
  have hi : Try.prog.cellsOf 3 = 1 := by kernel_rfl
  match cs, hc with
  | [c0, c1, c2, c3, c4, c5], _ =>
    simp only [hk, hs, hi, List.drop_zero, List.drop_succ_cons, List.take_succ_cons, List.take_zero] at h0 h1 h2
    obtain ⟨g, a, t, c, rfl, rfl, rfl, rfl, z0, z1, z2, z3⟩ := key_cells h0
    obtain ⟨u, rfl, z4⟩ := one_text h1
    obtain ⟨s, rfl, z5, z6⟩ := one_int h2
    exact ⟨⟨g, a, t, c, u, s⟩, rfl, z0, z1, z2, z3, z4, z5, z6⟩
set_option maxRecDepth 100000 in
theorem open_pins {v : Value} {n : Nat} {y : DataW H × List MemPlace} (h : DataW.trod enc Try.prog W base sp true n 24 [v] = some y) :
    ∃ l : List Pn, RdN W v l ∧ (∀ p ∈ l, okW p) := by
  have hk : Try.prog.cellsOf 48 = 6 := by kernel_rfl
  rcases Go.Deep.open_slice Try.underlying24 h with ⟨h0, _⟩ | ⟨a, len, cap, m, k, D, Pl, h0, _, hlc, hcm, hm, _, hel⟩
  · simp only [List.cons.injEq, and_true] at h0
    exact ⟨[], .inl ⟨h0, rfl⟩, by simp⟩
  · simp only [List.cons.injEq, and_true] at h0
    subst h0
    have hlm : len ≤ m := by rw [hm]; split <;> omega
    have each : ∀ i, i < len → ∃ p : Pn, okW p ∧ ∀ (c : Nat) u, (pnCells p)[c]? = some u → W.cell? (a.add (i * 6 + c)) = some u := by
      intro i hi
      obtain ⟨cs, h1, h2⟩ := hel i (by omega)
      rw [hk] at h1
      obtain ⟨_, hl, hc⟩ := World.cells?_some h1
      obtain ⟨p, rfl, z⟩ := pin_cells h2 hl
      refine ⟨p, z, fun c u hu => ?_⟩
      rw [← Go.Deep.add_add, hc c (by have := (List.getElem?_eq_some_iff.1 hu).1; omega)]
      exact hu
    obtain ⟨q, hq⟩ := Go.Deep.choose_lt each
    refine ⟨(List.range len).map q, .inr ⟨a, cap, by simp, by simp; omega, by unfold maxLen at hcm; exact hcm, fun i p hp c u hu => ?_⟩, fun p hp => ?_⟩
    · have hil : i < len := by have := (List.getElem?_eq_some_iff.1 hp).1; simpa using this
      rw [List.getElem?_map, List.getElem?_range hil] at hp
      simp only [Option.map_some, Option.some.injEq] at hp
      subst hp
      exact (hq i hil).2 c u hu
    · obtain ⟨i, hi, rfl⟩ := List.mem_map.1 hp
      exact (hq i (List.mem_range.1 hi)).1
end
end Go.Proofs.Ytoibanffaebllaa
