/-
  Layer 24: what a parameter of type Lock is, with the bound that a row's reach lays on each text of it. Own work.
-/
import Derived.Test.YtoibanffaebllaaMem24
import Derived.SizedLaws
namespace Go.Proofs.Ytoibanffaebllaa
set_option linter.unusedVariables false
set_option linter.unusedSimpArgs false
open Go.ChangeShapes Go.WideShapes Go.ChangeAt Go.RowKit Go.Joins

/-- within the reach -/
def okR (s : ByteArray) : Prop := s.size ≤ 140737488355328
def okK (p : Pn) : Prop := okR p.g ∧ okR p.a ∧ okR p.t ∧ okR p.c ∧ okR p.v ∧ -9223372036854775808 ≤ p.sc ∧ p.sc ≤ 9223372036854775807
section
variable {H : Type} {enc : TypeId × Value → H} {W : World} {b0 base : Nat} {sp : Nat → Bool} {held : Bool} {v : Value} {d : DataW H} {p : List MemPlace}
def WB (t : TypeId) (d : DataW H) : Prop := ∀ n ∈ DataW.weights Try.prog t d, n ≤ reachBytes
theorem wb_all {e : TypeId} : ∀ {l : List (DataW H)} {d : DataW H}, d ∈ l → ∀ n ∈ DataW.weights Try.prog e d, n ∈ DataW.weightsAll Try.prog e l
  | d0 :: l, d, hd, n, hn => by
    simp only [DataW.weightsAll, List.mem_append]
    rcases List.mem_cons.1 hd with rfl | h
    · exact .inl hn
    · exact .inr (wb_all h n hn)
theorem wb2 {t : TypeId} {f0 f1 : Field} {d0 d1 : DataW H} (ht : Try.prog.underlying t = some (.struct #[f0, f1])) (h : WB t (.agg [d0, d1])) : WB f0.type d0 ∧ WB f1.type d1 :=
  ⟨fun n hn => h n (by simp [DataW.weights, ht, DataW.weightsEach, hn]), fun n hn => h n (by simp [DataW.weights, ht, DataW.weightsEach, hn])⟩
theorem wb3 {t : TypeId} {f0 f1 f2 : Field} {d0 d1 d2 : DataW H} (ht : Try.prog.underlying t = some (.struct #[f0, f1, f2])) (h : WB t (.agg [d0, d1, d2])) : WB f0.type d0 ∧ WB f1.type d1 ∧ WB f2.type d2 :=
  ⟨fun n hn => h n (by simp [DataW.weights, ht, DataW.weightsEach, hn]), fun n hn => h n (by simp [DataW.weights, ht, DataW.weightsEach, hn]), fun n hn => h n (by simp [DataW.weights, ht, DataW.weightsEach, hn])⟩
theorem wb4 {t : TypeId} {f0 f1 f2 f3 : Field} {d0 d1 d2 d3 : DataW H} (ht : Try.prog.underlying t = some (.struct #[f0, f1, f2, f3])) (h : WB t (.agg [d0, d1, d2, d3])) : WB f0.type d0 ∧ WB f1.type d1 ∧ WB f2.type d2 ∧ WB f3.type d3 :=
  ⟨fun n hn => h n (by simp [DataW.weights, ht, DataW.weightsEach, hn]), fun n hn => h n (by simp [DataW.weights, ht, DataW.weightsEach, hn]), fun n hn => h n (by simp [DataW.weights, ht, DataW.weightsEach, hn]), fun n hn => h n (by simp [DataW.weights, ht, DataW.weightsEach, hn])⟩
set_option maxRecDepth 100000 in
theorem two_parts {t : TypeId} {f0 f1 : Field} {fuel : Nat} {cs : List Value} {x : DataW H × List MemPlace} (ht : Try.prog.underlying t = some (.struct #[f0, f1])) (h : DataW.trod enc Try.prog W base sp held fuel t cs = some x) (hw : WB t x.1) :
    ∃ y0 y1 n, DataW.trod enc Try.prog W base sp held n f0.type ((cs.drop f0.offset).take (Try.prog.cellsOf f0.type)) = some y0 ∧ DataW.trod enc Try.prog W base sp held n f1.type ((cs.drop f1.offset).take (Try.prog.cellsOf f1.type)) = some y1 ∧ WB f0.type y0.1 ∧ WB f1.type y1.1 := by
  obtain ⟨xs, n, _, rfl, hl, hlen, hf⟩ := DataW.trod_struct ht h
  match xs, hlen with
  | [y0, y1], _ =>
    obtain ⟨w0, w1⟩ := wb2 ht (show WB t (.agg [y0.1, y1.1]) from hw)
    exact ⟨y0, y1, n, by simpa using hf 0 f0 rfl, by simpa using hf 1 f1 rfl, w0, w1⟩
set_option maxRecDepth 100000 in
theorem three_parts {t : TypeId} {f0 f1 f2 : Field} {fuel : Nat} {cs : List Value} {x : DataW H × List MemPlace} (ht : Try.prog.underlying t = some (.struct #[f0, f1, f2])) (h : DataW.trod enc Try.prog W base sp held fuel t cs = some x) (hw : WB t x.1) :
    ∃ y0 y1 y2 n, DataW.trod enc Try.prog W base sp held n f0.type ((cs.drop f0.offset).take (Try.prog.cellsOf f0.type)) = some y0 ∧ DataW.trod enc Try.prog W base sp held n f1.type ((cs.drop f1.offset).take (Try.prog.cellsOf f1.type)) = some y1 ∧
      DataW.trod enc Try.prog W base sp held n f2.type ((cs.drop f2.offset).take (Try.prog.cellsOf f2.type)) = some y2 ∧ WB f0.type y0.1 ∧ WB f1.type y1.1 ∧ WB f2.type y2.1 := by
  obtain ⟨xs, n, _, rfl, hl, hlen, hf⟩ := DataW.trod_struct ht h
  match xs, hlen with
  | [y0, y1, y2], _ =>
    obtain ⟨w0, w1, w2⟩ := wb3 ht (show WB t (.agg [y0.1, y1.1, y2.1]) from hw)
    exact ⟨y0, y1, y2, n, by simpa using hf 0 f0 rfl, by simpa using hf 1 f1 rfl, by simpa using hf 2 f2 rfl, w0, w1, w2⟩
set_option maxRecDepth 100000 in
theorem four_parts {t : TypeId} {f0 f1 f2 f3 : Field} {fuel : Nat} {cs : List Value} {x : DataW H × List MemPlace} (ht : Try.prog.underlying t = some (.struct #[f0, f1, f2, f3])) (h : DataW.trod enc Try.prog W base sp held fuel t cs = some x) (hw : WB t x.1) :
    ∃ y0 y1 y2 y3 n, DataW.trod enc Try.prog W base sp held n f0.type ((cs.drop f0.offset).take (Try.prog.cellsOf f0.type)) = some y0 ∧ DataW.trod enc Try.prog W base sp held n f1.type ((cs.drop f1.offset).take (Try.prog.cellsOf f1.type)) = some y1 ∧
      DataW.trod enc Try.prog W base sp held n f2.type ((cs.drop f2.offset).take (Try.prog.cellsOf f2.type)) = some y2 ∧ DataW.trod enc Try.prog W base sp held n f3.type ((cs.drop f3.offset).take (Try.prog.cellsOf f3.type)) = some y3 ∧ WB f0.type y0.1 ∧ WB f1.type y1.1 ∧ WB f2.type y2.1 ∧ WB f3.type y3.1 := by
  obtain ⟨xs, n, _, rfl, hl, hlen, hf⟩ := DataW.trod_struct ht h
  match xs, hlen with
  | [y0, y1, y2, y3], _ =>
    obtain ⟨w0, w1, w2, w3⟩ := wb4 ht (show WB t (.agg [y0.1, y1.1, y2.1, y3.1]) from hw)
    exact ⟨y0, y1, y2, y3, n, by simpa using hf 0 f0 rfl, by simpa using hf 1 f1 rfl, by simpa using hf 2 f2 rfl, by simpa using hf 3 f3 rfl, w0, w1, w2, w3⟩
theorem text_r {n : Nat} {c : Value} {y : DataW H × List MemPlace} (h : DataW.trod enc Try.prog W base sp held n 9 [c] = some y) (hw : WB 9 y.1) : ∃ s : ByteArray, c = .string s ∧ okR s := by
  obtain ⟨s, hc, rfl, hs⟩ := DataW.trod_string Try.underlying9 h
  simp only [List.cons.injEq, and_true] at hc
  have h1 := hw s.data.toList.length (by simp [DataW.weights])
  have h2 := reachBytes_lt
  refine ⟨s, hc, ?_⟩
  unfold okR
  have : s.data.toList.length = s.size := by simp
  omega
set_option maxRecDepth 100000 in
theorem key_r {n : Nat} {c0 c1 c2 c3 : Value} {y : DataW H × List MemPlace} (h : DataW.trod enc Try.prog W base sp held n 46 [c0, c1, c2, c3] = some y) (hw : WB 46 y.1) :
    ∃ g a t c : ByteArray, c0 = .string g ∧ c1 = .string a ∧ c2 = .string t ∧ c3 = .string c ∧ okR g ∧ okR a ∧ okR t ∧ okR c := by
  obtain ⟨y0, y1, y2, y3, n, h0, h1, h2, h3, w0, w1, w2, w3⟩ := four_parts Try.underlying46 h hw
  have hs : Try.prog.cellsOf 9 = 1 := by kernel_rfl
  simp only [hs, List.drop_zero, List.drop_succ_cons, List.take_succ_cons, List.take_zero] at h0 h1 h2 h3
  obtain ⟨g, rfl, z0⟩ := text_r h0 w0
  obtain ⟨a, rfl, z1⟩ := text_r h1 w1
  obtain ⟨t, rfl, z2⟩ := text_r h2 w2
  obtain ⟨c, rfl, z3⟩ := text_r h3 w3
  exact ⟨g, a, t, c, rfl, rfl, rfl, rfl, z0, z1, z2, z3⟩
set_option maxRecDepth 100000 in
theorem gav_r {n : Nat} {c0 c1 c2 : Value} {y : DataW H × List MemPlace} (h : DataW.trod enc Try.prog W base sp held n 23 [c0, c1, c2] = some y) (hw : WB 23 y.1) :
    ∃ g a v : ByteArray, c0 = .string g ∧ c1 = .string a ∧ c2 = .string v ∧ okR g ∧ okR a ∧ okR v := by
  obtain ⟨y0, y1, y2, n, h0, h1, h2, w0, w1, w2⟩ := three_parts Try.underlying23 h hw
  have hs : Try.prog.cellsOf 9 = 1 := by kernel_rfl
  simp only [hs, List.drop_zero, List.drop_succ_cons, List.take_succ_cons, List.take_zero] at h0 h1 h2
  obtain ⟨g, rfl, z0⟩ := text_r h0 w0
  obtain ⟨a, rfl, z1⟩ := text_r h1 w1
  obtain ⟨v, rfl, z2⟩ := text_r h2 w2
  exact ⟨g, a, v, rfl, rfl, rfl, z0, z1, z2⟩
theorem int_r {n : Nat} {c : Value} {y : DataW H × List MemPlace} (h : DataW.trod enc Try.prog W base sp held n 3 [c] = some y) : ∃ k : Int, c = .int .i64 k ∧ -9223372036854775808 ≤ k ∧ k ≤ 9223372036854775807 := by
  obtain ⟨k, hc, _, hk⟩ := DataW.trod_int Try.underlying3 h
  simp only [List.cons.injEq, and_true] at hc
  exact ⟨k, hc, (wf_i64 hk).1, (wf_i64 hk).2⟩
set_option maxRecDepth 100000 in
theorem pin_r {n : Nat} {cs : List Value} {y : DataW H × List MemPlace} (h : DataW.trod enc Try.prog W base sp held n 48 cs = some y) (hc : cs.length = 6) (hw : WB 48 y.1) :
    ∃ p : Pn, cs = pnCells p ∧ okK p := by
  obtain ⟨y0, y1, y2, n, h0, h1, h2, w0, w1, w2⟩ := three_parts Try.underlying48 h hw
  have hk : Try.prog.cellsOf 46 = 4 := by kernel_rfl
  have hs : Try.prog.cellsOf 9 = 1 := by kernel_rfl
  have hi : Try.prog.cellsOf 3 = 1 := by kernel_rfl
  match cs, hc with
  | [c0, c1, c2, c3, c4, c5], _ =>
    simp only [hk, hs, hi, List.drop_zero, List.drop_succ_cons, List.take_succ_cons, List.take_zero] at h0 h1 h2
    obtain ⟨g, a, t, c, rfl, rfl, rfl, rfl, z0, z1, z2, z3⟩ := key_r h0 w0
    obtain ⟨u, rfl, z4⟩ := text_r h1 w1
    obtain ⟨s, rfl, z5, z6⟩ := int_r h2
    exact ⟨⟨g, a, t, c, u, s⟩, rfl, z0, z1, z2, z3, z4, z5, z6⟩
set_option maxRecDepth 100000 in
theorem pins_r {v : Value} {n : Nat} {y : DataW H × List MemPlace} (h : DataW.trod enc Try.prog W base sp held n 24 [v] = some y) (hw : WB 24 y.1) :
    ∃ l : List Pn, RdN W v l ∧ (∀ p ∈ l, okK p) := by
  have hk : Try.prog.cellsOf 48 = 6 := by kernel_rfl
  rcases Go.Deep.open_slice Try.underlying24 h with ⟨h0, _⟩ | ⟨a, len, cap, m, k, D, Pl, h0, _, hlc, hcm, hm, rfl, hel⟩
  · simp only [List.cons.injEq, and_true] at h0
    exact ⟨[], .inl ⟨h0, rfl⟩, by simp⟩
  · simp only [List.cons.injEq, and_true] at h0
    subst h0
    have hlm : len ≤ m := by rw [hm]; split <;> omega
    have hwd : ∀ i, i < len → WB 48 (D i) := fun i hi n hn => hw n (by
      have hx : DataW.weights Try.prog 24 (.slice ((List.range len).map D) ((List.range (m - len)).map fun j => D (len + j))) = (((List.range len).map D).length + ((List.range (m - len)).map fun j => D (len + j)).length) * Try.prog.bytesOf 48 :: (DataW.weightsAll Try.prog 48 ((List.range len).map D) ++ DataW.weightsAll Try.prog 48 ((List.range (m - len)).map fun j => D (len + j))) := by
        simp only [DataW.weights, Try.underlying24]
      show n ∈ DataW.weights Try.prog 24 (.slice ((List.range len).map D) ((List.range (m - len)).map fun j => D (len + j)))
      rw [hx]
      exact List.mem_cons_of_mem _ (List.mem_append_left _ (wb_all (List.mem_map.2 ⟨i, List.mem_range.2 hi, rfl⟩) n hn)))
    have each : ∀ i, i < len → ∃ p : Pn, okK p ∧ ∀ (c : Nat) u, (pnCells p)[c]? = some u → W.cell? (a.add (i * 6 + c)) = some u := by
      intro i hi
      obtain ⟨cs, h1, h2⟩ := hel i (by omega)
      rw [hk] at h1
      obtain ⟨_, hl, hc⟩ := World.cells?_some h1
      obtain ⟨p, rfl, z⟩ := pin_r h2 hl (hwd i hi)
      refine ⟨p, z, fun c u hu => ?_⟩
      rw [← Go.Deep.add_add, hc c (by have := (List.getElem?_eq_some_iff.1 hu).1; omega)]
      exact hu
    obtain ⟨q, hq⟩ := Go.Deep.choose_lt each
    refine ⟨(List.range len).map q, .inr ⟨a, cap, by simp, by simp; omega, by unfold maxLen at hcm; exact hcm, fun i p hp c u hu => ?_⟩, fun p hp => ?_⟩
    · have hil : i < len := by have := (List.getElem?_eq_some_iff.1 hp).1; simpa using this
      rw [List.getElem?_map, List.getElem?_range hil] at hp
      simp only [Option.map_some, Option.some.injEq] at hp
      subst hp
      exact (hq i hil).2 c u hu
    · obtain ⟨i, hi, rfl⟩ := List.mem_map.1 hp
      exact (hq i (List.mem_range.1 hi)).1
set_option maxRecDepth 100000 in
theorem open_lock (hv : Value.okWide Try.prog W .any b0 26 v) (h : DataW.Trod enc Try.prog W base sp held 26 v d p) (hw : WB 26 d) :
    ∃ (g a u : ByteArray) (pv : Value) (l : List Pn), v = lockV g a u pv ∧ RdN W pv l ∧ okR g ∧ okR a ∧ okR u ∧ (∀ p ∈ l, okK p) := by
  obtain ⟨cs, rfl, hsz⟩ := okWide_struct Try.underlying26 hv
  obtain ⟨fuel, hf⟩ := h
  have hc : Try.prog.cellsOf 26 = 4 := by kernel_rfl
  have hk : Try.prog.cellsOf 23 = 3 := by kernel_rfl
  have hs : Try.prog.cellsOf 24 = 1 := by kernel_rfl
  rw [hc] at hsz
  obtain ⟨y0, y1, n, h0, h1, w0, w1⟩ := two_parts Try.underlying26 hf hw
  obtain ⟨l⟩ := cs
  match l, hsz with
  | [c0, c1, c2, c3], _ =>
    simp only [hk, hs, Value.cells, List.drop_zero, List.drop_succ_cons, List.take_succ_cons, List.take_zero] at h0 h1
    obtain ⟨g, a, u, rfl, rfl, rfl, z0, z1, z2⟩ := gav_r h0 w0
    obtain ⟨l, hr, hz⟩ := pins_r h1 w1
    exact ⟨g, a, u, c3, l, rfl, hr, z0, z1, z2, hz⟩
theorem wb_arg {ts : List TypeId} {ds : List (DataW H)} (h : (DataW.weightsEach Try.prog ts ds).all (· ≤ reachBytes) = true) {j : Nat} {t : TypeId} {d : DataW H} (ht : ts[j]? = some t) (hd : ds[j]? = some d) : WB t d := by
  intro n hn
  have := List.all_eq_true.1 h n (DataW.weights_mem_each ht hd n hn)
  simpa using this
end
end Go.Proofs.Ytoibanffaebllaa
