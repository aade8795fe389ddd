/-
  Layer 10: rows of properties of one's own: read, a property appended, one's value put. Own work.
-/
import Derived.Test.YthfholnnkdoagaaRaw10
namespace Go.Proofs.Ythfholnnkdoagaa
set_option linter.unusedVariables false
set_option linter.unusedSimpArgs false
open Go.RowKit

def prL (p : Pr) : List Value := [.string p.n, .string p.v]
def rowPr (l : List Pr) : List Value := l.flatMap prL
theorem rowPr_app (l m : List Pr) : rowPr (l ++ m) = rowPr l ++ rowPr m := by simp [rowPr]
theorem rowPr_len : ∀ l : List Pr, (rowPr l).length = l.length * 2
  | [] => rfl
  | e :: l => by
    have := rowPr_len l
    simp only [rowPr, List.flatMap_cons, List.length_append, List.length_cons, prL, List.length_nil] at this ⊢
    omega
theorem rowPr_at : ∀ (l : List Pr) (i c : Nat) (p : Pr), l[i]? = some p → c < 2 → (rowPr l)[i * 2 + c]? = (prL p)[c]?
  | [], i, c, p, h, _ => by simp at h
  | q :: l, 0, c, p, h, hc => by
    simp only [List.getElem?_cons_zero, Option.some.injEq] at h
    subst h
    simp only [rowPr, List.flatMap_cons]
    rw [List.getElem?_append_left (by simp [prL]; omega)]
    simp
  | q :: l, i + 1, c, p, h, hc => by
    have := rowPr_at l i c p (by simpa using h) hc
    simp only [rowPr, List.flatMap_cons] at this ⊢
    rw [List.getElem?_append_right (by simp [prL]; omega), ← this]
    congr 1
    simp [prL]; omega
theorem rowPr_set : ∀ (l : List Pr) (i : Nat) (p : Pr) (v : ByteArray), l[i]? = some p → rowPr (l.set i ⟨p.n, v⟩) = (rowPr l).set (i * 2 + 1) (.string v)
  | [], i, p, v, h => by simp at h
  | q :: l, 0, p, v, h => by
    simp only [List.getElem?_cons_zero, Option.some.injEq] at h
    subst h
    simp [rowPr, prL]
  | q :: l, i + 1, p, v, h => by
    have := rowPr_set l i p v (by simpa using h)
    simp only [rowPr, List.set_cons_succ, List.flatMap_cons] at this ⊢
    rw [this, List.set_append_right _ _ (by simp [prL]; omega)]
    congr 2
    simp [prL]; omega
theorem RdPs.raw {w : World} {v : Value} {l : List Pr} (h : RdPs w v l) : Raw w 2 v l.length (rowPr l) := by
  refine ⟨rowPr_len l, ?_⟩
  rcases h with ⟨h1, h2⟩ | ⟨a, cap, h1, h2, h3, h4⟩
  · exact .inl ⟨h1, by rw [h2]; rfl⟩
  · refine .inr ⟨a, cap, h1, h2, h3, fun j u hu => ?_⟩
    have hj : j < l.length * 2 := by rw [← rowPr_len]; exact (List.getElem?_eq_some_iff.1 hu).1
    obtain ⟨x, hx⟩ : ∃ x, l[j / 2]? = some x := ⟨_, List.getElem?_eq_getElem (by omega)⟩
    have hp := h4 (j / 2) x hx
    rcases Nat.mod_two_eq_zero_or_one j with hm | hm
    · have e : j = j / 2 * 2 + 0 := by omega
      rw [e, rowPr_at l _ 0 x hx (by omega)] at hu
      simp only [prL, List.getElem?_cons_zero, Option.some.injEq] at hu
      subst hu
      rw [show j = j / 2 * 2 by omega]; exact hp.1
    · have e : j = j / 2 * 2 + 1 := by omega
      rw [e, rowPr_at l _ 1 x hx (by omega)] at hu
      simp only [prL, List.getElem?_cons_succ, List.getElem?_cons_zero, Option.some.injEq] at hu
      subst hu
      rw [e, ← Go.Deep.add_add]
      exact hp.2
theorem RdPs.of_own {w : World} {v : Value} {l : List Pr} {base e : Nat} (h : w.ownsRow base e 2 v l.length (rowPr l)) : RdPs w v l := by
  have h0 := h
  obtain ⟨_, hc⟩ := h
  rcases hc with ⟨rfl, hn⟩ | ⟨g, cap, cur, rfl, _, hg, hn, hcm, _, _⟩
  · exact .inl ⟨rfl, List.eq_nil_of_length_eq_zero hn⟩
  · refine .inr ⟨⟨g, 0, none⟩, cap, rfl, hn, by unfold maxLen at hcm; exact hcm, fun i x hx => ⟨?_, ?_⟩⟩
    · have h1 := h0.cells (g := g) rfl _ _ ((rowPr_at l i 0 x hx (by omega)).trans rfl)
      exact h1
    · have h1 := h0.cells (g := g) rfl _ _ ((rowPr_at l i 1 x hx (by omega)).trans rfl)
      rw [← Go.Deep.add_add] at h1
      exact h1
theorem prop_info : (Try.prog.info? 33).map (fun i => (i.zero, i.size, i.bytes)) = some (some (.agg #[.string .empty, .string .empty]), 2, 32) := by kernel_rfl
/-- a property behind a row of one's own -/
theorem appP {ops : Array Oper} {rest : List Oper} {o : Oper} {a : Act} {Q : Exit → Act → World → Prop} {w0 : World} (p : Pr) (hgd : o.guard = none) (s x : Operand)
    (ho : o.op = .call { callee := .builtin .append, args := #[s, x], argTypes := #[27, 27] }) (base n : Nat)
    (v : Value) (xs : List Value) (hs : a.eval s = v) (hown : w0.ownsRow base 33 2 v n xs) (hx : a.eval x = .slice (some ⟨w0.heap.size, 0, none⟩) 1 1)
    (h63 : n ≤ 100000) (hbase : base ≤ w0.heap.size)
    (h : ∀ v' w', w'.ownsRow base 33 2 v' (n + 1) (xs ++ prL p) → w0.grownBy w' v.ownBlock → Below base w0 w' → wpList Try.prog ops Q rest (a.put o.dst v') w') :
    wpList Try.prog ops Q (o :: rest) a (w0.alloc (.cells #[.string p.n, .string p.v] 33)) := by
  obtain ⟨i, hi, hz, hsize, hby⟩ := info_parts prop_info
  have hlt : ∀ k, v.ownBlock = some k → base ≤ k := fun k hk => (hown.lt k hk).1
  refine wpList_append_own _ hgd s x _ ho base 33 i _ 2 32 Try.underlying27 hi hz hsize hby rfl (by omega) v n xs hs (hown.alloc _) ⟨w0.heap.size, 0, none⟩ 1 1 (prL p) hx rfl ?_ ?_ (by simp only [maxLen]; omega) (by omega) (by simp; omega) ?_
  · intro j y hj
    rw [show (⟨w0.heap.size, 0, none⟩ : Addr).add j = ⟨w0.heap.size, j, none⟩ by unfold Addr.add; split <;> simp_all, World.cell?_alloc_at _ _ _ _ rfl]
    simpa [prL] using hj
  · intro u hu
    simp only [prL, List.mem_cons, List.not_mem_nil, or_false] at hu
    rcases hu with rfl | rfl <;> rfl
  · intro v' w' ho' hg _
    have hg0 : w0.grownBy w' v.ownBlock := ⟨hg.os, hg.tape, hg.output, Nat.le_trans (by simp) hg.size, fun k hk hne => (hg.block k (by simp; omega) hne).trans (Below.heap_alloc _ _ _ hk)⟩
    exact h v' w' ho' hg0 ((Below.refl _ _).grown hg0 hbase hlt)
/-- one cell of a row of one's own is put anew -/
theorem own_put {w : World} {base e size n g cap j : Nat} {xs : List Value} {u : Value} (h : w.ownsRow base e size (.slice (some ⟨g, 0, none⟩) n cap) n xs) (hj : j < n * size) :
    (w.setCell ⟨g, j, none⟩ u).ownsRow base e size (.slice (some ⟨g, 0, none⟩) n cap) n (xs.set j u) := by
  obtain ⟨h0, h1 | ⟨g', cap', cur, h1, h2, h3, h4, h5, h6, h7⟩⟩ := h
  · cases h1.1
  · cases h1
    refine ⟨by rw [List.length_set]; exact h0, .inr ⟨g, cap, cur.setIfInBounds j u, rfl, h2, heap_setCell_same w g j _ _ u h3, h4, h5, by simpa using h6, ?_⟩⟩
    rw [Array.toList_setIfInBounds, List.take_set, h7]
end Go.Proofs.Ythfholnnkdoagaa
