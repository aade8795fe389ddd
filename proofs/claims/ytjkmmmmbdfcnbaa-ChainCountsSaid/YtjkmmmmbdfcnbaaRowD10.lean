/-
  Layer 10: rows of dependencies of one's own: read, a dependency appended. Own work.
-/
import Derived.Test.YtjkmmmmbdfcnbaaClone10
namespace Go.Proofs.Ytjkmmmmbdfcnbaa
set_option linter.unusedVariables false
set_option linter.unusedSimpArgs false
open Go.RowKit

/-- dependencies with the values of their last cells -/
def rowD (ps : List (Dp × Value)) : List Value := ps.flatMap fun p => dpL p.1 p.2
theorem rowD_app (l m : List (Dp × Value)) : rowD (l ++ m) = rowD l ++ rowD m := by simp [rowD]
theorem rowD_len : ∀ l : List (Dp × Value), (rowD l).length = l.length * 8
  | [] => rfl
  | e :: l => by
    have := rowD_len l
    simp only [rowD, List.flatMap_cons, List.length_append, List.length_cons, dpL, List.length_nil] at this ⊢
    omega
theorem rowD_at : ∀ (l : List (Dp × Value)) (i c : Nat) (p : Dp × Value), l[i]? = some p → c < 8 → (rowD l)[i * 8 + c]? = (dpL p.1 p.2)[c]?
  | [], i, c, p, h, _ => by simp at h
  | q :: l, 0, c, p, h, hc => by
    simp only [List.getElem?_cons_zero, Option.some.injEq] at h
    subst h
    simp only [rowD, List.flatMap_cons]
    rw [List.getElem?_append_left (by simp [dpL]; omega)]
    simp
  | q :: l, i + 1, c, p, h, hc => by
    have := rowD_at l i c p (by simpa using h) hc
    simp only [rowD, List.flatMap_cons] at this ⊢
    rw [List.getElem?_append_right (by simp [dpL]; omega), ← this]
    congr 1
    simp [dpL]; omega
theorem pick_all : ∀ (l : List Dp) (R : Nat → Dp → Value → Prop), (∀ (i : Nat) d, l[i]? = some d → ∃ e, R i d e) → ∃ ps : List (Dp × Value), ps.map (·.1) = l ∧ ∀ (i : Nat) p, ps[i]? = some p → R i p.1 p.2
  | [], R, _ => ⟨[], rfl, fun i p h => by simp at h⟩
  | d :: l, R, h => by
    obtain ⟨e, he⟩ := h 0 d rfl
    obtain ⟨ps, h1, h2⟩ := pick_all l (fun i => R (i + 1)) (fun i x hx => h (i + 1) x (by simpa using hx))
    refine ⟨(d, e) :: ps, by rw [List.map_cons, h1], fun i p hp => ?_⟩
    match i with
    | 0 => simp at hp; subst hp; exact he
    | i + 1 => exact h2 i p (by simpa using hp)
theorem dp_cell {w : World} {a : Addr} {d : Dp} {ex : Value} (h : w.cell? a = some (.string d.g) ∧ w.cell? ⟨a.block, a.off + 1, none⟩ = some (.string d.a) ∧ w.cell? ⟨a.block, a.off + 2, none⟩ = some (.string d.v) ∧ w.cell? ⟨a.block, a.off + 3, none⟩ = some (.string d.t) ∧
    w.cell? ⟨a.block, a.off + 4, none⟩ = some (.string d.c) ∧ w.cell? ⟨a.block, a.off + 5, none⟩ = some (.int .i64 d.sc) ∧ w.cell? ⟨a.block, a.off + 6, none⟩ = some (.int .i64 d.op) ∧ w.cell? ⟨a.block, a.off + 7, none⟩ = some ex) :
    ∀ (c : Nat) u, (dpL d ex)[c]? = some u → w.cell? (a.add c) = some u := by
  obtain ⟨h0, h1, h2, h3, h4, h5, h6, h7⟩ := h
  have ha : ∀ c, 0 < c → a.add c = ⟨a.block, a.off + c, none⟩ := fun c hc => by
    unfold Addr.add
    rw [if_neg (by omega)]
  intro c u hu
  have hc : c < 8 := by have := (List.getElem?_eq_some_iff.1 hu).1; simpa [dpL] using this
  match c, hc with
  | 0, _ => simp only [dpL, List.getElem?_cons_zero, Option.some.injEq] at hu; subst hu; exact h0
  | 1, _ => simp [dpL] at hu; subst hu; rw [ha 1 (by omega)]; exact h1
  | 2, _ => simp [dpL] at hu; subst hu; rw [ha 2 (by omega)]; exact h2
  | 3, _ => simp [dpL] at hu; subst hu; rw [ha 3 (by omega)]; exact h3
  | 4, _ => simp [dpL] at hu; subst hu; rw [ha 4 (by omega)]; exact h4
  | 5, _ => simp [dpL] at hu; subst hu; rw [ha 5 (by omega)]; exact h5
  | 6, _ => simp [dpL] at hu; subst hu; rw [ha 6 (by omega)]; exact h6
  | 7, _ => simp [dpL] at hu; subst hu; rw [ha 7 (by omega)]; exact h7
theorem RdDs.raw {w : World} {v : Value} {l : List Dp} (h : RdDs w v l) : ∃ ps : List (Dp × Value), ps.map (·.1) = l ∧ Raw w 8 v l.length (rowD ps) ∧ ∀ p ∈ ps, RdXs w p.2 p.1.ex := by
  rcases h with ⟨h1, h2⟩ | ⟨a, cap, h1, h2, h3, h4⟩
  · subst h2
    exact ⟨[], rfl, ⟨rfl, .inl ⟨h1, rfl⟩⟩, fun p hp => by simp at hp⟩
  · obtain ⟨ps, hp1, hp2⟩ := pick_all l (fun i d e => (∀ (c : Nat) u, (dpL d e)[c]? = some u → w.cell? (a.add (i * 8 + c)) = some u) ∧ RdXs w e d.ex) (fun i d hd => by
      obtain ⟨ex, hc, hr⟩ := h4 i d hd
      exact ⟨ex, fun c u hu => by rw [← Go.Deep.add_add]; exact dp_cell hc c u hu, hr⟩)
    have hlen : ps.length = l.length := by rw [← hp1, List.length_map]
    refine ⟨ps, hp1, ⟨by rw [rowD_len, hlen], .inr ⟨a, cap, h1, h2, h3, fun j u hu => ?_⟩⟩, fun p hp => ?_⟩
    · have hj : j < l.length * 8 := by rw [← hlen, ← rowD_len]; exact (List.getElem?_eq_some_iff.1 hu).1
      obtain ⟨x, hx⟩ : ∃ x, ps[j / 8]? = some x := ⟨_, List.getElem?_eq_getElem (by omega)⟩
      have e : j = j / 8 * 8 + j % 8 := by omega
      have hq := (hp2 (j / 8) x hx).1 (j % 8) u (by rw [← rowD_at ps (j / 8) (j % 8) x hx (by omega), ← e]; exact hu)
      rw [← e] at hq
      exact hq
    · obtain ⟨i, hi⟩ := List.mem_iff_getElem?.1 hp
      exact (hp2 i p hi).2
theorem RdDs.of_own {w : World} {v : Value} {ps : List (Dp × Value)} {base e : Nat} (h : w.ownsRow base e 8 v ps.length (rowD ps)) (hx : ∀ p ∈ ps, RdXs w p.2 p.1.ex) : RdDs w v (ps.map (·.1)) := by
  have h0 := h
  obtain ⟨_, hc⟩ := h
  rcases hc with ⟨rfl, hn⟩ | ⟨g, cap, cur, rfl, _, hg, hn, hcm, _, _⟩
  · have : ps = [] := List.eq_nil_of_length_eq_zero hn
    subst this
    exact .inl ⟨rfl, rfl⟩
  · refine .inr ⟨⟨g, 0, none⟩, cap, by rw [List.length_map], by rw [List.length_map]; exact hn, by unfold maxLen at hcm; exact hcm, fun i d hd => ?_⟩
    rw [List.getElem?_map] at hd
    obtain ⟨p, hp, rfl⟩ := Option.map_eq_some_iff.1 hd
    have hq : ∀ (c : Nat) u, (dpL p.1 p.2)[c]? = some u → w.cell? ((⟨g, 0, none⟩ : Addr).add (i * 8 + c)) = some u := fun c u hu =>
      h0.cells (g := g) rfl _ _ ((rowD_at ps i c p hp (by have := (List.getElem?_eq_some_iff.1 hu).1; simpa [dpL] using this)).trans hu)
    have hs : ∀ (c : Nat) u, (dpL p.1 p.2)[c + 1]? = some u → w.cell? ⟨((⟨g, 0, none⟩ : Addr).add (i * 8)).block, ((⟨g, 0, none⟩ : Addr).add (i * 8)).off + (c + 1), none⟩ = some u := fun c u hu => by
      have h1 := hq (c + 1) u hu
      rw [← Go.Deep.add_add] at h1
      exact h1
    exact ⟨p.2, ⟨hq 0 _ rfl, hs 0 _ rfl, hs 1 _ rfl, hs 2 _ rfl, hs 3 _ rfl, hs 4 _ rfl, hs 5 _ rfl, hs 6 _ rfl⟩, hx p (List.mem_of_getElem? hp)⟩
/-- a dependency behind a row of one's own -/
theorem appD {ops : Array Oper} {rest : List Oper} {o : Oper} {a : Act} {Q : Exit → Act → World → Prop} {w0 : World} (d : Dp) (ea : Option Addr) (en ec : Nat) (hgd : o.guard = none) (s x : Operand)
    (ho : o.op = .call { callee := .builtin .append, args := #[s, x], argTypes := #[25, 25] }) (base n : Nat)
    (v : Value) (xs : List Value) (hs : a.eval s = v) (hown : w0.ownsRow base 34 8 v n xs) (hx : a.eval x = .slice (some ⟨w0.heap.size, 0, none⟩) 1 1)
    (h63 : n ≤ 100000) (hbase : base ≤ w0.heap.size)
    (h : ∀ v' w', w'.ownsRow base 34 8 v' (n + 1) (xs ++ dpL d (.slice ea en ec)) → w0.grownBy w' v.ownBlock → Below base w0 w' → wpList Try.prog ops Q rest (a.put o.dst v') w') :
    wpList Try.prog ops Q (o :: rest) a (w0.alloc (.cells #[.string d.g, .string d.a, .string d.v, .string d.t, .string d.c, .int .i64 d.sc, .int .i64 d.op, .slice ea en ec] 34)) := by
  obtain ⟨i, hi, hz, hsize, hby⟩ := info_parts dep_info
  have hlt : ∀ k, v.ownBlock = some k → base ≤ k := fun k hk => (hown.lt k hk).1
  refine wpList_append_own _ hgd s x _ ho base 34 i _ 8 120 Try.underlying25 hi hz hsize hby rfl (by omega) v n xs hs (hown.alloc _) ⟨w0.heap.size, 0, none⟩ 1 1 (dpL d (.slice ea en ec)) hx rfl ?_ ?_ (by simp only [maxLen]; omega) (by omega) (by simp; omega) ?_
  · intro j y hj
    rw [show (⟨w0.heap.size, 0, none⟩ : Addr).add j = ⟨w0.heap.size, j, none⟩ by unfold Addr.add; split <;> simp_all, World.cell?_alloc_at _ _ _ _ rfl]
    simpa [dpL] using hj
  · intro u hu
    simp only [dpL, List.mem_cons, List.not_mem_nil, or_false] at hu
    rcases hu with rfl | rfl | rfl | rfl | rfl | rfl | rfl | rfl <;> rfl
  · intro v' w' ho' hg _
    have hg0 : w0.grownBy w' v.ownBlock := ⟨hg.os, hg.tape, hg.output, Nat.le_trans (by simp) hg.size, fun k hk hne => (hg.block k (by simp; omega) hne).trans (Below.heap_alloc _ _ _ hk)⟩
    exact h v' w' ho' hg0 ((Below.refl _ _).grown hg0 hbase hlt)
end Go.Proofs.Ytjkmmmmbdfcnbaa
