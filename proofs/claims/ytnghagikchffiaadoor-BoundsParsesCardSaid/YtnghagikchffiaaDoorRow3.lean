/-
  Layer 4: slices of parts: three cells an element. Own work.
-/
import Derived.Test.YtnghagikchffiaaDoorVerMath
namespace Go.Proofs.YtnghagikchffiaaDoor
set_option linter.unusedVariables false
set_option linter.unusedSimpArgs false
open Go.RowKit

/-- a part as a value, and its cells -/
def ptV (p : Pt) : Value := .agg #[.bool p.hy, .bool p.nu, .string (str p.tx)]
def ptCells (p : Pt) : List Value := [.bool p.hy, .bool p.nu, .string (str p.tx)]
def rowP (l : List Pt) : List Value := l.flatMap ptCells
theorem rowP_snoc (l : List Pt) (p : Pt) : rowP (l ++ [p]) = rowP l ++ [.bool p.hy, .bool p.nu, .string (str p.tx)] := by simp [rowP, ptCells]
theorem rowP_len : ∀ l : List Pt, (rowP l).length = l.length * 3
  | [] => rfl
  | p :: l => by
    have := rowP_len l
    simp only [rowP, List.flatMap_cons, List.length_append, List.length_cons, ptCells, List.length_nil] at this ⊢
    omega
theorem rowP_at : ∀ (l : List Pt) (i c : Nat) (p : Pt), l[i]? = some p → c < 3 → (rowP l)[i * 3 + c]? = (ptCells p)[c]?
  | [], i, c, p, h, _ => by simp at h
  | q :: l, 0, c, p, h, hc => by
    simp only [List.getElem?_cons_zero, Option.some.injEq] at h
    subst h
    simp only [rowP, List.flatMap_cons]
    rw [List.getElem?_append_left (by simp [ptCells]; omega)]
    simp
  | q :: l, i + 1, c, p, h, hc => by
    have := rowP_at l i c p (by simpa using h) hc
    simp only [rowP, List.flatMap_cons] at this ⊢
    rw [List.getElem?_append_right (by simp [ptCells]; omega), ← this]
    congr 1
    simp [ptCells]; omega

/-- the slice v reads in w as these parts -/
def RdP (w : World) (v : Value) (l : List Pt) : Prop :=
  ∃ a cap, v = .slice a l.length cap ∧ l.length ≤ cap ∧ cap ≤ 9223372036854775807 ∧
    ∀ i p, l[i]? = some p → ∃ b off, a = some ⟨b, off, none⟩ ∧ b < w.heap.size ∧ w.cell? ⟨b, off + i * 3, none⟩ = some (.bool p.hy) ∧ w.cell? ⟨b, off + i * 3 + 1, none⟩ = some (.bool p.nu) ∧ w.cell? ⟨b, off + i * 3 + 2, none⟩ = some (.string (str p.tx))
theorem RdP.below {w w' : World} {v : Value} {l : List Pt} {B : Nat} (h : RdP w v l) (hb : Below B w w') (hB : w.heap.size ≤ B) : RdP w' v l := by
  obtain ⟨a, cap, rfl, h1, h2, hc⟩ := h
  refine ⟨a, cap, rfl, h1, h2, fun i p hp => ?_⟩
  obtain ⟨b, off, rfl, hlt, c0, c1, c2⟩ := hc i p hp
  exact ⟨b, off, rfl, Nat.lt_of_lt_of_le hlt hb.size, (hb.cell (p := ⟨b, off + i * 3, none⟩) (Nat.lt_of_lt_of_le hlt hB)).trans c0, (hb.cell (p := ⟨b, off + i * 3 + 1, none⟩) (Nat.lt_of_lt_of_le hlt hB)).trans c1, (hb.cell (p := ⟨b, off + i * 3 + 2, none⟩) (Nat.lt_of_lt_of_le hlt hB)).trans c2⟩
theorem add_off (g i : Nat) : (⟨g, 0, none⟩ : Addr).add i = ⟨g, i, none⟩ := by unfold Addr.add; split <;> simp_all
theorem own_cells {w : World} {v : Value} {l : List Pt} {base e g cap n : Nat} (h : w.ownsRow base e 3 v n (rowP l)) (hv : v = .slice (some ⟨g, 0, none⟩) n cap) {i : Nat} {p : Pt} (hp : l[i]? = some p) :
    w.cell? ⟨g, i * 3, none⟩ = some (.bool p.hy) ∧ w.cell? ⟨g, i * 3 + 1, none⟩ = some (.bool p.nu) ∧ w.cell? ⟨g, i * 3 + 2, none⟩ = some (.string (str p.tx)) := by
  have hc := fun c hc u hu => h.cells (g := g) (by rw [hv]; rfl) (i * 3 + c) u ((rowP_at l i c p hp hc).trans hu)
  simp only [add_off] at hc
  exact ⟨hc 0 (by omega) _ rfl, hc 1 (by omega) _ rfl, hc 2 (by omega) _ rfl⟩
theorem RdP.of_own {w : World} {v : Value} {l : List Pt} {base e : Nat} (h : w.ownsRow base e 3 v l.length (rowP l)) : RdP w v l := by
  have h0 := h
  obtain ⟨_, hc⟩ := h
  rcases hc with ⟨rfl, hn⟩ | ⟨g, cap, cur, rfl, _, hg, hn, hcm, _, _⟩
  · refine ⟨none, 0, by rw [hn], by omega, by omega, fun j x hx => ?_⟩
    have : l = [] := List.eq_nil_of_length_eq_zero hn
    subst this; simp at hx
  · refine ⟨_, cap, rfl, hn, by unfold maxLen at hcm; exact hcm, fun i p hp => ?_⟩
    obtain ⟨c0, c1, c2⟩ := own_cells h0 rfl hp
    exact ⟨g, 0, rfl, (Array.getElem?_eq_some_iff.1 hg).1, by rw [Nat.zero_add]; exact c0, by rw [Nat.zero_add]; exact c1, by rw [Nat.zero_add]; exact c2⟩

/-- what `append(s, x)` of one element of three cells does -/
theorem app3 {P : Program} {ops : Array Oper} {rest : List Oper} {o : Oper} {a : Act} {Q : Exit → Act → World → Prop} {w0 : World} {u0 u1 u2 : Value} (hgd : o.guard = none) (s x : Operand) (t e : TypeId)
    (ho : o.op = .call { callee := .builtin .append, args := #[s, x], argTypes := #[t, t] }) (z : Value) (bytes base n : Nat)
    (ht : P.underlying t = some (.slice e)) (hinfo : (P.info? e).map (fun i => (i.zero, i.size, i.bytes)) = some (some z, 3, bytes)) (hzs : z.cells.size = 3)
    (v : Value) (xs : List Value) (hs : a.eval s = v) (hown : w0.ownsRow base e 3 v n xs) (hx : a.eval x = .slice (some ⟨w0.heap.size, 0, none⟩) 1 1) (h0 : u0.oneCell' = true) (h1 : u1.oneCell' = true) (h2 : u2.oneCell' = true)
    (h63 : n + 1 ≤ 281474976710656) (hbytes : (n + 1) * bytes ≤ 140737488355328) (hbase : base ≤ w0.heap.size)
    (h : ∀ v' w', w'.ownsRow base e 3 v' (n + 1) (xs ++ [u0, u1, u2]) → w0.grownBy w' v.ownBlock → Below base w0 w' → wpList P ops Q rest (a.put o.dst v') w') :
    wpList P ops Q (o :: rest) a (w0.alloc (.cells #[u0, u1, u2] e)) := by
  obtain ⟨i, hi, hz, hsize, hby⟩ := info_parts hinfo
  have hlt : ∀ k, v.ownBlock = some k → base ≤ k := fun k hk => (hown.lt k hk).1
  refine wpList_append_own _ hgd s x t ho base e i z 3 bytes ht hi hz hsize hby hzs (by omega) v n xs hs (hown.alloc _) ⟨w0.heap.size, 0, none⟩ 1 1 [u0, u1, u2] hx rfl ?_ (by simp [h0, h1, h2]) (by simp only [maxLen]; omega) hbytes (by simp; omega) ?_
  · intro j y hj
    rw [add_off]
    match j with
    | 0 =>
      simp only [List.getElem?_cons_zero, Option.some.injEq] at hj
      subst hj
      rw [World.cell?_alloc_at _ _ _ _ rfl]; rfl
    | 1 =>
      simp only [List.getElem?_cons_succ, List.getElem?_cons_zero, Option.some.injEq] at hj
      subst hj
      rw [World.cell?_alloc_at _ _ _ _ rfl]; rfl
    | 2 =>
      simp only [List.getElem?_cons_succ, List.getElem?_cons_zero, Option.some.injEq] at hj
      subst hj
      rw [World.cell?_alloc_at _ _ _ _ rfl]; rfl
    | j + 3 => simp at hj
  · intro v' w' ho' hg _
    have hg0 : w0.grownBy w' v.ownBlock := ⟨hg.os, hg.tape, hg.output, Nat.le_trans (by simp) hg.size, fun k hk hne => (hg.block k (by simp; omega) hne).trans (Below.heap_alloc _ _ _ hk)⟩
    exact h v' w' ho' hg0 ((Below.refl _ _).grown hg0 hbase hlt)
theorem own_tag {w : World} {base e n s : Nat} {v : Value} {xs : List Value} (h : w.ownsRow base e s v n xs) : ∀ k, v.ownBlock = some k → ∃ c fz, w.heap[k]? = some (.cells c e fz) := by
  intro k hk
  rcases h.2 with ⟨rfl, _⟩ | ⟨g, cap, cur, rfl, _, hg, _⟩
  · simp [Value.ownBlock] at hk
  · have : g = k := by simpa [Value.ownBlock] using hk
    subst this
    exact ⟨_, _, hg⟩
end Go.Proofs.YtnghagikchffiaaDoor
