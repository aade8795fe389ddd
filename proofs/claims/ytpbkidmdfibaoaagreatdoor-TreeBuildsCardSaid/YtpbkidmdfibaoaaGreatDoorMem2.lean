/-
  Layer 2: attributes and tokens in memory. Own work.
-/
import Derived.Test.YtpbkidmdfibaoaaGreatDoorRd2e
import Derived.Laws.OwnMore
import Derived.OwnWalk
import Derived.Deep.Slices
import Derived.Deep.WholeRow
namespace Go.Proofs.YtpbkidmdfibaoaaGreatDoor
set_option linter.unusedVariables false
set_option linter.unusedSimpArgs false
open Go.RowKit

/-- the slice v's elements, of sz cells each, are R of these -/
def RdSl {α : Type} (sz : Nat) (R : Addr → α → Prop) (v : Value) (l : List α) : Prop :=
  (v = .slice none 0 0 ∧ l = []) ∨ ∃ a cap, v = .slice (some a) l.length cap ∧ l.length ≤ cap ∧ cap ≤ 9223372036854775807 ∧ ∀ (i : Nat) x, l[i]? = some x → R (a.add (i * sz)) x
section
variable {α : Type} {sz : Nat} {R R' : Addr → α → Prop} {v : Value} {l : List α} {a : Option Addr} {n c i : Nat} {x : α}
theorem RdSl.mono (h : RdSl sz R v l) (hR : ∀ a x, R a x → R' a x) : RdSl sz R' v l := by
  rcases h with h | ⟨a, cap, h1, h2, h3, h5⟩
  · exact .inl h
  · exact .inr ⟨a, cap, h1, h2, h3, fun i x hx => hR _ _ (h5 i x hx)⟩
theorem RdSl.shape (h : RdSl sz R v l) : ∃ a c, v = .slice a l.length c := by
  rcases h with ⟨rfl, rfl⟩ | ⟨a, cap, rfl, _⟩
  · exact ⟨none, 0, rfl⟩
  · exact ⟨some a, cap, rfl⟩
theorem RdSl.len (h : RdSl sz R v l) : l.length ≤ 9223372036854775807 := by
  rcases h with ⟨_, rfl⟩ | ⟨a, cap, _, h1, h2, _⟩
  · simp
  · omega
theorem RdSl.elem (h : RdSl sz R (.slice a n c) l) (hx : l[i]? = some x) : ∃ b, a = some b ∧ R (b.add (i * sz)) x := by
  rcases h with ⟨_, rfl⟩ | ⟨b, cap, h, _, _, h5⟩
  · simp at hx
  · cases h; exact ⟨b, rfl, h5 i x hx⟩
end
/-- an attribute: its name, its value -/
abbrev At2 : Type := List UInt8 × List UInt8
def AtAt (w : World) (a : Addr) (p : At2) : Prop := w.cell? a = some (.string (str p.1)) ∧ w.cell? ⟨a.block, a.off + 1, none⟩ = some (.string (str p.2))
theorem AtAt.below {w w' : World} {a : Addr} {p : At2} {B : Nat} (h : AtAt w a p) (hb : Below B w w') (hB : w.heap.size ≤ B) : AtAt w' a p := by
  have hc : ∀ {A : Addr} {x : Value}, w.cell? A = some x → w'.cell? A = some x := fun hx => (hb.cell (Nat.lt_of_lt_of_le (World.block_lt_of_cell? w _ hx) hB)).trans hx
  exact ⟨hc h.1, hc h.2⟩
def RdAs (w : World) (v : Value) (l : List At2) : Prop := RdSl 2 (AtAt w) v l
theorem RdAs.below {w w' : World} {v : Value} {l : List At2} {B : Nat} (h : RdAs w v l) (hb : Below B w w') (hB : w.heap.size ≤ B) : RdAs w' v l := RdSl.mono h fun _ _ h => h.below hb hB
/-- a token in memory: its place, too -/
structure Tm where
  k : Int
  n : List UInt8
  ats : List At2
  t : List UInt8
  po : Int
  pl : Int
  pc : Int
def Tk.mem (l : List UInt8) (x : Tk) : Tm := ⟨x.k, x.n, x.ats, x.t, (x.o : Int), lineS (l.take x.o), colS (l.take x.o)⟩
/-- the values of a token's cells -/
def tmL (x : Tm) (va : Value) : List Value := [.int .i64 x.k, .string (str x.n), va, .string (str x.t), .int .i64 x.po, .int .i64 x.pl, .int .i64 x.pc]
def TmAt (w : World) (a : Addr) (x : Tm) : Prop :=
  ∃ va, (w.cell? a = some (.int .i64 x.k) ∧ w.cell? ⟨a.block, a.off + 1, none⟩ = some (.string (str x.n)) ∧ w.cell? ⟨a.block, a.off + 2, none⟩ = some va ∧ w.cell? ⟨a.block, a.off + 3, none⟩ = some (.string (str x.t)) ∧
    w.cell? ⟨a.block, a.off + 4, none⟩ = some (.int .i64 x.po) ∧ w.cell? ⟨a.block, a.off + 5, none⟩ = some (.int .i64 x.pl) ∧ w.cell? ⟨a.block, a.off + 6, none⟩ = some (.int .i64 x.pc)) ∧ RdAs w va x.ats
theorem TmAt.below {w w' : World} {a : Addr} {x : Tm} {B : Nat} (h : TmAt w a x) (hb : Below B w w') (hB : w.heap.size ≤ B) : TmAt w' a x := by
  obtain ⟨va, ⟨h0, h1, h2, h3, h4, h5, h6⟩, hr⟩ := h
  have hc : ∀ {A : Addr} {x : Value}, w.cell? A = some x → w'.cell? A = some x := fun hx => (hb.cell (Nat.lt_of_lt_of_le (World.block_lt_of_cell? w _ hx) hB)).trans hx
  exact ⟨va, ⟨hc h0, hc h1, hc h2, hc h3, hc h4, hc h5, hc h6⟩, hr.below hb hB⟩
def RdTs (w : World) (v : Value) (l : List Tm) : Prop := RdSl 7 (TmAt w) v l
theorem RdTs.below {w w' : World} {v : Value} {l : List Tm} {B : Nat} (h : RdTs w v l) (hb : Below B w w') (hB : w.heap.size ≤ B) : RdTs w' v l := RdSl.mono h fun _ _ h => h.below hb hB
/-! rows of one's own -/
def atL (p : At2) : List Value := [.string (str p.1), .string (str p.2)]
def rowAs (l : List At2) : List Value := l.flatMap atL
theorem rowAs_snoc (l : List At2) (p : At2) : rowAs (l ++ [p]) = rowAs l ++ atL p := by simp [rowAs]
theorem rowAs_len : ∀ l : List At2, (rowAs l).length = l.length * 2
  | [] => rfl
  | e :: l => by
    have := rowAs_len l
    simp only [rowAs, List.flatMap_cons, List.length_append, List.length_cons, atL, List.length_nil] at this ⊢
    omega
theorem rowAs_at : ∀ (l : List At2) (i c : Nat) (p : At2), l[i]? = some p → c < 2 → (rowAs l)[i * 2 + c]? = (atL p)[c]?
  | [], i, c, p, h, _ => by simp at h
  | q :: l, 0, c, p, h, hc => by
    simp only [List.getElem?_cons_zero, Option.some.injEq] at h
    subst h
    simp only [rowAs, List.flatMap_cons]
    rw [List.getElem?_append_left (by simp [atL]; omega)]
    simp
  | q :: l, i + 1, c, p, h, hc => by
    have := rowAs_at l i c p (by simpa using h) hc
    simp only [rowAs, List.flatMap_cons] at this ⊢
    rw [List.getElem?_append_right (by simp [atL]; omega), ← this]
    congr 1
    simp [atL]; omega
theorem RdAs.of_own {w : World} {v : Value} {l : List At2} {base e : Nat} (h : w.ownsRow base e 2 v l.length (rowAs l)) : RdAs w v l := by
  have h0 := h
  obtain ⟨_, hc⟩ := h
  rcases hc with ⟨rfl, hn⟩ | ⟨g, cap, cur, rfl, _, hg, hn, hcm, _, _⟩
  · exact .inl ⟨rfl, List.eq_nil_of_length_eq_zero hn⟩
  · refine .inr ⟨⟨g, 0, none⟩, cap, rfl, hn, by unfold maxLen at hcm; exact hcm, fun i x hx => ⟨?_, ?_⟩⟩
    · have h1 := h0.cells (g := g) rfl _ _ ((rowAs_at l i 0 x hx (by omega)).trans rfl)
      exact h1
    · have h1 := h0.cells (g := g) rfl _ _ ((rowAs_at l i 1 x hx (by omega)).trans rfl)
      rw [← Go.Deep.add_add] at h1
      exact h1
/-- tokens with the values of their attributes -/
def rowTs (l : List (Tm × Value)) : List Value := l.flatMap fun p => tmL p.1 p.2
theorem rowTs_snoc (l : List (Tm × Value)) (p : Tm × Value) : rowTs (l ++ [p]) = rowTs l ++ tmL p.1 p.2 := by simp [rowTs]
theorem rowTs_at : ∀ (l : List (Tm × Value)) (i c : Nat) (p : Tm × Value), l[i]? = some p → c < 7 → (rowTs l)[i * 7 + c]? = (tmL p.1 p.2)[c]?
  | [], i, c, p, h, _ => by simp at h
  | q :: l, 0, c, p, h, hc => by
    simp only [List.getElem?_cons_zero, Option.some.injEq] at h
    subst h
    simp only [rowTs, List.flatMap_cons]
    rw [List.getElem?_append_left (by simp [tmL]; omega)]
    simp
  | q :: l, i + 1, c, p, h, hc => by
    have := rowTs_at l i c p (by simpa using h) hc
    simp only [rowTs, List.flatMap_cons] at this ⊢
    rw [List.getElem?_append_right (by simp [tmL]; omega), ← this]
    congr 1
    simp [tmL]; omega
theorem RdTs.of_own {w : World} {v : Value} {l : List (Tm × Value)} {base e : Nat} (h : w.ownsRow base e 7 v l.length (rowTs l)) (hr : ∀ p ∈ l, RdAs w p.2 p.1.ats) : RdTs w v (l.map (·.1)) := by
  have h0 := h
  obtain ⟨_, hc⟩ := h
  rcases hc with ⟨rfl, hn⟩ | ⟨g, cap, cur, rfl, _, hg, hn, hcm, _, _⟩
  · exact .inl ⟨rfl, by rw [List.eq_nil_of_length_eq_zero hn]; rfl⟩
  · refine .inr ⟨⟨g, 0, none⟩, cap, by rw [List.length_map], by rw [List.length_map]; exact hn, by unfold maxLen at hcm; exact hcm, fun i x hx => ?_⟩
    rw [List.getElem?_map] at hx
    obtain ⟨q, hq, rfl⟩ : ∃ q, l[i]? = some q ∧ q.1 = x := by
      cases hc : l[i]? with
      | none => rw [hc] at hx; simp at hx
      | some q => rw [hc] at hx; simp at hx; exact ⟨q, rfl, hx⟩
    have one : ∀ c u, (tmL q.1 q.2)[c]? = some u → w.cell? (((⟨g, 0, none⟩ : Addr).add (i * 7)).add c) = some u := fun c u hu => by
      have hc7 : c < 7 := by have := (List.getElem?_eq_some_iff.1 hu).1; simpa [tmL] using this
      have h1 := h0.cells (g := g) rfl _ _ ((rowTs_at l i c q hq hc7).trans hu)
      rw [← Go.Deep.add_add] at h1
      exact h1
    refine ⟨q.2, ⟨?_, one 1 _ rfl, one 2 _ rfl, one 3 _ rfl, one 4 _ rfl, one 5 _ rfl, one 6 _ rfl⟩, hr q (List.mem_of_getElem? hq)⟩
    have h1 := h0.cells (g := g) rfl _ _ ((rowTs_at l i 0 q hq (by omega)).trans rfl)
    exact h1
theorem attr_info : (Tryz.prog.info? 68).map (fun i => (i.zero, i.size, i.bytes)) = some (some (.agg #[.string .empty, .string .empty]), 2, 32) := by kernel_rfl
theorem token_info : (Tryz.prog.info? 51).map (fun i => (i.zero, i.size, i.bytes)) = some (some (.agg #[.int .i64 0, .string .empty, .slice none 0 0, .string .empty, .int .i64 0, .int .i64 0, .int .i64 0]), 7, 88) := by kernel_rfl
theorem strEq {a b : List UInt8} : (str a).toList = (str b).toList ↔ a = b := by
  constructor
  · intro h
    rw [ByteArray.toList_eq, ByteArray.toList_eq, toList_str, toList_str] at h
    exact h
  · rintro rfl; rfl
end Go.Proofs.YtpbkidmdfibaoaaGreatDoor
