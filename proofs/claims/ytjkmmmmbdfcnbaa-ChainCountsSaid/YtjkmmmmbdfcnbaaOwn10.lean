/-
  Layer 10: rows of one's own (or as they came) that stay while variables are stored into. Own work.
-/
import Derived.Test.YtjkmmmmbdfcnbaaRowD10
namespace Go.Proofs.Ytjkmmmmbdfcnbaa
set_option linter.unusedVariables false
set_option linter.unusedSimpArgs false
open Go.RowKit

section
variable {w w' : World} {B B' e size n O R j : Nat} {v u : Value} {xs : List Value} {cs : Array Value}
theorem own_mono10 (h : w.ownsRow B e size v n xs) (hB : B' ≤ B) : w.ownsRow B' e size v n xs := by
  obtain ⟨h0, h1 | ⟨g, cap, cur, h2, h3, h4⟩⟩ := h
  · exact ⟨h0, .inl h1⟩
  · exact ⟨h0, .inr ⟨g, cap, cur, h2, Nat.le_trans hB h3, h4⟩⟩
theorem own_below10 (h : w.ownsRow B e size v n xs) (hb : Below w.heap.size w w') : w'.ownsRow B e size v n xs :=
  h.kept (⟨hb.os, hb.tape, hb.output, hb.size, fun k hk _ => hb.block k hk⟩ : w.grownBy w' none) (by cases hv : v.ownBlock <;> simp)
theorem own_ne10 (h : w.ownsRow B e size v n xs) (hO : O < B) : v.ownBlock = none ∨ v.ownBlock ≠ some O := by
  cases hv : v.ownBlock with
  | none => exact .inl rfl
  | some b =>
    have := (h.lt b hv).1
    exact .inr (by simp; omega)
theorem own_set10 (h : w.ownsRow B e size v n xs) (hO : O < B) : (w.setCell ⟨O, j, none⟩ u).ownsRow B e size v n xs :=
  h.kept (⟨rfl, rfl, rfl, by simp, fun k _ hk => heap_setCell_other w ⟨O, j, none⟩ k u (fun e => hk (by simp [e]))⟩ : w.grownBy (w.setCell ⟨O, j, none⟩ u) (some O)) (own_ne10 h hO)
theorem own_row10 (h : w.ownsRow B e size v n xs) (hO : O < B) : (w.setRow O cs).ownsRow B e size v n xs :=
  h.kept (⟨rfl, rfl, rfl, by simp, fun k _ hk => setRow_other w O k cs (fun e => hk (by simp [e]))⟩ : w.grownBy (w.setRow O cs) (some O)) (own_ne10 h hO)
end
/-- properties as they lay in w, or in a row of one's own -/
def PsK (w : World) (B : Nat) (wr : World) (v : Value) (l : List Pr) : Prop := RdPs w v l ∨ wr.ownsRow B 36 2 v l.length (rowPr l)
/-- dependencies in a row of one's own, their exclusions as they lay in w -/
def DsK (w : World) (B : Nat) (wr : World) (v : Value) (l : List Dp) : Prop := ∃ qs : List (Dp × Value), qs.map (·.1) = l ∧ wr.ownsRow B 34 8 v qs.length (rowD qs) ∧ ∀ p ∈ qs, RdXs w p.2 p.1.ex
section
variable {w wr w' : World} {B B' O j : Nat} {v u : Value} {l : List Pr} {m : List Dp} {cs : Array Value}
theorem PsK.rd (h : PsK w B wr v l) (hb : Below w.heap.size w wr) : RdPs wr v l := by
  rcases h with h | h
  · exact h.below hb (Nat.le_refl _)
  · exact RdPs.of_own h
theorem PsK.below (h : PsK w B wr v l) (hb : Below wr.heap.size wr w') : PsK w B w' v l := h.imp id fun h => own_below10 h hb
theorem PsK.put (h : PsK w B wr v l) (hO : O < B) : PsK w B (wr.setCell ⟨O, j, none⟩ u) v l := h.imp id fun h => own_set10 h hO
theorem PsK.row (h : PsK w B wr v l) (hO : O < B) : PsK w B (wr.setRow O cs) v l := h.imp id fun h => own_row10 h hO
theorem PsK.shape (h : PsK w B wr v l) : ∃ a c, v = .slice a l.length c := by
  rcases h with h | h
  · exact RdSl.shape h
  · exact RdSl.shape (RdPs.of_own h)
theorem DsK.rd (h : DsK w B wr v m) (hb : Below w.heap.size w wr) : RdDs wr v m := by
  obtain ⟨qs, rfl, h1, h2⟩ := h
  exact RdDs.of_own h1 fun p hp => (h2 p hp).below hb (Nat.le_refl _)
theorem DsK.below (h : DsK w B wr v m) (hb : Below wr.heap.size wr w') : DsK w B w' v m := by
  obtain ⟨qs, h0, h1, h2⟩ := h
  exact ⟨qs, h0, own_below10 h1 hb, h2⟩
theorem DsK.put (h : DsK w B wr v m) (hO : O < B) : DsK w B (wr.setCell ⟨O, j, none⟩ u) v m := by
  obtain ⟨qs, h0, h1, h2⟩ := h
  exact ⟨qs, h0, own_set10 h1 hO, h2⟩
theorem DsK.row (h : DsK w B wr v m) (hO : O < B) : DsK w B (wr.setRow O cs) v m := by
  obtain ⟨qs, h0, h1, h2⟩ := h
  exact ⟨qs, h0, own_row10 h1 hO, h2⟩
theorem DsK.mono (h : DsK w B wr v m) (hB : B' ≤ B) : DsK w B' wr v m := by
  obtain ⟨qs, h0, h1, h2⟩ := h
  exact ⟨qs, h0, own_mono10 h1 hB, h2⟩
theorem DsK.shape (h : DsK w B wr v m) : ∃ a c, v = .slice a m.length c := by
  obtain ⟨qs, rfl, h1, h2⟩ := h
  rw [List.length_map]
  rcases h1.2 with ⟨rfl, hn⟩ | ⟨g, cap, cur, rfl, _⟩
  · exact ⟨none, 0, by rw [hn]⟩
  · exact ⟨_, _, rfl⟩
end
end Go.Proofs.Ytjkmmmmbdfcnbaa
