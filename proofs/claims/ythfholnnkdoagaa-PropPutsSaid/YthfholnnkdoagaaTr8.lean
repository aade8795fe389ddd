/-
  Layer 8: the answer's Table in memory. Own work.
-/
import Derived.Test.YthfholnnkdoagaaFew8
namespace Go.Proofs.Ythfholnnkdoagaa
set_option linter.unusedVariables false
set_option linter.unusedSimpArgs false
open Go.RowKit

/-- the answer's table -/
structure RT8 (B R : Nat) (L : List Pp) (vL : Value) (bad : Int) (nm : List UInt8) (ways : List (List UInt8)) (D : List Pp) (vd vo : Value) (w : World) : Prop where
  tab : w.heap[R]? = some (.cells #[vL, vd, .int .i64 bad, .string (str nm), .int .i64 0, vo] 44 (0, 0))
  l : w.ownsRow 0 33 2 vL (prs L).length (rowPr (prs L))
  lt : ∀ k, vL.ownBlock = some k → k < B
  done : w.ownsRow B 33 2 vd (prs D).length (rowPr (prs D))
  opn : w.ownsRow B 9 1 vo ways.length (strVs ways)
  low : B ≤ R
/-- what turns when it is used, and where its rows lie then -/
structure Mw (R : Nat) (vd vo : Value) (w w' : World) (vd' vo' : Value) : Prop where
  os : w'.os = w.os
  tape : w'.tape = w.tape
  output : w'.output = w.output
  size : w.heap.size ≤ w'.heap.size
  block : ∀ k, k < w.heap.size → k ≠ R → vd.ownBlock ≠ some k → vo.ownBlock ≠ some k → w'.heap[k]? = w.heap[k]?
  nd : vd'.ownBlock = vd.ownBlock ∨ ∀ k, vd'.ownBlock = some k → w.heap.size ≤ k
  no : vo'.ownBlock = vo.ownBlock ∨ ∀ k, vo'.ownBlock = some k → w.heap.size ≤ k
section
variable {B R : Nat} {L D : List Pp} {vL vd vo vd' vo' vd'' vo'' : Value} {bad : Int} {nm : List UInt8} {ways : List (List UInt8)} {w w' w'' : World}
theorem Mw.refl (R : Nat) (vd vo : Value) (w : World) : Mw R vd vo w w vd vo := ⟨rfl, rfl, rfl, Nat.le_refl _, fun _ _ _ _ _ => rfl, .inl rfl, .inl rfl⟩
theorem Mw.trans (h : Mw R vd vo w w' vd' vo') (h' : Mw R vd' vo' w' w'' vd'' vo'') : Mw R vd vo w w'' vd'' vo'' := by
  refine ⟨h'.os.trans h.os, h'.tape.trans h.tape, h'.output.trans h.output, Nat.le_trans h.size h'.size, fun k hk h1 h2 h3 => ?_, ?_, ?_⟩
  · refine (h'.block k (Nat.lt_of_lt_of_le hk h.size) h1 (fun e => ?_) (fun e => ?_)).trans (h.block k hk h1 h2 h3)
    · rcases h.nd with hd | hd
      · rw [hd] at e; exact h2 e
      · have := hd k e; omega
    · rcases h.no with hd | hd
      · rw [hd] at e; exact h3 e
      · have := hd k e; omega
  · rcases h'.nd with hd | hd
    · rw [hd]; exact h.nd
    · exact .inr fun k hk => Nat.le_trans h.size (hd k hk)
  · rcases h'.no with hd | hd
    · rw [hd]; exact h.no
    · exact .inr fun k hk => Nat.le_trans h.size (hd k hk)
theorem Mw.of_below (hb : Below w.heap.size w w') : Mw R vd vo w w' vd vo := ⟨hb.os, hb.tape, hb.output, hb.size, fun k hk _ _ _ => hb.block k hk, .inl rfl, .inl rfl⟩
theorem RT8.far (h : RT8 B R L vL bad nm ways D vd vo w) (hb : Below w.heap.size w w') : RT8 B R L vL bad nm ways D vd vo w' :=
  ⟨(hb.block R (Array.getElem?_eq_some_iff.1 h.tab).1).trans h.tab, own_mvd8 h.l hb, h.lt, own_mvd8 h.done hb, own_mvd8 h.opn hb, h.low⟩
theorem RT8.lts (h : RT8 B R L vL bad nm ways D vd vo w) : R < w.heap.size ∧ (∀ k, vd.ownBlock = some k → B ≤ k ∧ k < w.heap.size) ∧ ∀ k, vo.ownBlock = some k → B ≤ k ∧ k < w.heap.size := by
  refine ⟨(Array.getElem?_eq_some_iff.1 h.tab).1, fun k hk => ?_, fun k hk => ?_⟩
  · obtain ⟨cs, h1, h2⟩ := own_ty h.done hk
    exact ⟨h2, (Array.getElem?_eq_some_iff.1 h1).1⟩
  · obtain ⟨cs, h1, h2⟩ := own_ty h.opn hk
    exact ⟨h2, (Array.getElem?_eq_some_iff.1 h1).1⟩
/-- what isn't the answer's own is as it was -/
theorem Mw.below (h : Mw R vd vo w w' vd' vo') (ht : RT8 B R L vL bad nm ways D vd vo w) : Below B w w' := by
  have hl := ht.lts
  have hlow := ht.low
  refine ⟨h.os, h.tape, h.output, h.size, fun k hk => h.block k (by omega) (by omega) (fun e => by have := hl.2.1 k e; omega) (fun e => by have := hl.2.2 k e; omega)⟩
/-- a cell of the table's own variable is put -/
theorem RT8.set (h : RT8 B R L vL bad nm ways D vd vo w) {j : Nat} {u : Value} {cs : Array Value} (hcs : (#[vL, vd, .int .i64 bad, .string (str nm), .int .i64 0, vo] : Array Value).setIfInBounds j u = cs) :
    (w.setCell ⟨R, j, none⟩ u).heap[R]? = some (.cells cs 44 (0, 0)) ∧ (∀ k, k ≠ R → (w.setCell ⟨R, j, none⟩ u).heap[k]? = w.heap[k]?) := by
  refine ⟨?_, fun k hk => heap_setCell_other w ⟨R, j, none⟩ k u hk⟩
  rw [← hcs]
  exact heap_setCell_same w R j _ _ u h.tab
theorem RT8.ne (h : RT8 B R L vL bad nm ways D vd vo w) {base e size n : Nat} {v : Value} {xs : List Value} (ho : w.ownsRow base e size v n xs) (he : e ≠ 44) {k : Nat} (hk : v.ownBlock = some k) : k ≠ R := fun e1 => by
  obtain ⟨cs, h1, _⟩ := own_ty ho hk
  rw [e1, h.tab] at h1
  simp only [Option.some.injEq, Obj.cells.injEq] at h1
  exact he h1.2.1.symm
/-- the first error is noted -/
theorem RT8.fails (h : RT8 B R L vL bad nm ways D vd vo w) (er : Int) (n : List UInt8) : RT8 B R L vL er n ways D vd vo ((w.setCell ⟨R, 2, none⟩ (.int .i64 er)).setCell ⟨R, 3, none⟩ (.string (str n))) ∧ Mw R vd vo w ((w.setCell ⟨R, 2, none⟩ (.int .i64 er)).setCell ⟨R, 3, none⟩ (.string (str n))) vd vo := by
  obtain ⟨h1, h2⟩ := h.set (j := 2) (u := .int .i64 er) rfl
  have h3 : ((w.setCell ⟨R, 2, none⟩ (.int .i64 er)).setCell ⟨R, 3, none⟩ (.string (str n))).heap[R]? = some (.cells #[vL, vd, .int .i64 er, .string (str n), .int .i64 0, vo] 44 (0, 0)) := heap_setCell_same _ R 3 _ _ _ h1
  have h4 : ∀ k, k ≠ R → ((w.setCell ⟨R, 2, none⟩ (.int .i64 er)).setCell ⟨R, 3, none⟩ (.string (str n))).heap[k]? = w.heap[k]? := fun k hk => (heap_setCell_other _ ⟨R, 3, none⟩ k _ hk).trans (h2 k hk)
  refine ⟨⟨h3, own_frame h.l fun k cs hk hc => (h4 k (h.ne h.l (by decide) hk)).trans hc, h.lt, own_frame h.done fun k cs hk hc => (h4 k (h.ne h.done (by decide) hk)).trans hc, own_frame h.opn fun k cs hk hc => (h4 k (h.ne h.opn (by decide) hk)).trans hc, h.low⟩, ⟨rfl, rfl, rfl, by simp, fun k _ hk _ _ => h4 k hk, .inl rfl, .inl rfl⟩⟩
/-- another row of names that are met -/
theorem RT8.opens (h : RT8 B R L vL bad nm ways D vd vo w) {w5 : World} {vo5 : Value} {ways5 : List (List UInt8)} (ho : w5.ownsRow B 9 1 vo5 ways5.length (strVs ways5)) (hg : w.grownBy w5 vo.ownBlock) (hl : vo5.ownBlock = vo.ownBlock ∨ ∀ k, vo5.ownBlock = some k → w.heap.size ≤ k) :
    RT8 B R L vL bad nm ways5 D vd vo5 (w5.setCell ⟨R, 5, none⟩ vo5) ∧ Mw R vd vo w (w5.setCell ⟨R, 5, none⟩ vo5) vd vo5 := by
  have hk5 : ∀ k, k < w.heap.size → vo.ownBlock ≠ some k → w5.heap[k]? = w.heap[k]? := fun k hk hn => hg.block k hk (fun e => hn e.symm)
  have hne : ∀ {e size n base : Nat} {v : Value} {xs : List Value}, w.ownsRow base e size v n xs → e ≠ 9 → ∀ k, v.ownBlock = some k → vo.ownBlock ≠ some k := fun {e size n base v xs} hv he k hk e2 => by
    obtain ⟨cs, q1, _⟩ := own_ty hv hk
    obtain ⟨cs2, q2, _⟩ := own_ty h.opn e2
    rw [q1] at q2
    simp only [Option.some.injEq, Obj.cells.injEq] at q2
    exact he q2.2.1
  have hR5 : w5.heap[R]? = some (.cells #[vL, vd, .int .i64 bad, .string (str nm), .int .i64 0, vo] 44 (0, 0)) := (hk5 R (Array.getElem?_eq_some_iff.1 h.tab).1 (fun e => h.ne h.opn (by decide) e rfl)).trans h.tab
  have h8 : ∀ k, k ≠ R → (w5.setCell ⟨R, 5, none⟩ vo5).heap[k]? = w5.heap[k]? := fun k hk => heap_setCell_other w5 ⟨R, 5, none⟩ k vo5 hk
  have keep : ∀ {e size n base : Nat} {v : Value} {xs : List Value}, w.ownsRow base e size v n xs → e ≠ 9 → e ≠ 44 → (w5.setCell ⟨R, 5, none⟩ vo5).ownsRow base e size v n xs := fun {e size n base v xs} hv he he2 =>
    own_frame hv fun k cs hk hc => (h8 k (h.ne hv he2 hk)).trans ((hk5 k (Array.getElem?_eq_some_iff.1 hc).1 (hne hv he k hk)).trans hc)
  refine ⟨⟨heap_setCell_same w5 R 5 _ _ vo5 hR5, keep h.l (by decide) (by decide), h.lt, keep h.done (by decide) (by decide), own_frame ho fun k cs hk hc => (h8 k (fun e => by rw [e, hR5] at hc; cases hc)).trans hc, h.low⟩,
    ⟨hg.os, hg.tape, hg.output, by simp; exact hg.size, fun k hk h1 h2 h3 => (h8 k h1).trans (hk5 k hk h3), .inl rfl, hl⟩⟩
/-- another row of what is remembered -/
theorem RT8.dones (h : RT8 B R L vL bad nm ways D vd vo w) {w5 : World} {vd5 : Value} {D5 : List Pp} (ho : w5.ownsRow B 33 2 vd5 (prs D5).length (rowPr (prs D5))) (hg : w.grownBy w5 vd.ownBlock) (hl : vd5.ownBlock = vd.ownBlock ∨ ∀ k, vd5.ownBlock = some k → w.heap.size ≤ k) :
    RT8 B R L vL bad nm ways D5 vd5 vo (w5.setCell ⟨R, 1, none⟩ vd5) ∧ Mw R vd vo w (w5.setCell ⟨R, 1, none⟩ vd5) vd5 vo := by
  have hk5 : ∀ k, k < w.heap.size → vd.ownBlock ≠ some k → w5.heap[k]? = w.heap[k]? := fun k hk hn => hg.block k hk (fun e => hn e.symm)
  have hR5 : w5.heap[R]? = some (.cells #[vL, vd, .int .i64 bad, .string (str nm), .int .i64 0, vo] 44 (0, 0)) := (hk5 R (Array.getElem?_eq_some_iff.1 h.tab).1 (fun e => h.ne h.done (by decide) e rfl)).trans h.tab
  have h8 : ∀ k, k ≠ R → (w5.setCell ⟨R, 1, none⟩ vd5).heap[k]? = w5.heap[k]? := fun k hk => heap_setCell_other w5 ⟨R, 1, none⟩ k vd5 hk
  refine ⟨⟨heap_setCell_same w5 R 1 _ _ vd5 hR5, ?_, h.lt, own_frame ho fun k cs hk hc => (h8 k (fun e => by rw [e, hR5] at hc; cases hc)).trans hc, ?_, h.low⟩,
    ⟨hg.os, hg.tape, hg.output, by simp; exact hg.size, fun k hk h1 h2 h3 => (h8 k h1).trans (hk5 k hk h2), hl, .inl rfl⟩⟩
  · refine own_frame h.l fun k cs hk hc => (h8 k (h.ne h.l (by decide) hk)).trans ((hk5 k (Array.getElem?_eq_some_iff.1 hc).1 (fun e => ?_)).trans hc)
    have h1 := h.lt k hk
    have h2 := (h.lts.2.1 k e).1
    omega
  · refine own_frame h.opn fun k cs hk hc => (h8 k (h.ne h.opn (by decide) hk)).trans ((hk5 k (Array.getElem?_eq_some_iff.1 hc).1 (fun e => ?_)).trans hc)
    obtain ⟨cs2, q2, _⟩ := own_ty h.done e
    rw [hc] at q2
    cases q2
end
/-- what the answer's value and text come to -/
def RP (B R : Nat) (L : List Pp) (vL : Value) (nm : List UInt8) (way : List (List UInt8)) (vd vo : Value) (x : Xp) (w : World) (e : Ending) (w' : World) : Prop :=
  match x with
  | .ok v D' => e = .returned (.string (str v)) ∧ ∃ vd' vo', RT8 B R L vL 0 nm way D' vd' vo' w' ∧ Mw R vd vo w w' vd' vo'
  | .bad er n D' => er ≠ 0 ∧ ∃ (sv : List UInt8) (ways : List (List UInt8)) (vd' vo' : Value), e = .returned (.string (str sv)) ∧ sv.length ≤ 200000 ∧ RT8 B R L vL er n ways D' vd' vo' w' ∧ Mw R vd vo w w' vd' vo'
/-- fail -/
theorem fail8_any {B R : Nat} {L D : List Pp} {vL vd vo : Value} {nm : List UInt8} {ways : List (List UInt8)} {w : World} (h : RT8 B R L vL 0 nm ways D vd vo w) (er : Int) (n : List UInt8) :
    Calls Try.prog 51 #[.pointer (some ⟨R, 0, none⟩), .int .i64 er, .string (str n)] w fun e w' => e = .returned (.tuple #[]) ∧ RT8 B R L vL er n ways D vd vo w' ∧ Mw R vd vo w w' vd vo := by
  obtain ⟨q1, q2⟩ := h.fails er n
  have Q1 := Lib.hid q1
  have Q2 := Lib.hid q2
  have c2 : w.cell? ⟨R, 2, none⟩ = some (.int .i64 0) := by rw [cell_of_row _ _ 2 _ _ (0, 0) h.tab]; rfl
  have c3 : w.cell? ⟨R, 3, none⟩ = some (.string (str nm)) := by rw [cell_of_row _ _ 3 _ _ (0, 0) h.tab]; rfl
  have f2 := frozen_of_row w R 2 _ _ h.tab
  have f3 := frozen_of_row w R 3 _ _ h.tab
  clear h q1 q2
  go_enter Try.func51, Try.ntmps51
  go_wp2
  go_end0
  exact ⟨rfl, Q1.out, Q2.out⟩
end Go.Proofs.Ythfholnnkdoagaa
