/-
  Layer 2: a token as the answer reads it: what is kept on the way, and what each way comes to. Own work.
-/
import Derived.Test.YtldgjiohigiioaaRf2f
import Derived.Test.YtldgjiohigiioaaPiece2b
import Derived.Test.YtldgjiohigiioaaTok2
namespace Go.Proofs.Ytldgjiohigiioaa
set_option linter.unusedVariables false
set_option linter.unusedSimpArgs false
open Go.RowKit

/-- a token's cells -/
abbrev tkC (k : Int) (n : List UInt8) (va : Value) (t : List UInt8) (p0 p1 p2 : Int) : Array Value := #[.int .i64 k, .string (str n), va, .string (str t), .int .i64 p0, .int .i64 p1, .int .i64 p2]
/-- on the way through a token: the reader in X, the result in R, the token in T -/
structure N2 (w : World) (X R T : Nat) (l r : List UInt8) (c o : Int) (k : Int) (n : List UInt8) (ats : List At2) (va : Value) (t : List UInt8) (p0 p1 p2 : Int) (wk : World) : Prop where
  rr : RR wk X l r c o
  fr : FrX w.heap.size X w wk
  rrow : wk.heap[R]? = some (.cells tok0 34 (0, 0))
  trow : wk.heap[T]? = some (.cells (tkC k n va t p0 p1 p2) 34 (0, 0))
  own : wk.ownsRow (T + 1) 46 2 va ats.length (rowAs ats)
  hT : X < w.heap.size ∧ w.heap.size ≤ R ∧ R < T
section
variable {w wk wk' : World} {X R T : Nat} {l r r' : List UInt8} {c o c' o' k p0 p1 p2 : Int} {n t : List UInt8} {ats : List At2} {va : Value}
theorem N2.lt (h : N2 w X R T l r c o k n ats va t p0 p1 p2 wk) : T < wk.heap.size := (Array.getElem?_eq_some_iff.1 h.trow).1
theorem N2.mv (h : N2 w X R T l r c o k n ats va t p0 p1 p2 wk) (hm : RM X l r' c' o' wk wk') : N2 w X R T l r' c' o' k n ats va t p0 p1 p2 wk' :=
  ⟨hm.1, h.fr.trans (FrX.ofGrown hm.2 h.fr.size), (hm.2.block R (by have := h.hT; have := h.lt; omega) (by have := h.hT; simp; omega)).trans h.rrow, (hm.2.block T h.lt (by have := h.hT; simp; omega)).trans h.trow, own_x h.own hm.2 (by have := h.hT; omega), h.hT⟩
theorem N2.below (h : N2 w X R T l r c o k n ats va t p0 p1 p2 wk) (hb : Below wk.heap.size wk wk') : N2 w X R T l r c o k n ats va t p0 p1 p2 wk' := h.mv (RM.below h.rr hb)
theorem N2.cells (h : N2 w X R T l r c o k n ats va t p0 p1 p2 wk) :
    (wk.cell? ⟨T, 0, none⟩ = some (.int .i64 k) ∧ wk.cell? ⟨T, 1, none⟩ = some (.string (str n)) ∧ wk.cell? ⟨T, 2, none⟩ = some va ∧ wk.cell? ⟨T, 3, none⟩ = some (.string (str t))) ∧
      (wk.cell? ⟨T, 4, none⟩ = some (.int .i64 p0) ∧ wk.cell? ⟨T, 5, none⟩ = some (.int .i64 p1) ∧ wk.cell? ⟨T, 6, none⟩ = some (.int .i64 p2)) := by
  refine ⟨⟨?_, ?_, ?_, ?_⟩, ?_, ?_, ?_⟩
  · rw [cell_of_row wk T 0 _ _ (0, 0) h.trow]; rfl
  · rw [cell_of_row wk T 1 _ _ (0, 0) h.trow]; rfl
  · rw [cell_of_row wk T 2 _ _ (0, 0) h.trow]; rfl
  · rw [cell_of_row wk T 3 _ _ (0, 0) h.trow]; rfl
  · rw [cell_of_row wk T 4 _ _ (0, 0) h.trow]; rfl
  · rw [cell_of_row wk T 5 _ _ (0, 0) h.trow]; rfl
  · rw [cell_of_row wk T 6 _ _ (0, 0) h.trow]; rfl
theorem N2.frozen (h : N2 w X R T l r c o k n ats va t p0 p1 p2 wk) (j : Nat) : wk.frozen? ⟨T, j, none⟩ = false := frozen_of_row wk T j _ _ h.trow
/-- a store into the token -/
theorem N2.set {k' p0' p1' p2' : Int} {n' t' : List UInt8} {ats' : List At2} {va' : Value} (h : N2 w X R T l r c o k n ats va t p0 p1 p2 wk) (j : Nat) (v : Value) (hrow : (tkC k n va t p0 p1 p2).setIfInBounds j v = tkC k' n' va' t' p0' p1' p2')
    (ho : wk.ownsRow (T + 1) 46 2 va' ats'.length (rowAs ats')) : N2 w X R T l r c o k' n' ats' va' t' p0' p1' p2' (wk.setCell ⟨T, j, none⟩ v) := by
  refine ⟨⟨h.rr.1, ?_⟩, FrX.set h.fr (by have := h.hT; omega), ?_, ?_, ownsRow_setCell_below ho (a := ⟨T, j, none⟩) (by simp) _, h.hT⟩
  · rw [heap_setCell_other wk ⟨T, j, none⟩ X _ (fun e => by have := h.hT; simp only at e; omega)]
    exact h.rr.2
  · rw [heap_setCell_other wk ⟨T, j, none⟩ R _ (fun e => by have := h.hT; simp only at e; omega)]
    exact h.rrow
  · have := heap_setCell_same wk T j _ _ v h.trow
    rw [hrow] at this
    exact this
theorem N2.kind (h : N2 w X R T l r c o k n ats va t p0 p1 p2 wk) (k' : Int) : N2 w X R T l r c o k' n ats va t p0 p1 p2 (wk.setCell ⟨T, 0, none⟩ (.int .i64 k')) := h.set 0 _ (by simp) h.own
theorem N2.name (h : N2 w X R T l r c o k n ats va t p0 p1 p2 wk) (n' : List UInt8) : N2 w X R T l r c o k n' ats va t p0 p1 p2 (wk.setCell ⟨T, 1, none⟩ (.string (str n'))) := h.set 1 _ (by simp) h.own
theorem N2.text (h : N2 w X R T l r c o k n ats va t p0 p1 p2 wk) (t' : List UInt8) : N2 w X R T l r c o k n ats va t' p0 p1 p2 (wk.setCell ⟨T, 3, none⟩ (.string (str t'))) := h.set 3 _ (by simp) h.own
theorem N2.line (h : N2 w X R T l r c o k n ats va t p0 p1 p2 wk) (p : Int) : N2 w X R T l r c o k n ats va t p0 p p2 (wk.setCell ⟨T, 5, none⟩ (.int .i64 p)) := h.set 5 _ (by simp) h.own
theorem N2.col (h : N2 w X R T l r c o k n ats va t p0 p1 p2 wk) (p : Int) : N2 w X R T l r c o k n ats va t p0 p1 p (wk.setCell ⟨T, 6, none⟩ (.int .i64 p)) := h.set 6 _ (by simp) h.own
theorem N2.attrs {ats' : List At2} {va' : Value} (h : N2 w X R T l r c o k n ats va t p0 p1 p2 wk) (ho : wk.ownsRow (T + 1) 46 2 va' ats'.length (rowAs ats')) : N2 w X R T l r c o k n ats' va' t p0 p1 p2 (wk.setCell ⟨T, 2, none⟩ va') := h.set 2 _ (by simp) ho
end
/-- what Next leaves -/
def NxQ (X : Nat) (l r : List UInt8) (w : World) (e : Ending) (w' : World) : Prop :=
  match pieceM (l.length - r.length) r with
  | .ok x r2 => RM X l r2 0 0 w w' ∧ ∃ va, e = .returned (.agg (tmL (x.mem l) va).toArray) ∧ w'.ownsRow w.heap.size 46 2 va x.ats.length (rowAs x.ats)
  | .bad c r2 => (∃ k n a m q t p0 p1 p2, e = .returned (.agg (tkC k n (.slice a m q) t p0 p1 p2))) ∧ ∃ r', RM X l r' c ((l.length - r2.length : Nat) : Int) w w'
theorem nx_fin {X R T : Nat} {l r r2 : List UInt8} {x : Tk} {va : Value} {w wk : World} {cs : Array Value} {n0 : Nat} (hn0 : n0 = l.length - r.length) (hM : pieceM n0 r = .ok x r2)
    (h : N2 w X R T l r2 0 0 x.k x.n x.ats va x.t (n0 : Int) (lineS (preO l r)) (colS (preO l r)) wk) :
    NxQ X l r w (.returned (.agg (tkC x.k x.n va x.t (n0 : Int) (lineS (preO l r)) (colS (preO l r))))) (wk.setRow R cs) := by
  subst hn0
  unfold NxQ
  rw [hM]
  have ho := piece_o hM
  have hT := h.hT
  refine ⟨⟨⟨h.rr.1, (setRow_other wk R X _ (by omega)).trans h.rr.2⟩, (h.fr.setRow hT.2.1).grown⟩, va, ?_, ?_⟩
  · simp only [tmL, Tk.mem, ho, preO]
  · exact own_mono2 (own_row2 h.own (by omega)) (by omega)
theorem nx_bad {X R T : Nat} {l r r2 r' : List UInt8} {c o k p0 p1 p2 : Int} {n t : List UInt8} {ats : List At2} {va : Value} {w wk : World} {cs : Array Value} {n0 : Nat} (hn0 : n0 = l.length - r.length) (hM : pieceM n0 r = .bad c r2)
    (h : N2 w X R T l r' c o k n ats va t p0 p1 p2 wk) (ho : o = ((l.length - r2.length : Nat) : Int)) :
    NxQ X l r w (.returned (.agg (tkC k n va t p0 p1 p2))) (wk.setRow R cs) := by
  subst hn0
  unfold NxQ
  rw [hM]
  have hT := h.hT
  obtain ⟨a, q, hv⟩ := RdSl.shape (RdAs.of_own h.own)
  subst hv
  refine ⟨⟨k, n, a, _, q, t, p0, p1, p2, rfl⟩, r', ⟨h.rr.1, (setRow_other wk R X _ (by omega)).trans (by rw [← ho]; exact h.rr.2)⟩, (h.fr.setRow hT.2.1).grown⟩
/-! what each way comes to -/
theorem piece_text {o : Nat} {c : UInt8} {r1 : List UInt8} (h : c ≠ 60) : pieceM o (c :: r1) = (letM 60 true ((c :: r1).length + 1) [] (c :: r1)).bind fun t r2 => .ok ⟨4, [], [], t, o⟩ r2 := by rw [pieceM, if_pos h]
theorem pre_60 {f : List UInt8} {c : UInt8} {r1 : List UInt8} (h : (60 :: f).isPrefixOf (c :: r1) = true) : c = 60 := by
  simp [List.isPrefixOf] at h
  exact h.1.symm
theorem piece_note {o : Nat} {c : UInt8} {r1 : List UInt8} (h : noteF.isPrefixOf (c :: r1) = true) : pieceM o (c :: r1) = (betM noteB [] ((c :: r1).drop 4)).bind fun t r2 => .ok ⟨5, [], [], t, o⟩ r2 := by
  rw [pieceM, if_neg (by simpa using pre_60 h), if_pos h]
theorem piece_cd {o : Nat} {c : UInt8} {r1 : List UInt8} (h1 : noteF.isPrefixOf (c :: r1) = false) (h : cdF.isPrefixOf (c :: r1) = true) : pieceM o (c :: r1) = (betM cdB [] ((c :: r1).drop 9)).bind fun t r2 => .ok ⟨4, [], [], t, o⟩ r2 := by
  rw [pieceM, if_neg (by simpa using pre_60 h), if_neg (by rw [h1]; decide), if_pos h]
theorem piece_head {o : Nat} {c : UInt8} {r1 : List UInt8} (h1 : noteF.isPrefixOf (c :: r1) = false) (h2 : cdF.isPrefixOf (c :: r1) = false) (h : headM (o == 0) (c :: r1) = true) : pieceM o (c :: r1) = (betM headB [] ((c :: r1).drop 5)).bind fun t r2 => .ok ⟨6, [], [], t, o⟩ r2 := by
  have h3 := h
  simp only [headM, Bool.and_eq_true] at h3
  rw [pieceM, if_neg (by simpa using pre_60 h3.1.2), if_neg (by rw [h1]; decide), if_neg (by rw [h2]; decide), if_pos h]
theorem piece_tag {o : Nat} {r1 : List UInt8} (h1 : noteF.isPrefixOf (60 :: r1) = false) (h2 : cdF.isPrefixOf (60 :: r1) = false) (h : headM (o == 0) (60 :: r1) = false) :
    pieceM o (60 :: r1) = if r1.head? = some 47 then (closeM (r1.drop 1)).bind fun n r2 => .ok ⟨3, n, [], [], o⟩ r2 else (openM r1).bind fun x r2 => .ok ⟨x.1, x.2.1, x.2.2, [], o⟩ r2 := by
  rw [pieceM, if_neg (by decide), if_neg (by rw [h1]; decide), if_neg (by rw [h2]; decide), if_neg (by rw [h]; decide)]
  rfl
/-- text, or something that went wrong -/
theorem text_two {X : Nat} {l : List UInt8} {M : Rs (List UInt8)} {w w' : World} {e : Ending} (hne : ∀ e r', M = .bad e r' → e ≠ 0) (h : RfP X l M (fun n => .string (str n)) (.string (str [])) w e w') :
    ∃ n c0 o0 r1, e = .returned (.string (str n)) ∧ RM X l r1 c0 o0 w w' ∧ ((c0 = 0 ∧ o0 = 0 ∧ M = .ok n r1) ∨ (c0 ≠ 0 ∧ ∃ r5, M = .bad c0 r5 ∧ o0 = ((l.length - r5.length : Nat) : Int))) := by
  cases hM : M with
  | ok n r1 => rw [hM] at h; exact ⟨n, 0, 0, r1, h.1, h.2, .inl ⟨rfl, rfl, rfl⟩⟩
  | bad c r5 =>
    rw [hM] at h
    obtain ⟨h1, r', h2⟩ := h
    exact ⟨[], c, _, r', h1, h2, .inr ⟨hne _ _ hM, r5, rfl, rfl⟩⟩
/-- a token of text alone -/
theorem nx_text {X R T : Nat} {l r r1 : List UInt8} {M : Rs (List UInt8)} {k c0 o0 : Int} {t : List UInt8} {va : Value} {w wk : World} {cs : Array Value} {n0 : Nat} (hn0 : n0 = l.length - r.length)
    (hP : pieceM n0 r = M.bind fun t r2 => .ok ⟨k, [], [], t, n0⟩ r2)
    (hM : (c0 = 0 ∧ o0 = 0 ∧ M = .ok t r1) ∨ (c0 ≠ 0 ∧ ∃ r5, M = .bad c0 r5 ∧ o0 = ((l.length - r5.length : Nat) : Int)))
    (h : N2 w X R T l r1 c0 o0 k [] [] va t (n0 : Int) (lineS (preO l r)) (colS (preO l r)) wk) :
    NxQ X l r w (.returned (.agg (tkC k [] va t (n0 : Int) (lineS (preO l r)) (colS (preO l r))))) (wk.setRow R cs) := by
  rcases hM with ⟨rfl, rfl, hM⟩ | ⟨_, r5, hM, ho⟩
  · exact nx_fin (x := ⟨k, [], [], t, n0⟩) hn0 (by rw [hP, hM]; rfl) h
  · exact nx_bad hn0 (by rw [hP, hM]; rfl) h ho
theorem ne_attrsR : ∀ (f : Nat) (ats : List At2) (r : List UInt8), Ne0 (attrsR f ats r)
  | 0, ats, r => ne_ok
  | f + 1, ats, r => by
    rw [attrsR]
    split
    · exact ne_ok
    · split
      · exact ne_ok
      · split
        · exact ne_ok
        · exact ne_bind (ne_attr _ _) fun a r2 => ne_attrsR f _ _
theorem endM_no (n : List UInt8) (ats : List At2) {r : List UInt8} (h : r.head? ≠ some 47) : endM n ats r = (mustM 62 r).bind fun _ r4 => .ok (1, n, ats) r4 := by
  cases r with
  | nil => rfl
  | cons c r => rw [endM, if_neg (by simpa using h)]
theorem endM_yes (n : List UInt8) (ats : List At2) (r : List UInt8) : endM n ats (47 :: r) = (mustM 62 r).bind fun _ r4 => .ok (2, n, ats) r4 := by rw [endM, if_pos rfl]
theorem nx_results (tmps : Array Value) (w : World) (R : Nat) (cs : Array Value) (hs : cs.size = 7) (h2 : tmps.getD 2 undef = .pointer (some ⟨R, 0, none⟩))
    (hR : w.heap[R]? = some (.cells cs 34 (0, 0))) :
    (results Try.f30 tmps).run Try.prog w = .ok (.agg cs) w := by
  have h2' : tmps[2]?.getD undef = .pointer (some ⟨R, 0, none⟩) := by simpa using h2
  have l1 := run_loadVar_row w R 34 34 cs (0, 0) _ hR Try.underlying34 rfl (by rw [hs]; kernel_rfl)
  simp [results, Try.results30, h2', asAddr, l1]
end Go.Proofs.Ytldgjiohigiioaa
