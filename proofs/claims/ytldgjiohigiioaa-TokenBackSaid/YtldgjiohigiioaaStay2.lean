/-
  Layer 2: an error stays whatever stands behind its place, on lists. Own work.
-/
import Derived.Test.YtldgjiohigiioaaErr2
import Derived.Test.YtldgjiohigiioaaTags2
namespace Go.Proofs.Ytldgjiohigiioaa
set_option linter.unusedVariables false
set_option linter.unusedSimpArgs false
open Go.RowKit

/-- an error in a tag, a value or a text -/
def E3 (e : Int) : Prop := e = 10 ∨ e = 11 ∨ e = 15
/-! such an error isn't at the end -/
def NE {α : Type} (x : Rs α) : Prop := ∀ e r, x = .bad e r → E3 e → r ≠ []
theorem nf_ok {α : Type} {a : α} {r : List UInt8} : NE (.ok a r) := fun e r' h => by simp at h
theorem nf_no {α : Type} {c : Int} {r : List UInt8} (hc : ¬ E3 c) : NE (.bad c r : Rs α) := fun e r' h he => by cases h; exact absurd he hc
theorem nf_yes {α : Type} {c : Int} {r : List UInt8} (hr : r ≠ []) : NE (.bad c r : Rs α) := fun e r' h he => by cases h; exact hr
theorem nf_13 {α : Type} {r : List UInt8} : NE (.bad 13 r : Rs α) := nf_no (by unfold E3; decide)
theorem nf_bind {α β : Type} {x : Rs α} {f : α → List UInt8 → Rs β} (h : NE x) (hf : ∀ a r, NE (f a r)) : NE (x.bind f) := by
  cases x with
  | ok a r => exact hf a r
  | bad e r => intro e' r' h' he; cases h'; exact h e r rfl he
theorem nf_must (c : UInt8) (r : List UInt8) : NE (mustM c r) := by
  unfold mustM
  split
  · exact nf_13
  · split
    · exact nf_ok
    · exact nf_yes (by simp)
theorem nf_bet (b : List UInt8) : ∀ (r acc : List UInt8), NE (betM b acc r)
  | [], acc => by unfold betM; split; exact nf_ok; exact nf_13
  | c :: r, acc => by
    unfold betM
    split
    · exact nf_ok
    · split
      · exact nf_bet b r _
      · exact nf_yes (by simp)
theorem errno_E3 {l : List UInt8} {x : ByteArray} {n y : Nat} (h : refS l = (x, n, y)) : ¬ E3 (errno y) := by
  rcases refS_bad h with h | h | h <;> subst h <;> (unfold E3; decide)
theorem nf_let (stop : UInt8) (opn : Bool) : ∀ (f : Nat) (acc r : List UInt8), NE (letM stop opn f acc r)
  | 0, acc, r => by unfold letM; exact nf_ok
  | f + 1, acc, [] => by unfold letM; split; exact nf_ok; exact nf_13
  | f + 1, acc, c :: r => by
    by_cases hc : c = stop
    · rw [letM, if_pos hc]; exact nf_ok
    · by_cases h38 : c = 38
      · obtain ⟨⟨x, n, y⟩, hxy⟩ : ∃ z, refS (c :: r) = z := ⟨_, rfl⟩
        rw [let_ref hc h38 hxy]
        split
        · exact nf_let stop opn f _ _
        · exact nf_no (errno_E3 hxy)
      · rw [letM, if_neg hc, if_neg h38]
        split
        · exact nf_yes (by simp)
        · exact nf_let stop opn f _ _
theorem nf_name {e : Int} (r : List UInt8) : NE (nameM e r) := by
  unfold nameM
  split
  · exact nf_13
  · next h =>
    split
    · exact nf_yes h
    · exact nf_ok
theorem name_ne {e : Int} {r n r1 : List UInt8} (h : nameM e r = .ok n r1) : r ≠ [] := by
  rintro rfl
  rw [nameM, if_pos rfl] at h
  simp at h
theorem nf_attr (ats : List At2) (r : List UInt8) : NE (attrM ats r) := by
  unfold attrM
  cases hN : nameM 10 r with
  | bad e s => intro e' r' h he; cases h; exact nf_name r _ _ hN he
  | ok n r1 =>
    show NE (ite _ _ _ : Rs At2)
    split
    · exact nf_yes (name_ne hN)
    · refine nf_bind (nf_must _ _) fun _ r2 => ?_
      split
      · exact nf_13
      · split
        · exact nf_bind (nf_let _ _ _ _ _) fun _ _ => nf_ok
        · exact nf_yes (by simp)
theorem nf_attrs : ∀ (f : Nat) (ats : List At2) (r : List UInt8), NE (attrsM f ats r)
  | 0, ats, r => by rw [attrsM]; exact nf_ok
  | f + 1, ats, r => by
    rw [attrsM]
    split
    · exact nf_ok
    · split
      · exact nf_13
      · split
        · exact nf_ok
        · exact nf_bind (nf_attr _ _) fun a r2 => nf_attrs f _ _
theorem nf_open (r : List UInt8) : NE (openM r) := by
  rw [openM_eq]
  refine nf_bind (nf_name r) fun n r1 => nf_bind (nf_attrs _ _ _) fun ats r2 => ?_
  unfold endM
  split
  · exact nf_13
  · split <;> exact nf_bind (nf_must _ _) fun _ _ => nf_ok
theorem nf_piece (o : Nat) (r : List UInt8) : NE (pieceM o r) := by
  unfold pieceM
  split
  · exact nf_13
  · split
    · exact nf_bind (nf_let _ _ _ _ _) fun _ _ => nf_ok
    · split
      · exact nf_bind (nf_bet _ _ _) fun _ _ => nf_ok
      · split
        · exact nf_bind (nf_bet _ _ _) fun _ _ => nf_ok
        · split
          · exact nf_bind (nf_bet _ _ _) fun _ _ => nf_ok
          · split
            · refine nf_bind ?_ fun _ _ => nf_ok
              unfold closeM
              exact nf_bind (nf_name _) fun _ _ => nf_bind (nf_must _ _) fun _ _ => nf_ok
            · exact nf_bind (nf_open _) fun _ _ => nf_ok
theorem nf_go (l : List UInt8) : ∀ (f : Nat) (acc : List Tk) (r : List UInt8), NE (goM l f acc r)
  | 0, acc, r => by rw [goM]; exact nf_ok
  | f + 1, acc, r => by
    rw [goM]
    split
    · exact nf_ok
    · exact nf_bind (nf_piece _ _) fun t r1 => nf_go l f _ _
theorem nf_all {l : List UInt8} {e : Int} {r : List UInt8} (h : allM l = .bad e r) (he : E3 e) : r ≠ [] := by
  have : NE (allM l) := by
    unfold allM
    split
    · exact nf_no (by unfold E3; decide)
    · exact nf_go _ _ _ _
  exact this e r h he
/-! what is left is an end of what was there -/
theorem attr_left (ats : List At2) (r : List UInt8) : (attrM ats r).left <:+ r := by
  unfold attrM
  have h1 := name_left 10 r
  cases hN : nameM 10 r with
  | bad e s => rw [hN] at h1; exact h1
  | ok n r1 =>
    rw [hN] at h1
    show (ite _ _ _ : Rs At2).left <:+ r
    split
    · exact List.suffix_refl _
    · refine (bind_left (must_left 61 _) fun _ r2 _ => ?_).trans ((blanks_left r1).trans h1)
      have hb := blanks_left r2
      split
      · exact List.nil_suffix
      · next q r3 heq =>
        rw [heq] at hb
        split
        · exact (bind_left (let_left _ _ _ _ _) fun v r4 _ => show (Rs.ok (n, v) (r4.drop 1) : Rs At2).left <:+ r4 from List.drop_suffix 1 r4).trans ((List.suffix_cons q r3).trans hb)
        · exact hb
theorem attrs_left : ∀ (f : Nat) (ats : List At2) (r : List UInt8), (attrsM f ats r).left <:+ r
  | 0, ats, r => by rw [attrsM]; exact List.suffix_refl _
  | f + 1, ats, r => by
    rw [attrsM]
    have hb := blanks_left r
    split
    · exact List.suffix_refl _
    · split
      · exact List.nil_suffix
      · next c r1 heq =>
        rw [heq] at hb
        split
        · exact hb
        · exact (bind_left (attr_left _ _) fun _ _ _ => attrs_left f _ _).trans hb
theorem end_left (n : List UInt8) (ats : List At2) (r : List UInt8) : (endM n ats r).left <:+ r := by
  unfold endM
  split
  · exact List.suffix_refl _
  · next c r3 =>
    split
    · exact (bind_left (must_left 62 _) fun _ _ _ => List.suffix_refl _).trans (List.suffix_cons c r3)
    · exact bind_left (must_left 62 _) fun _ _ _ => List.suffix_refl _
theorem open_left (r : List UInt8) : (openM r).left <:+ r := by
  rw [openM_eq]
  exact bind_left (name_left 11 r) fun n r1 _ => bind_left (attrs_left _ _ _) fun ats r2 _ => end_left _ _ _
theorem close_left (r : List UInt8) : (closeM r).left <:+ r := by
  unfold closeM
  exact bind_left (name_left 11 r) fun n r1 _ => (bind_left (must_left 62 _) fun _ _ _ => List.suffix_refl _).trans (blanks_left r1)
theorem piece_left (o : Nat) (r : List UInt8) : (pieceM o r).left <:+ r := by
  unfold pieceM
  split
  · exact List.suffix_refl _
  · next c r1 =>
    split
    · exact bind_left (let_left _ _ _ _ _) fun _ _ _ => List.suffix_refl _
    · split
      · exact (bind_left (bet_left _ _ _) fun _ _ _ => List.suffix_refl _).trans (List.drop_suffix _ _)
      · split
        · exact (bind_left (bet_left _ _ _) fun _ _ _ => List.suffix_refl _).trans (List.drop_suffix _ _)
        · split
          · exact (bind_left (bet_left _ _ _) fun _ _ _ => List.suffix_refl _).trans (List.drop_suffix _ _)
          · split
            · exact (bind_left (close_left _) fun _ _ _ => List.suffix_refl _).trans (List.drop_suffix _ _)
            · exact (bind_left (open_left _) fun _ _ _ => List.suffix_refl _).trans (List.suffix_cons c r1)
theorem go_left (l : List UInt8) : ∀ (f : Nat) (acc : List Tk) (r : List UInt8), (goM l f acc r).left <:+ r
  | 0, acc, r => by rw [goM]; exact List.suffix_refl _
  | f + 1, acc, r => by
    rw [goM]
    split
    · next h => rw [h]; exact List.suffix_refl _
    · exact bind_left (piece_left _ _) fun t r1 _ => go_left l f _ _
/-! references are of their own bytes alone -/
theorem get_take {l l' : List UInt8} {n i : Nat} (h : l'.take n = l.take n) (hi : i < n) : l'[i]? = l[i]? := by
  have := congrArg (fun z => z[i]?) h
  simpa [List.getElem?_take, hi] using this
theorem pre_take {p l l' : List UInt8} {n : Nat} (h : l'.take n = l.take n) (hp : p.length ≤ n) : p.isPrefixOf l' = p.isPrefixOf l := by
  rw [Bool.eq_iff_iff, List.isPrefixOf_iff_prefix, List.isPrefixOf_iff_prefix, List.prefix_iff_eq_take, List.prefix_iff_eq_take]
  have : l'.take p.length = l.take p.length := by
    have := congrArg (fun z => z.take p.length) h
    simpa [List.take_take, Nat.min_eq_left hp] using this
  rw [this]
theorem num_local {b : Int} {l l' : List UInt8} {f n : Nat} {x : ByteArray} (h : numS b l f = (x, n, 0)) (hf : f ≤ l.length) (ht : l'.take n = l.take n) : numS b l' f = (x, n, 0) := by
  unfold numS finS at h
  generalize hj : min (digs b (l.drop f)).length 8 = j at h
  split at h
  · simp at h
  · next h1 =>
    split at h
    · simp at h
    · next h2 =>
      split at h
      · next h3 =>
        simp only [Prod.mk.injEq, and_true] at h
        obtain ⟨hx, hn⟩ := h
        have h59 : l[f + j]? = some 59 := by
          cases hq : l[f + j]? with
          | none => exact absurd (.inr (by rw [hq]; simp)) h2
          | some c =>
            by_cases hc : c = 59
            · rw [hc]
            · exact absurd (.inr (by rw [hq]; simpa using hc)) h2
        have hj0 : 0 < j := by
          rcases Nat.eq_zero_or_pos j with h | h
          · exact absurd (.inl h) h2
          · exact h
        have hall : AllDig b l f (f + j) := by
          intro i c h4 h5 h6
          have h7 : (l.drop f)[i - f]? = some c := by rw [List.getElem?_drop, show f + (i - f) = i by omega]; exact h6
          exact tw_all (fun c => (dval b c).isSome) (l.drop f) (i - f) c (by have : j ≤ (digs b (l.drop f)).length := by omega
                                                                             unfold digs at this; omega) h7
        have hall' : AllDig b l' f (f + j) := fun i c h4 h5 h6 => hall i c h4 h5 (by rw [← get_take ht (i := i) (by omega)]; exact h6)
        have h59' : l'[f + j]? = some 59 := by rw [get_take ht (by omega)]; exact h59
        have hdt : (l'.drop f).take j = (l.drop f).take j := by
          have e1 := congrArg (fun z => (z.drop f).take j) ht
          simp only [List.drop_take, List.take_take] at e1
          rwa [Nat.min_eq_left (by omega)] at e1
        have hl' := (List.getElem?_eq_some_iff.1 h59').1
        have := num_fin (b := b) (l := l') (f := f) (k := f + j) (by omega) (by omega) hall' (by omega) (.inr (.inr ⟨59, h59', dval_59⟩))
        rw [this, fin_some (by omega) h59' (by rw [show f + j - f = j by omega, hdt]; exact h3), show f + j - f = j by omega, hdt, ← hx, ← hn]
      · simp at h
theorem refS_local {l l' : List UInt8} {n : Nat} {x : ByteArray} (h : refS l = (x, n, 0)) (ht : l'.take n = l.take n) : refS l' = (x, n, 0) := by
  have h0 := h
  unfold refS at h
  split at h
  · next h1 =>
    have hn : 3 ≤ n := by
      unfold numS finS at h
      split at h
      · simp at h
      · split at h
        · simp at h
        · split at h
          · simp only [Prod.mk.injEq, and_true] at h; omega
          · simp at h
    unfold refS
    rw [if_pos (by rw [pre_take ht (by simpa using hn)]; exact h1)]
    exact num_local h (List.isPrefixOf_iff_prefix.1 h1).length_le ht
  · next h1 =>
    split at h
    · next h2 =>
      have hn : 4 ≤ n := by
        unfold numS finS at h
        split at h
        · simp at h
        · split at h
          · simp at h
          · next h9 =>
            split at h
            · simp only [Prod.mk.injEq, and_true] at h
              have : min (digs 10 (l.drop 2)).length 8 ≠ 0 := fun e => h9 (.inl e)
              omega
            · simp at h
      unfold refS
      rw [if_neg (by rw [pre_take ht (by simp; omega)]; exact h1), if_pos (by rw [pre_take ht (by simp; omega)]; exact h2)]
      exact num_local h (List.isPrefixOf_iff_prefix.1 h2).length_le ht
    · split at h
      · next w hw =>
        simp only [Prod.mk.injEq, and_true] at h
        obtain ⟨hx, hn⟩ := h
        have h3 := List.find?_some hw
        have h4 := List.mem_of_find?_eq_some hw
        have h5 : w.1.isPrefixOf l' = true := by rw [pre_take ht (by omega)]; exact h3
        rw [← hx, ← hn]
        simp only [words, List.mem_cons, List.not_mem_nil, or_false] at h4
        rcases h4 with rfl | rfl | rfl | rfl | rfl
        · exact refS_word0 h5
        · exact refS_word1 h5
        · exact refS_word2 h5
        · exact refS_word3 h5
        · exact refS_word4 h5
      · split at h <;> simp at h
end Go.Proofs.Ytldgjiohigiioaa
