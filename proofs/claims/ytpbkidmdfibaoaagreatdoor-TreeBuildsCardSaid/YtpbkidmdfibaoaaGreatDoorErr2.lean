/-
  Layer 2: an error is never 0. Own work.
-/
import Derived.Test.YtpbkidmdfibaoaaGreatDoorRise2
namespace Go.Proofs.YtpbkidmdfibaoaaGreatDoor
set_option linter.unusedVariables false
set_option linter.unusedSimpArgs false
open Go.RowKit

def Ne0 {α : Type} (x : Rs α) : Prop := ∀ e r, x = .bad e r → e ≠ 0
theorem ne_ok {α : Type} {a : α} {r : List UInt8} : Ne0 (.ok a r) := fun e r' h => by simp at h
theorem ne_bad {α : Type} {c : Int} {r : List UInt8} (hc : c ≠ 0) : Ne0 (.bad c r : Rs α) := fun e r' h => by cases h; exact hc
theorem ne_bind {α β : Type} {x : Rs α} {f : α → List UInt8 → Rs β} (h : Ne0 x) (hf : ∀ a r, Ne0 (f a r)) : Ne0 (x.bind f) := by
  cases x with
  | ok a r => exact hf a r
  | bad e r => intro e' r' h'; cases h'; exact h e r rfl
theorem ne_must (c : UInt8) (r : List UInt8) : Ne0 (mustM c r) := by
  unfold mustM
  split
  · exact ne_bad (by decide)
  · split
    · exact ne_ok
    · exact ne_bad (by decide)
theorem ne_bet (b : List UInt8) : ∀ (r acc : List UInt8), Ne0 (betM b acc r)
  | [], acc => by unfold betM; split; exact ne_ok; exact ne_bad (by decide)
  | c :: r, acc => by
    unfold betM
    split
    · exact ne_ok
    · split
      · exact ne_bet b r _
      · exact ne_bad (by decide)
theorem errno_ne {l : List UInt8} {x : ByteArray} {n y : Nat} (h : refS l = (x, n, y)) (hy : y ≠ 0) : errno y ≠ 0 := by
  rcases refS_bad h with h | rfl | rfl
  · exact absurd h hy
  · decide
  · decide
theorem ne_let (stop : UInt8) (opn : Bool) : ∀ (f : Nat) (acc r : List UInt8), Ne0 (letM stop opn f acc r)
  | 0, acc, r => by unfold letM; exact ne_ok
  | f + 1, acc, [] => by unfold letM; split; exact ne_ok; exact ne_bad (by decide)
  | f + 1, acc, c :: r => by
    by_cases hc : c = stop
    · rw [letM, if_pos hc]; exact ne_ok
    · by_cases h38 : c = 38
      · obtain ⟨⟨x, n, y⟩, hxy⟩ : ∃ z, refS (c :: r) = z := ⟨_, rfl⟩
        rw [let_ref hc h38 hxy]
        split
        · exact ne_let stop opn f _ _
        · next hy => exact ne_bad (errno_ne hxy hy)
      · rw [letM, if_neg hc, if_neg h38]
        split
        · exact ne_bad (by decide)
        · exact ne_let stop opn f _ _
theorem ne_name {e : Int} (he : e ≠ 0) (r : List UInt8) : Ne0 (nameM e r) := by
  unfold nameM
  split
  · exact ne_bad (by decide)
  · split
    · exact ne_bad he
    · exact ne_ok
theorem ne_attr (ats : List At2) (r : List UInt8) : Ne0 (attrM ats r) := by
  unfold attrM
  refine ne_bind (ne_name (by decide) r) fun n r1 => ?_
  split
  · exact ne_bad (by decide)
  · refine ne_bind (ne_must _ _) fun _ r2 => ?_
    split
    · exact ne_bad (by decide)
    · split
      · exact ne_bind (ne_let _ _ _ _ _) fun _ _ => ne_ok
      · exact ne_bad (by decide)
theorem ne_attrs : ∀ (f : Nat) (ats : List At2) (r : List UInt8), Ne0 (attrsM f ats r)
  | 0, ats, r => by rw [attrsM]; exact ne_ok
  | f + 1, ats, r => by
    rw [attrsM]
    split
    · exact ne_ok
    · split
      · exact ne_bad (by decide)
      · split
        · exact ne_ok
        · exact ne_bind (ne_attr _ _) fun a r2 => ne_attrs f _ _
theorem ne_open (r : List UInt8) : Ne0 (openM r) := by
  rw [openM_eq]
  refine ne_bind (ne_name (by decide) r) fun n r1 => ne_bind (ne_attrs _ _ _) fun ats r2 => ?_
  unfold endM
  split
  · exact ne_bad (by decide)
  · split <;> exact ne_bind (ne_must _ _) fun _ _ => ne_ok
theorem ne_piece (o : Nat) (r : List UInt8) : Ne0 (pieceM o r) := by
  unfold pieceM
  split
  · exact ne_bad (by decide)
  · split
    · exact ne_bind (ne_let _ _ _ _ _) fun _ _ => ne_ok
    · split
      · exact ne_bind (ne_bet _ _ _) fun _ _ => ne_ok
      · split
        · exact ne_bind (ne_bet _ _ _) fun _ _ => ne_ok
        · split
          · exact ne_bind (ne_bet _ _ _) fun _ _ => ne_ok
          · split
            · refine ne_bind ?_ fun _ _ => ne_ok
              unfold closeM
              exact ne_bind (ne_name (by decide) _) fun _ _ => ne_bind (ne_must _ _) fun _ _ => ne_ok
            · exact ne_bind (ne_open _) fun _ _ => ne_ok
theorem ne_go (l : List UInt8) : ∀ (f : Nat) (acc : List Tk) (r : List UInt8), Ne0 (goM l f acc r)
  | 0, acc, r => by rw [goM]; exact ne_ok
  | f + 1, acc, r => by
    rw [goM]
    split
    · exact ne_ok
    · exact ne_bind (ne_piece _ _) fun t r1 => ne_go l f _ _
theorem all_ne {l : List UInt8} {c : Int} {r : List UInt8} (h : allM l = .bad c r) : c ≠ 0 := by
  have : Ne0 (allM l) := by
    unfold allM
    split
    · exact ne_bad (by decide)
    · exact ne_go _ _ _ _
  exact this c r h
end Go.Proofs.YtpbkidmdfibaoaaGreatDoor
