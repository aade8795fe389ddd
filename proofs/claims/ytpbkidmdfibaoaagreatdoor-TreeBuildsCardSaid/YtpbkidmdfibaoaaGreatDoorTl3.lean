/-
  Layer 3: how long the texts of tokens are; blanks. Own work.
-/
import Derived.Test.YtpbkidmdfibaoaaGreatDoorRise2
import Derived.Test.YtpbkidmdfibaoaaGreatDoorTr3
import Derived.Test.YtpbkidmdfibaoaaGreatDoorTrim1
namespace Go.Proofs.YtpbkidmdfibaoaaGreatDoor
set_option linter.unusedVariables false
set_option linter.unusedSimpArgs false
open Go.RowKit

theorem let_tl {stop : UInt8} {opn : Bool} : ∀ (f : Nat) {acc r v s : List UInt8}, letM stop opn f acc r = .ok v s → v.length + 4 * s.length ≤ acc.length + 4 * r.length
  | 0, acc, r, v, s, h => by
    rw [letM] at h; cases h; exact Nat.le_refl _
  | f + 1, acc, [], v, s, h => by
    rw [letM] at h
    split at h
    · cases h; exact Nat.le_refl _
    · cases h
  | f + 1, acc, c :: r, v, s, h => by
    by_cases hc : c = stop
    · rw [letM, if_pos hc] at h; cases h; exact Nat.le_refl _
    · by_cases h38 : c = 38
      · obtain ⟨⟨x, n, y⟩, hxy⟩ : ∃ z, refS (c :: r) = z := ⟨_, rfl⟩
        rw [let_ref hc h38 hxy] at h
        split at h
        · next hy =>
          subst hy
          have hs := refS_small hxy
          have := let_tl f h
          rw [List.length_append, List.length_drop] at this
          have hx : x.data.toList.length = x.size := by simp
          rw [hx] at this
          simp only [List.length_cons] at this hs ⊢
          omega
        · cases h
      · rw [letM, if_neg hc, if_neg h38] at h
        split at h
        · cases h
        · have := let_tl f h
          rw [List.length_append] at this
          simp only [List.length_cons, List.length_nil] at this ⊢
          omega
theorem bet_tl {back : List UInt8} : ∀ (r acc : List UInt8) {v s : List UInt8}, betM back acc r = .ok v s → v.length + s.length ≤ acc.length + r.length
  | [], acc, v, s, h => by
    unfold betM at h
    split at h
    · cases h; simp
    · cases h
  | c :: r, acc, v, s, h => by
    unfold betM at h
    split at h
    · cases h
      rw [List.length_drop]; omega
    · split at h
      · have := bet_tl r _ h
        rw [List.length_append] at this
        simp only [List.length_cons, List.length_nil] at this ⊢
        omega
      · cases h
theorem bind_ok3 {α β : Type} {x : Rs α} {f : α → List UInt8 → Rs β} {b : β} {s : List UInt8} (h : x.bind f = .ok b s) : ∃ a r, x = .ok a r ∧ f a r = .ok b s := by
  cases x with
  | ok a r => exact ⟨a, r, rfl, h⟩
  | bad e r => cases h
theorem piece_tl {o : Nat} {r s : List UInt8} {x : Tk} (h : pieceM o r = .ok x s) (hs : s.length ≤ r.length) : x.t.length + 4 * s.length ≤ 4 * r.length := by
  cases r with
  | nil => cases h
  | cons c r =>
    rw [pieceM] at h
    split at h
    · obtain ⟨t, r2, h1, h2⟩ := bind_ok3 h
      cases h2
      have := let_tl _ h1
      simpa using this
    · split at h
      · obtain ⟨t, r2, h1, h2⟩ := bind_ok3 h
        cases h2
        have := bet_tl _ _ h1
        rw [List.length_drop] at this
        simp only [List.length_nil] at this
        show t.length + _ ≤ _
        omega
      · split at h
        · obtain ⟨t, r2, h1, h2⟩ := bind_ok3 h
          cases h2
          have := bet_tl _ _ h1
          rw [List.length_drop] at this
          simp only [List.length_nil] at this
          show t.length + _ ≤ _
          omega
        · split at h
          · obtain ⟨t, r2, h1, h2⟩ := bind_ok3 h
            cases h2
            have := bet_tl _ _ h1
            rw [List.length_drop] at this
            simp only [List.length_nil] at this
            show t.length + _ ≤ _
            omega
          · split at h
            · obtain ⟨t, r2, h1, h2⟩ := bind_ok3 h
              cases h2
              show 0 + _ ≤ _
              omega
            · obtain ⟨t, r2, h1, h2⟩ := bind_ok3 h
              cases h2
              show 0 + _ ≤ _
              omega
theorem chain_tl {l : List UInt8} : ∀ (ts : List Tk) {r : List UInt8}, Chain l r ts → (ts.map fun x => x.t.length).sum ≤ 4 * r.length
  | [], r, _ => by simp
  | t :: ts, r, ⟨c, r1, r2, hr, hp, hc⟩ => by
    have h2 : r2.length < r.length := by
      subst hr
      have := piece_len hp
      simp; omega
    have := piece_tl hp (by omega)
    have := chain_tl ts hc
    simp only [List.map_cons, List.sum_cons]
    omega
theorem all_tl {l : List UInt8} {ts : List Tk} {r : List UInt8} (h : allM l = .ok ts r) : (ts.map fun x => x.t.length).sum ≤ 4 * l.length := chain_tl ts (all_chain h)
/-- a text of blanks alone is nothing when it is trimmed -/
theorem trim_nil (s : List UInt8) : ((Lib.trimF blankN (str s)).toList == []) = s.all bl := by
  have hb : ∀ (i : Nat) c, s[i]? = some c → blankAt (str s) i = bl c := fun i c hi => by
    have hlt : i < (str s).size := by rw [size_str]; exact (List.getElem?_eq_some_iff.1 hi).1
    have h1 := bt_list (str s) i hlt
    rw [toList_str, hi] at h1
    simp only [Option.some.injEq] at h1
    unfold blankAt bt
    rw [← h1, blank_is]
    rfl
  rw [Bool.eq_iff_iff, List.all_eq_true, beq_iff_eq, ByteArray.toList_eq]
  rcases trimF_is (str s) with ⟨F, T, h1, h2, h3, _, h5, _⟩ | ⟨h1, h2⟩
  · rw [size_str] at h2
    constructor
    · intro h
      have := congrArg List.length h
      rw [h3, ext_str, toList_str] at this
      simp [toList_str] at this
      omega
    · intro h
      obtain ⟨c, hc⟩ : ∃ c, s[F]? = some c := ⟨_, List.getElem?_eq_getElem (by omega)⟩
      rw [hb F c hc, h c (List.mem_of_getElem? hc)] at h5
      cases h5
  · rw [h1]
    refine ⟨fun _ c hc => ?_, fun _ => rfl⟩
    obtain ⟨i, hi⟩ := List.getElem?_of_mem hc
    rw [← hb i c hi]
    exact h2 i (by rw [size_str]; exact (List.getElem?_eq_some_iff.1 hi).1)
end Go.Proofs.YtpbkidmdfibaoaaGreatDoor
