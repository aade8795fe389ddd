/-
  Layer 2: each token takes at least one byte. Own work.
-/
import Derived.Test.YtpbkidmdfibaoaaGreatDoorTok2
namespace Go.Proofs.YtpbkidmdfibaoaaGreatDoor
set_option linter.unusedVariables false
set_option linter.unusedSimpArgs false
open Go.RowKit

theorem attrs_len : ∀ (f : Nat) {ats : List At2} {r : List UInt8} {a : List At2} {r2 : List UInt8}, attrsM f ats r = .ok a r2 → r2.length ≤ r.length
  | 0, ats, r, a, r2, h => by rw [attrsM] at h; cases h; exact Nat.le_refl _
  | f + 1, ats, r, a, r2, h => by
    rw [attrsM] at h
    have hb := blanks_len r
    split at h
    · cases h; exact Nat.le_refl _
    · split at h
      · simp at h
      · next c r1 heq =>
        rw [heq] at hb
        split at h
        · cases h; exact hb
        · obtain ⟨p, r3, h1, h⟩ := bind_ok h
          have := attr_len h1
          have := attrs_len f h
          omega
theorem end_len {n : List UInt8} {ats : List At2} {r r2 : List UInt8} {x : _} (h : endM n ats r = .ok x r2) : r2.length ≤ r.length := by
  unfold endM at h
  split at h
  · simp at h
  · split at h
    · obtain ⟨u, r4, h1, h⟩ := bind_ok h
      have := ok_len h1 (must_left 62 _)
      cases h
      simp only [List.length_cons]; omega
    · obtain ⟨u, r4, h1, h⟩ := bind_ok h
      have := ok_len h1 (must_left 62 _)
      cases h
      exact this
theorem open_len {r r2 : List UInt8} {x : _} (h : openM r = .ok x r2) : r2.length ≤ r.length := by
  rw [openM_eq] at h
  obtain ⟨n, r1, h1, h⟩ := bind_ok h
  have l1 := ok_len h1 (name_left 11 r)
  obtain ⟨ats, r3, h3, h⟩ := bind_ok h
  have l3 := attrs_len _ h3
  have l4 := end_len h
  omega
theorem close_len {r r2 : List UInt8} {x : _} (h : closeM r = .ok x r2) : r2.length ≤ r.length := by
  unfold closeM at h
  obtain ⟨n, r1, h1, h⟩ := bind_ok h
  have l1 := ok_len h1 (name_left 11 r)
  obtain ⟨u, r3, h3, h⟩ := bind_ok h
  have l3 := ok_len h3 (must_left 62 _)
  have l4 := blanks_len r1
  cases h
  omega
theorem let_len {stop c : UInt8} {opn : Bool} {f : Nat} {acc r v r2 : List UInt8} (hc : c ≠ stop) (h : letM stop opn (f + 1) acc (c :: r) = .ok v r2) : r2.length ≤ r.length := by
  by_cases h38 : c = 38
  · obtain ⟨⟨x, n, y⟩, hxy⟩ : ∃ z, refS (c :: r) = z := ⟨_, rfl⟩
    rw [let_ref hc h38 hxy] at h
    split at h
    · next hy =>
      subst hy
      have hs := refS_small hxy
      have := ok_len h (let_left _ _ _ _ _)
      rw [List.length_drop, List.length_cons] at this
      omega
    · simp at h
  · rw [letM, if_neg hc, if_neg h38] at h
    split at h
    · simp at h
    · exact ok_len h (let_left _ _ _ _ _)
theorem piece_len {o : Nat} {c : UInt8} {r1 r2 : List UInt8} {x : Tk} (h : pieceM o (c :: r1) = .ok x r2) : r2.length ≤ r1.length := by
  rw [pieceM] at h
  split at h
  · next hc =>
    obtain ⟨t, r3, h1, h⟩ := bind_ok h
    cases h
    exact let_len hc h1
  · split at h
    · obtain ⟨t, r3, h1, h⟩ := bind_ok h
      cases h
      have := ok_len h1 (bet_left _ _ _)
      simp only [List.length_drop, List.length_cons] at this
      omega
    · split at h
      · obtain ⟨t, r3, h1, h⟩ := bind_ok h
        cases h
        have := ok_len h1 (bet_left _ _ _)
        simp only [List.length_drop, List.length_cons] at this
        omega
      · split at h
        · obtain ⟨t, r3, h1, h⟩ := bind_ok h
          cases h
          have := ok_len h1 (bet_left _ _ _)
          simp only [List.length_drop, List.length_cons] at this
          omega
        · split at h
          · obtain ⟨t, r3, h1, h⟩ := bind_ok h
            cases h
            have := close_len h1
            simp only [List.length_drop, List.length_cons] at this
            omega
          · obtain ⟨t, r3, h1, h⟩ := bind_ok h
            cases h
            exact open_len h1
end Go.Proofs.YtpbkidmdfibaoaaGreatDoor
