/-
  Layer 2: where the tokens of a text begin, on lists. Own work.
-/
import Derived.Test.YtpbkidmdfibaoaaGreatDoorLen2
namespace Go.Proofs.YtpbkidmdfibaoaaGreatDoor
set_option linter.unusedVariables false
set_option linter.unusedSimpArgs false
open Go.RowKit

theorem ok_suf {α : Type} {x : Rs α} {a : α} {r r1 : List UInt8} (h : x = .ok a r1) (hl : x.left <:+ r) : r1 <:+ r := by
  rw [h] at hl
  exact hl
theorem attr_suf {ats : List At2} {r : List UInt8} {a : At2} {r2 : List UInt8} (h : attrM ats r = .ok a r2) : r2 <:+ r := by
  unfold attrM at h
  obtain ⟨n, r1, h1, h⟩ := bind_ok h
  have l1 := ok_suf h1 (name_left 10 r)
  split at h
  · simp at h
  · obtain ⟨u, r3, h3, h⟩ := bind_ok h
    have l3 := (ok_suf h3 (must_left 61 _)).trans ((blanks_left r1).trans l1)
    have l5 := blanks_left r3
    split at h
    · simp at h
    · next q r4 hb =>
      rw [hb] at l5
      split at h
      · obtain ⟨v, r5, h5, h⟩ := bind_ok h
        have l6 := ok_suf h5 (let_left _ _ _ _ _)
        cases h
        exact (List.drop_suffix _ _).trans (l6.trans ((List.suffix_cons q r4).trans (l5.trans l3)))
      · simp at h
theorem attrs_suf : ∀ (f : Nat) {ats : List At2} {r : List UInt8} {a : List At2} {r2 : List UInt8}, attrsM f ats r = .ok a r2 → r2 <:+ r
  | 0, ats, r, a, r2, h => by rw [attrsM] at h; cases h; exact List.suffix_refl _
  | f + 1, ats, r, a, r2, h => by
    rw [attrsM] at h
    have hb := blanks_left r
    split at h
    · cases h; exact List.suffix_refl _
    · split at h
      · simp at h
      · next c r1 heq =>
        rw [heq] at hb
        split at h
        · cases h; exact hb
        · obtain ⟨p, r3, h1, h⟩ := bind_ok h
          exact (attrs_suf f h).trans ((attr_suf h1).trans hb)
theorem end_suf {n : List UInt8} {ats : List At2} {r r2 : List UInt8} {x : Int × List UInt8 × List At2} (h : endM n ats r = .ok x r2) : r2 <:+ r ∧ (x.1 = 1 ∨ x.1 = 2) := by
  unfold endM at h
  split at h
  · simp at h
  · split at h
    · obtain ⟨u, r4, h1, h⟩ := bind_ok h
      have := ok_suf h1 (must_left 62 _)
      cases h
      exact ⟨this.trans (List.suffix_cons _ _), .inr rfl⟩
    · obtain ⟨u, r4, h1, h⟩ := bind_ok h
      have := ok_suf h1 (must_left 62 _)
      cases h
      exact ⟨this, .inl rfl⟩
theorem open_suf {r r2 : List UInt8} {x : Int × List UInt8 × List At2} (h : openM r = .ok x r2) : r2 <:+ r ∧ (x.1 = 1 ∨ x.1 = 2) := by
  rw [openM_eq] at h
  obtain ⟨n, r1, h1, h⟩ := bind_ok h
  have l1 := ok_suf h1 (name_left 11 r)
  obtain ⟨ats, r3, h3, h⟩ := bind_ok h
  have l4 := end_suf h
  exact ⟨l4.1.trans ((attrs_suf _ h3).trans l1), l4.2⟩
theorem close_suf {r r2 : List UInt8} {x : List UInt8} (h : closeM r = .ok x r2) : r2 <:+ r := by
  unfold closeM at h
  obtain ⟨n, r1, h1, h⟩ := bind_ok h
  have l1 := ok_suf h1 (name_left 11 r)
  obtain ⟨u, r3, h3, h⟩ := bind_ok h
  have l3 := ok_suf h3 (must_left 62 _)
  cases h
  exact l3.trans ((blanks_left r1).trans l1)
theorem note_cd {r : List UInt8} (h : noteF.isPrefixOf r = true) : cdF.isPrefixOf r = false := by
  match r, h with
  | [], h => rfl
  | [a], h => simp [noteF, List.isPrefixOf] at h
  | [a, b], h => simp [noteF, List.isPrefixOf] at h
  | a :: b :: c :: r, h =>
    simp only [noteF, List.isPrefixOf, Bool.and_eq_true, beq_iff_eq] at h
    simp only [cdF, List.isPrefixOf]
    rw [show ((91 : UInt8) == c) = false by rw [← h.2.2.1]; rfl]
    simp
/-- what a token is, seen from where it begins -/
theorem piece_is {o : Nat} {c : UInt8} {r1 r2 : List UInt8} {x : Tk} (h : pieceM o (c :: r1) = .ok x r2) : r2 <:+ r1 ∧ ((x.k == 4) = ((c != 60) || cdF.isPrefixOf (c :: r1))) := by
  have hlen := piece_len h
  have hs : r2 <:+ c :: r1 → r2 <:+ r1 := fun h => by
    obtain ⟨q, hq⟩ := h
    cases q with
    | nil => simp at hq; subst hq; simp at hlen; omega
    | cons d q => simp only [List.cons_append, List.cons.injEq] at hq; exact ⟨q, hq.2⟩
  rw [pieceM] at h
  split at h
  · next hc =>
    obtain ⟨t, r3, h1, h⟩ := bind_ok h
    cases h
    refine ⟨hs (ok_suf h1 (let_left _ _ _ _ _)), ?_⟩
    rw [show (c != 60) = true by simpa using hc]; rfl
  · next hc =>
    have hc : c = 60 := by simpa using hc
    subst hc
    split at h
    · next hn =>
      obtain ⟨t, r3, h1, h⟩ := bind_ok h
      cases h
      exact ⟨hs ((ok_suf h1 (bet_left _ _ _)).trans (List.drop_suffix _ _)), by rw [note_cd hn]; rfl⟩
    · split at h
      · next hn =>
        obtain ⟨t, r3, h1, h⟩ := bind_ok h
        cases h
        exact ⟨hs ((ok_suf h1 (bet_left _ _ _)).trans (List.drop_suffix _ _)), by rw [hn]; rfl⟩
      · next hn =>
        have hn : cdF.isPrefixOf (60 :: r1) = false := Bool.eq_false_iff.2 hn
        rw [hn]
        split at h
        · obtain ⟨t, r3, h1, h⟩ := bind_ok h
          cases h
          exact ⟨hs ((ok_suf h1 (bet_left _ _ _)).trans (List.drop_suffix _ _)), rfl⟩
        · split at h
          · obtain ⟨t, r3, h1, h⟩ := bind_ok h
            cases h
            exact ⟨hs ((close_suf h1).trans (List.drop_suffix _ _)), rfl⟩
          · obtain ⟨t, r3, h1, h⟩ := bind_ok h
            cases h
            have ho := open_suf h1
            refine ⟨ho.1, ?_⟩
            rcases ho.2 with h | h <;> simp [h]
/-- the tokens of what is still to be read -/
def Chain (l : List UInt8) : List UInt8 → List Tk → Prop
  | r, [] => r = []
  | r, t :: ts => ∃ c r1 r2, r = c :: r1 ∧ pieceM (l.length - r.length) r = .ok t r2 ∧ Chain l r2 ts
theorem go_chain {l : List UInt8} : ∀ (f : Nat) {acc : List Tk} {r : List UInt8} {ts : List Tk} {r2 : List UInt8}, goM l f acc r = .ok ts r2 → r.length < f → ∃ more, ts = acc ++ more ∧ Chain l r more
  | 0, acc, r, ts, r2, _, h => by omega
  | f + 1, acc, r, ts, r2, h, hf => by
    rw [goM] at h
    split at h
    · next hr => cases h; exact ⟨[], by simp, hr⟩
    · next hr =>
      cases r with
      | nil => exact absurd rfl hr
      | cons c r1 =>
        obtain ⟨t, r3, h1, h⟩ := bind_ok h
        have := piece_len h1
        obtain ⟨more, hm, hc⟩ := go_chain f h (by simp only [List.length_cons] at hf; omega)
        exact ⟨t :: more, by rw [hm]; simp, c, r1, r3, rfl, h1, hc⟩
theorem all_chain {l : List UInt8} {ts : List Tk} {r : List UInt8} (h : allM l = .ok ts r) : Chain l l ts := by
  unfold allM at h
  split at h
  · simp at h
  · obtain ⟨more, hm, hc⟩ := go_chain _ h (by omega)
    rw [hm]; simpa using hc
theorem chain_at {l : List UInt8} : ∀ {r : List UInt8} {ts : List Tk} {i : Nat} {t : Tk}, Chain l r ts → r <:+ l → ts[i]? = some t →
    ∃ c r1 r2, c :: r1 <:+ r ∧ pieceM (l.length - (r1.length + 1)) (c :: r1) = .ok t r2 ∧ t.o = l.length - (r1.length + 1) ∧ (i = 0 → c :: r1 = r) ∧ ∀ t', ts[i + 1]? = some t' → t'.o = l.length - r2.length
  | r, [], i, t, _, _, h => by simp at h
  | r, x :: ts, 0, t, ⟨c, r1, r2, hr, hp, hc⟩, hs, h => by
    simp only [List.getElem?_cons_zero, Option.some.injEq] at h
    subst h
    subst hr
    refine ⟨c, r1, r2, List.suffix_refl _, hp, piece_o hp, fun _ => rfl, fun t' ht' => ?_⟩
    cases ts with
    | nil => simp at ht'
    | cons y ts =>
      simp only [Nat.zero_add, List.getElem?_cons_succ, List.getElem?_cons_zero, Option.some.injEq] at ht'
      subst ht'
      obtain ⟨c', r1', r2', hr', hp', _⟩ := hc
      exact piece_o hp'
  | r, x :: ts, i + 1, t, ⟨c, r1, r2, hr, hp, hc⟩, hs, h => by
    subst hr
    have h2 := (piece_is hp).1
    obtain ⟨d, r3, r4, h3, h4, h5, _, h7⟩ := chain_at hc (h2.trans ((List.suffix_cons c r1).trans hs)) (by simpa using h)
    exact ⟨d, r3, r4, h3.trans (h2.trans (List.suffix_cons c r1)), h4, h5, fun h => by omega, fun t' ht' => h7 t' (by simpa using ht')⟩
/-- all that the law asks of a token's place -/
theorem rise_at {l : List UInt8} {ts : List Tk} {r : List UInt8} {i : Nat} {t : Tk} (h : allM l = .ok ts r) (ht : ts[i]? = some t) :
    t.o < l.length ∧ (i = 0 → t.o = 0) ∧ (∀ j t', j + 1 = i → ts[j]? = some t' → t'.o < t.o) ∧ ∃ c, l[t.o]? = some c ∧ ((t.k == 4) = ((c != 60) || cdF.isPrefixOf (l.drop t.o))) := by
  have hc := all_chain h
  obtain ⟨c, r1, r2, h1, h2, h3, h4, _⟩ := chain_at hc (List.suffix_refl _) ht
  have hl := h1.length_le
  simp only [List.length_cons] at hl
  refine ⟨by omega, fun hi => ?_, fun j t' hj ht' => ?_, c, by rw [h3]; exact suf_at h1, ?_⟩
  · have := h4 hi
    rw [h3, ← this]; simp
  · obtain ⟨c', r1', r2', g1, g2, g3, _, g5⟩ := chain_at hc (List.suffix_refl _) ht'
    have e := g5 t (by rw [hj]; exact ht)
    have hl' := g1.length_le
    simp only [List.length_cons] at hl'
    have := piece_len g2
    omega
  · rw [(piece_is h2).2, h3]
    have := suf_drop h1
    simp only [List.length_cons] at this
    rw [this]
theorem chain_nil {l : List UInt8} {ts : List Tk} {r : List UInt8} (h : allM l = .ok ts r) : (ts = [] ↔ l = []) := by
  have hc := all_chain h
  cases ts with
  | nil => exact ⟨fun _ => hc, fun _ => rfl⟩
  | cons t ts =>
    obtain ⟨c, r1, _, hr, _⟩ := hc
    exact ⟨fun h => (by simp at h), fun h => (by rw [h] at hr; simp at hr)⟩
end Go.Proofs.YtpbkidmdfibaoaaGreatDoor
