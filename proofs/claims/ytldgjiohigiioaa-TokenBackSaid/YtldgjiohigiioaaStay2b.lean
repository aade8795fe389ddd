/-
  Layer 2: an error stays whatever stands behind its place, on lists: each method. Own work.
-/
import Derived.Test.YtldgjiohigiioaaStay2
namespace Go.Proofs.Ytldgjiohigiioaa
set_option linter.unusedVariables false
set_option linter.unusedSimpArgs false
open Go.RowKit

/-- the same ahead of the place of the error -/
def P2 (c : UInt8) (x y r r' : List UInt8) : Prop := ∃ p, r = p ++ c :: x ∧ r' = p ++ c :: y
/-- it goes the same way, up to there -/
def St {α : Type} (c : UInt8) (x y : List UInt8) (M M' : Rs α) : Prop :=
  (∀ a s, M = .ok a s → c :: x <:+ s → ∃ s', M' = .ok a s' ∧ P2 c x y s s') ∧ ∀ e, E3 e → M = .bad e (c :: x) → M' = .bad e (c :: y)
section
variable {α β : Type} {c : UInt8} {x y r r' : List UInt8} {M M' : Rs α}
theorem no_suf : ¬ (c :: x <:+ x) := fun h => by have := h.length_le; simp only [List.length_cons] at this; omega
theorem no_suf2 {z : List UInt8} (h : z <:+ x) : ¬ (c :: x <:+ z) := fun h2 => no_suf (h2.trans h)
theorem St.vac {z : List UInt8} (hl : M.left <:+ z) (hz : ¬ (c :: x <:+ z)) : St c x y M M' := by
  refine ⟨fun a s h hs => ?_, fun e _ h => ?_⟩
  · rw [h] at hl; exact absurd (hs.trans hl) hz
  · rw [h] at hl; exact absurd hl hz
theorem St.no {e : Int} {z : List UInt8} (he : ¬ E3 e) : St c x y (.bad e z) M' := ⟨fun a s h => by simp at h, fun e' he' h => by cases h; exact absurd he' he⟩
theorem St.ok {a : α} (h : P2 c x y r r') : St c x y (.ok a r) (.ok a r') := ⟨fun b s hb _ => by cases hb; exact ⟨r', rfl, h⟩, fun e _ h => by simp at h⟩
theorem St.bad {e : Int} : St c x y (.bad e (c :: x) : Rs α) (.bad e (c :: y)) := ⟨fun b s hb => by simp at hb, fun e' _ h => by cases h; rfl⟩
theorem St.other {e : Int} {z : List UInt8} (h : z ≠ c :: x) : St c x y (.bad e z) M' := ⟨fun b s hb => by simp at hb, fun e' _ he => by cases he; exact absurd rfl h⟩
theorem St.bind {f f' : α → List UInt8 → Rs β} (h : St c x y M M') (hf : ∀ a s s', M = .ok a s → P2 c x y s s' → St c x y (f a s) (f' a s')) (hl : ∀ a s, (f a s).left <:+ s) : St c x y (M.bind f) (M'.bind f') := by
  cases hM : M with
  | bad e z =>
    refine ⟨fun a s hb => by simp [Rs.bind] at hb, fun e' he' hb => ?_⟩
    have hb2 : (Rs.bad e z : Rs β) = .bad e' (c :: x) := hb
    cases hb2
    rw [h.2 e he' hM]; rfl
  | ok a s =>
    have hfl := hl a s
    refine ⟨fun b t hb ht => ?_, fun e he hb => ?_⟩
    · have hb2 : f a s = .ok b t := hb
      rw [hb2] at hfl
      obtain ⟨s', h1, h2⟩ := h.1 a s hM (ht.trans hfl)
      obtain ⟨t', h3, h4⟩ := (hf a s s' hM h2).1 b t hb2 ht
      exact ⟨t', by rw [h1]; exact h3, h4⟩
    · have hb2 : f a s = .bad e (c :: x) := hb
      rw [hb2] at hfl
      obtain ⟨s', h1, h2⟩ := h.1 a s hM hfl
      rw [h1]
      exact (hf a s s' hM h2).2 e he hb2
theorem P2.drop {k : Nat} (h : P2 c x y r r') (hs : c :: x <:+ r.drop k) : P2 c x y (r.drop k) (r'.drop k) ∧ r'.take k = r.take k := by
  obtain ⟨p, rfl, rfl⟩ := h
  have hk : k ≤ p.length := by
    have := hs.length_le
    rw [List.length_drop] at this
    simp at this
    omega
  refine ⟨⟨p.drop k, by rw [List.drop_append_of_le_length hk], by rw [List.drop_append_of_le_length hk]⟩, ?_⟩
  rw [List.take_append_of_le_length hk, List.take_append_of_le_length hk]
theorem st_must (d : UInt8) (h : P2 c x y r r') : St c x y (mustM d r) (mustM d r') := by
  obtain ⟨p, rfl, rfl⟩ := h
  cases p with
  | nil =>
    show St c x y (mustM d (c :: x)) (mustM d (c :: y))
    by_cases hd : c = d
    · rw [mustM, if_pos hd]
      exact St.vac (List.suffix_refl _) no_suf
    · rw [mustM, if_neg hd, mustM, if_neg hd]
      exact St.bad
  | cons e p =>
    show St c x y (mustM d (e :: (p ++ c :: x))) (mustM d (e :: (p ++ c :: y)))
    by_cases hd : e = d
    · rw [mustM, if_pos hd, mustM, if_pos hd]
      exact St.ok ⟨p, rfl, rfl⟩
    · rw [mustM, if_neg hd]
      exact St.other (fun he => by have := congrArg List.length he; simp at this; omega)
theorem st_blanks : ∀ (p : List UInt8), c :: x <:+ blanksM (p ++ c :: x) → P2 c x y (blanksM (p ++ c :: x)) (blanksM (p ++ c :: y))
  | [], h => by
    by_cases hb : bl c = true
    · have h2 : c :: x <:+ blanksM (c :: x) := h
      rw [blanks_yes hb] at h2
      exact absurd (h2.trans (blanks_left x)) no_suf
    · have hb := Bool.eq_false_iff.2 hb
      show P2 c x y (blanksM (c :: x)) (blanksM (c :: y))
      rw [blanks_no hb, blanks_no hb]
      exact ⟨[], rfl, rfl⟩
  | d :: p, h => by
    by_cases hb : bl d = true
    · have h2 : c :: x <:+ blanksM (d :: (p ++ c :: x)) := h
      show P2 c x y (blanksM (d :: (p ++ c :: x))) (blanksM (d :: (p ++ c :: y)))
      rw [blanks_yes hb] at h2 ⊢
      rw [blanks_yes hb]
      exact st_blanks p h2
    · have hb := Bool.eq_false_iff.2 hb
      show P2 c x y (blanksM (d :: (p ++ c :: x))) (blanksM (d :: (p ++ c :: y)))
      rw [blanks_no hb, blanks_no hb]
      exact ⟨d :: p, rfl, rfl⟩
theorem name_of {k : Nat} {l : List UInt8} (h0 : 1 ≤ k) (h1 : k < l.length) (hf : ∀ a, l[0]? = some a → isFirst (a.toNat : Int) = true) (hn : ∀ i a, 1 ≤ i → i < k → l[i]? = some a → isName (a.toNat : Int) = true) (hs : ∀ a, l[k]? = some a → isName (a.toNat : Int) = false) : nameL l = k := by
  refine name_one (nameL_is l) (.inr ⟨h0, by rw [size_str]; omega, ?_, fun i h2 h3 => ?_, .inr ?_⟩)
  · obtain ⟨a, ha⟩ : ∃ a, l[0]? = some a := ⟨_, List.getElem?_eq_getElem (by omega)⟩
    rw [bt_str ha]; exact hf a ha
  · obtain ⟨a, ha⟩ : ∃ a, l[i]? = some a := ⟨_, List.getElem?_eq_getElem (by omega)⟩
    rw [bt_str ha]; exact hn i a h2 h3 ha
  · obtain ⟨a, ha⟩ : ∃ a, l[k]? = some a := ⟨_, List.getElem?_eq_getElem h1⟩
    rw [bt_str ha]; exact hs a ha
theorem name_is {k : Nat} {l : List UInt8} (h : nameL l = k) (h0 : 1 ≤ k) : (∀ a, l[0]? = some a → isFirst (a.toNat : Int) = true) ∧ (∀ i a, 1 ≤ i → i < k → l[i]? = some a → isName (a.toNat : Int) = true) ∧ (∀ a, l[k]? = some a → isName (a.toNat : Int) = false) := by
  have hi := nameL_is l
  rw [h] at hi
  rcases hi with ⟨h1, _⟩ | ⟨_, h2, h3, h4, h5⟩
  · omega
  · refine ⟨fun a ha => ?_, fun i a hi1 hi2 ha => ?_, fun a ha => ?_⟩
    · rw [bt_str ha] at h3; exact h3
    · have := h4 i hi1 hi2; rw [bt_str ha] at this; exact this
    · rcases h5 with h5 | h5
      · rw [size_str] at h5
        have := (List.getElem?_eq_some_iff.1 ha).1
        omega
      · rw [bt_str ha] at h5; exact h5
theorem nameL_0 {d : UInt8} {z : List UInt8} : nameL (d :: z) = 0 ↔ isFirst (d.toNat : Int) = false := by
  rw [nameL]
  by_cases h : isFirst (d.toNat : Int) = true
  · rw [if_pos h]; simp [h]
  · rw [if_neg h]; simp [Bool.eq_false_iff.2 h]
theorem st_name (e0 : Int) (h : P2 c x y r r') : St c x y (nameM e0 r) (nameM e0 r') := by
  obtain ⟨p, rfl, rfl⟩ := h
  rw [nameM, if_neg (by simp)]
  by_cases h0 : nameL (p ++ c :: x) = 0
  · rw [if_pos h0]
    cases p with
    | nil =>
      have h1 : nameL (c :: y) = 0 := nameL_0.2 (nameL_0.1 h0)
      show St c x y _ (nameM e0 (c :: y))
      rw [nameM, if_neg (by simp), if_pos h1]
      exact St.bad
    | cons d p => exact St.other (fun he => by have := congrArg List.length he; simp at this; omega)
  · rw [if_neg h0]
    refine ⟨fun a s h1 hs => ?_, fun e _ h1 => by simp at h1⟩
    simp only [Rs.ok.injEq] at h1
    obtain ⟨rfl, rfl⟩ := h1
    obtain ⟨hd, ht⟩ := P2.drop (y := y) ⟨p, rfl, rfl⟩ hs
    have hk : nameL (p ++ c :: x) ≤ p.length := by
      have := hs.length_le
      rw [List.length_drop] at this
      simp at this
      omega
    obtain ⟨i1, i2, i3⟩ := name_is rfl (show 1 ≤ nameL (p ++ c :: x) by omega)
    have gt : ∀ i, i ≤ p.length → (p ++ c :: y)[i]? = (p ++ c :: x)[i]? := by
      intro i hi
      rcases Nat.lt_or_ge i p.length with h | h
      · rw [List.getElem?_append_left h, List.getElem?_append_left h]
      · have : i = p.length := by omega
        subst this
        simp
    have hL : nameL (p ++ c :: y) = nameL (p ++ c :: x) := name_of (by omega) (by simp; omega) (fun a ha => i1 a (by rw [← gt 0 (by omega)]; exact ha)) (fun i a h2 h3 ha => i2 i a h2 h3 (by rw [← gt i (by omega)]; exact ha)) (fun a ha => i3 a (by rw [← gt _ hk]; exact ha))
    refine ⟨_, ?_, hd⟩
    rw [nameM, if_neg (by simp), hL, if_neg h0, ht]
theorem st_let (stop : UInt8) (opn : Bool) : ∀ (f : Nat) (acc p : List UInt8) (f' : Nat), (p ++ c :: x).length < f → (p ++ c :: y).length < f' → St c x y (letM stop opn f acc (p ++ c :: x)) (letM stop opn f' acc (p ++ c :: y))
  | 0, acc, p, f', h, _ => by omega
  | f + 1, acc, p, 0, _, h => by omega
  | f + 1, acc, [], f' + 1, h, h' => by
    show St c x y (letM stop opn (f + 1) acc (c :: x)) (letM stop opn (f' + 1) acc (c :: y))
    by_cases hs : c = stop
    · rw [letM, if_pos hs, letM, if_pos hs]
      exact St.ok ⟨[], rfl, rfl⟩
    · by_cases h38 : c = 38
      · obtain ⟨⟨w, n, z⟩, hxy⟩ : ∃ z, refS (c :: x) = z := ⟨_, rfl⟩
        rw [let_ref hs h38 hxy]
        by_cases hz : z = 0
        · rw [if_pos hz]
          subst hz
          have h1 := (refS_small hxy).2.1
          obtain ⟨m, rfl⟩ : ∃ m, n = m + 1 := ⟨n - 1, by omega⟩
          exact St.vac (z := x) ((let_left _ _ _ _ _).trans (List.drop_suffix m x)) no_suf
        · rw [if_neg hz]
          exact St.no (errno_E3 hxy)
      · rw [letM, if_neg hs, if_neg h38, letM, if_neg hs, if_neg h38]
        by_cases h60 : (decide (c = 60) || !(tx c)) = true
        · rw [if_pos h60, if_pos h60]
          exact St.bad
        · rw [if_neg h60]
          exact St.vac (z := x) (let_left _ _ _ _ _) no_suf
  | f + 1, acc, d :: p, f' + 1, h, h' => by
    show St c x y (letM stop opn (f + 1) acc (d :: (p ++ c :: x))) (letM stop opn (f' + 1) acc (d :: (p ++ c :: y)))
    by_cases hs : d = stop
    · rw [letM, if_pos hs, letM, if_pos hs]
      exact St.ok ⟨d :: p, rfl, rfl⟩
    · by_cases h38 : d = 38
      · obtain ⟨⟨w, n, z⟩, hxy⟩ : ∃ z, refS (d :: (p ++ c :: x)) = z := ⟨_, rfl⟩
        rw [let_ref hs h38 hxy]
        by_cases hz : z = 0
        · rw [if_pos hz]
          subst hz
          have hsm := refS_small hxy
          by_cases hin : c :: x <:+ (d :: (p ++ c :: x)).drop n
          · obtain ⟨⟨q, hq, hq'⟩, ht⟩ := P2.drop (y := y) (r := d :: (p ++ c :: x)) (r' := d :: (p ++ c :: y)) ⟨d :: p, rfl, rfl⟩ hin
            rw [let_ref hs h38 (refS_local hxy ht), if_pos rfl, hq, hq']
            have e1 := congrArg List.length hq
            have e2 := congrArg List.length hq'
            simp only [List.length_drop, List.length_cons, List.length_append] at e1 e2 h h'
            exact st_let stop opn f _ q f' (by simp only [List.length_append, List.length_cons]; omega) (by simp only [List.length_append, List.length_cons]; omega)
          · exact St.vac (let_left _ _ _ _ _) hin
        · rw [if_neg hz]
          exact St.no (errno_E3 hxy)
      · rw [letM, if_neg hs, if_neg h38, letM, if_neg hs, if_neg h38]
        by_cases h60 : (decide (d = 60) || !(tx d)) = true
        · rw [if_pos h60, if_pos h60]
          exact St.other (fun he => by have := congrArg List.length he; simp at this; omega)
        · rw [if_neg h60, if_neg h60]
          exact st_let stop opn f _ p f' (by simpa using h) (by simpa using h')
theorem bet_len (back : List UInt8) : ∀ (r acc : List UInt8) {v s : List UInt8}, betM back acc r = .ok v s → s.length + back.length ≤ r.length
  | [], acc, v, s, h => by
    unfold betM at h
    split at h
    · next hp => cases h; have := (List.isPrefixOf_iff_prefix.1 hp).length_le; simpa using this
    · simp at h
  | d :: r, acc, v, s, h => by
    unfold betM at h
    split at h
    · next hp =>
      cases h
      have := (List.isPrefixOf_iff_prefix.1 hp).length_le
      rw [List.length_drop]; omega
    · split at h
      · have := bet_len back r _ h
        simp only [List.length_cons]; omega
      · simp at h
theorem bet_bad (back : List UInt8) : ∀ (r acc : List UInt8) {e : Int} {d : UInt8} {z : List UInt8}, betM back acc r = .bad e (d :: z) → tx d = false
  | [], acc, e, d, z, h => by
    unfold betM at h
    split at h <;> simp at h
  | a :: r, acc, e, d, z, h => by
    unfold betM at h
    split at h
    · simp at h
    · split at h
      · exact bet_bad back r _ h
      · next ht =>
        simp only [Rs.bad.injEq, List.cons.injEq] at h
        rw [← h.2.1]
        exact Bool.eq_false_iff.2 ht
theorem pre_same {back p : List UInt8} (hb : ∀ d ∈ back, tx d = true) (h : tx c = false ∨ back.length ≤ p.length) : back.isPrefixOf (p ++ c :: y) = back.isPrefixOf (p ++ c :: x) := by
  rcases Nat.lt_or_ge p.length back.length with hl | hl
  · have hc : tx c = false := by rcases h with h | h; exact h; omega
    have no : ∀ z, back.isPrefixOf (p ++ c :: z) = false := by
      intro z
      rw [Bool.eq_false_iff]
      intro hp
      have hpre := List.isPrefixOf_iff_prefix.1 hp
      have hg : back[p.length]? = (p ++ c :: z)[p.length]? := by
        obtain ⟨t, ht⟩ := hpre
        rw [← ht, List.getElem?_append_left hl]
      simp at hg
      have := hb c (List.mem_of_getElem? hg)
      rw [hc] at this
      simp at this
    rw [no, no]
  · exact pre_take (n := back.length) (by rw [List.take_append_of_le_length hl, List.take_append_of_le_length hl]) (Nat.le_refl _)
theorem bet_step {back acc r : List UInt8} {d : UInt8} (h : ¬ back.isPrefixOf (d :: r) = true) : betM back acc (d :: r) = if tx d = true then betM back (acc ++ [d]) r else .bad 10 (d :: r) := by rw [betM, if_neg h]
theorem st_bet0 (back : List UInt8) (hb : ∀ d ∈ back, tx d = true) (h0 : back ≠ []) : ∀ (p acc : List UInt8), (tx c = false ∨ back.length ≤ p.length) → St c x y (betM back acc (p ++ c :: x)) (betM back acc (p ++ c :: y))
  | [], acc, hor => by
    have hs := pre_same (x := x) (y := y) (p := []) hb hor
    show St c x y (betM back acc (c :: x)) (betM back acc (c :: y))
    have hc : tx c = false := by
      rcases hor with h | h
      · exact h
      · exact absurd (List.eq_nil_of_length_eq_zero (by simpa using h)) h0
    have hno : back.isPrefixOf (c :: x) = false := by
      rw [Bool.eq_false_iff]
      intro hp
      cases back with
      | nil => exact h0 rfl
      | cons d back =>
        have h2 : d = c := by simp [List.isPrefixOf] at hp; exact hp.1
        have := hb d List.mem_cons_self
        rw [h2, hc] at this; simp at this
    have hs2 : back.isPrefixOf (c :: y) = back.isPrefixOf (c :: x) := hs
    rw [betM, if_neg (by rw [hno]; decide), if_neg (by rw [hc]; decide), betM, if_neg (by rw [hs2, hno]; decide), if_neg (by rw [hc]; decide)]
    exact St.bad
  | d :: p, acc, hor => by
    have hs : back.isPrefixOf (d :: (p ++ c :: y)) = back.isPrefixOf (d :: (p ++ c :: x)) := pre_same (p := d :: p) hb hor
    show St c x y (betM back acc (d :: (p ++ c :: x))) (betM back acc (d :: (p ++ c :: y)))
    by_cases hp : back.isPrefixOf (d :: (p ++ c :: x)) = true
    · rw [betM, if_pos hp, betM, if_pos (by rw [hs]; exact hp)]
      refine ⟨fun a s h1 h2 => ?_, fun e _ h1 => by simp at h1⟩
      cases h1
      exact ⟨_, rfl, (P2.drop (y := y) (r := d :: (p ++ c :: x)) (r' := d :: (p ++ c :: y)) ⟨d :: p, rfl, rfl⟩ h2).1⟩
    · rw [bet_step hp, bet_step (by rw [hs]; exact hp)]
      by_cases ht : tx d = true
      · rw [if_pos ht, if_pos ht]
        -- what is behind
        refine ⟨fun a s h1 h2 => ?_, fun e he h1 => ?_⟩
        · have hl := bet_len back _ _ h1
          have hl2 := h2.length_le
          simp only [List.length_append, List.length_cons] at hl hl2
          exact (st_bet0 back hb h0 p (acc ++ [d]) (.inr (by omega))).1 a s h1 h2
        · exact (st_bet0 back hb h0 p (acc ++ [d]) (.inl (bet_bad back _ _ h1))).2 e he h1
      · rw [if_neg ht]
        exact St.other (fun he => by have := congrArg List.length he; simp at this; omega)
theorem st_bet (back : List UInt8) (hb : ∀ d ∈ back, tx d = true) (h0 : back ≠ []) (p acc : List UInt8) : St c x y (betM back acc (p ++ c :: x)) (betM back acc (p ++ c :: y)) := by
  refine ⟨fun a s h1 h2 => ?_, fun e he h1 => ?_⟩
  · have hl := bet_len back _ _ h1
    have hl2 := h2.length_le
    simp only [List.length_append, List.length_cons] at hl hl2
    exact (st_bet0 back hb h0 p acc (.inr (by omega))).1 a s h1 h2
  · exact (st_bet0 back hb h0 p acc (.inl (bet_bad back _ _ h1))).2 e he h1
end
end Go.Proofs.Ytldgjiohigiioaa
