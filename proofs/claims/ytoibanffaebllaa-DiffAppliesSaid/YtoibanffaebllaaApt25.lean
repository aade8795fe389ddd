/-
  Layer 25, plain: edits that may be, joined: when they go together; what is joined may be, and does what both do. Own work.
-/
import Derived.Test.YtoibanffaebllaaEd25
namespace Go.Proofs.Ytoibanffaebllaa
set_option linter.unusedVariables false
set_option linter.unusedSimpArgs false
open Go.RowKit

theorem allB_at {α β : Type} {ka : α → K4} {kb : β → K4} {t : Option α → Option β → Bool} : ∀ (l : List α) (m : List β), Ris ka l → Ris kb m → t none none = true → allB ka kb t l m = true → ∀ q, t (lk ka q l) (lk kb q m) = true
  | [], [], _, _, h0, _, q => h0
  | x :: l, [], hl, hm, h0, h, q => by
    have hl' := List.pairwise_cons.1 hl
    rw [allB, Bool.and_eq_true] at h
    rw [lk_cons]
    by_cases hq : kcmp (ka x) q = 0
    · rw [if_pos hq]; exact h.1
    · rw [if_neg hq]; exact allB_at l [] hl'.2 hm h0 h.2 q
  | [], y :: m, hl, hm, h0, h, q => by
    have hm' := List.pairwise_cons.1 hm
    rw [allB, Bool.and_eq_true] at h
    rw [lk_cons]
    by_cases hq : kcmp (kb y) q = 0
    · rw [if_pos hq]; exact h.1
    · rw [if_neg hq]; exact allB_at [] m hl hm'.2 h0 h.2 q
  | x :: l, y :: m, hl, hm, h0, h, q => by
    have hl' := List.pairwise_cons.1 hl
    have hm' := List.pairwise_cons.1 hm
    rw [allB] at h
    split at h
    · rename_i h1
      rw [Bool.and_eq_true] at h
      by_cases hq : kcmp (ka x) q = 0
      · have hx : lk kb q (y :: m) = none := ris_lt_none fun z hz => by
          rw [← kcmp_zero hq]
          rcases List.mem_cons.1 hz with rfl | hz
          · exact h1
          · exact kcmp_lt_trans h1 (hm'.1 z hz)
        rw [lk_cons (l := l), if_pos hq, hx]; exact h.1
      · rw [lk_cons (l := l), if_neg hq]; exact allB_at l (y :: m) hl'.2 hm h0 h.2 q
    · rename_i h1
      split at h
      · rename_i h2
        rw [Bool.and_eq_true] at h
        by_cases hq : kcmp (kb y) q = 0
        · have hx : lk ka q (x :: l) = none := ris_lt_none fun z hz => by
            rw [← kcmp_zero hq]
            rcases List.mem_cons.1 hz with rfl | hz
            · exact kcmp_gt h2
            · exact kcmp_lt_trans (kcmp_gt h2) (hl'.1 z hz)
          rw [lk_cons (l := m), if_pos hq, hx]; exact h.1
        · rw [lk_cons (l := m), if_neg hq]; exact allB_at (x :: l) m hl hm'.2 h0 h.2 q
      · rename_i h2
        have hk : ka x = kb y := kcmp_zero (by omega)
        rw [Bool.and_eq_true] at h
        rw [lk_cons (l := l), lk_cons (l := m), ← hk]
        by_cases hq : kcmp (ka x) q = 0
        · rw [if_pos hq, if_pos hq]; exact h.1
        · rw [if_neg hq, if_neg hq]; exact allB_at l m hl'.2 hm'.2 h0 h.2 q
termination_by l m => l.length + m.length
theorem mayEds_ok {l : List Ed} (h : mayEds l = true) : Ris Ed.key l ∧ ∀ e ∈ l, mayE e = true := by
  have h := mayEds_iff.1 h
  refine ⟨ris_of_adj l fun i x y hx hy => ?_, fun e he => ?_⟩
  · have hi := (List.getElem?_eq_some_iff.1 hy).1
    have := h (i + 1) hi
    unfold mayEdAt at this
    rw [hy] at this
    simp [hx] at this
    exact this.1
  · obtain ⟨i, hi, hei⟩ := List.getElem_of_mem he
    have hq : l[i]? = some e := by rw [List.getElem?_eq_getElem hi, hei]
    have := h i hi
    unfold mayEdAt at this
    rw [hq] at this
    simp only [Bool.and_eq_true] at this
    exact this.2
/-- what may be an edit -/
theorem mayE_ok {e : Ed} (h : mayE e = true) : (e.had = false → e.has = false → False) ∧ (e.had = true → e.has = true → e.old ≠ e.new) ∧ (e.had = true → e.old.key = e.key) ∧ (e.had = false → e.old = zP) ∧ (e.has = true → e.new.key = e.key) ∧ (e.has = false → e.new = zP) := by
  obtain ⟨k, a, b, o, n⟩ := e
  unfold mayE at h
  simp only [Bool.and_eq_true, Bool.not_eq_true'] at h
  obtain ⟨h1, h2, h3⟩ := h
  cases a <;> cases b <;> simp_all [side_t, side_f, sameK_eq, sameP_iff]
  · exact fun e => by rw [e, sameP_self] at h1; cases h1
theorem mayE_of {e : Ed} (h1 : e.had = false → e.has = false → False) (h2 : e.had = true → e.has = true → e.old ≠ e.new) (h3 : e.had = true → e.old.key = e.key) (h4 : e.had = false → e.old = zP) (h5 : e.has = true → e.new.key = e.key) (h6 : e.has = false → e.new = zP) : mayE e = true := by
  obtain ⟨k, a, b, o, n⟩ := e
  unfold mayE
  cases a <;> cases b <;> simp_all [side_t, side_f, sameK_eq, sameP_iff]
  · exact sameP_ne h2
theorem newk_of {l : List Ed} (h : mayEds l = true) : Newk l := fun e he hh => (mayE_ok ((mayEds_ok h).2 e he)).2.2.2.2.1 hh
/-- do two edits go together? -/
def pairB (x y : Ed) : Bool := !(sameK x.key y.key) || ((x.has == y.had) && sameP x.new y.old)
def pairs (l m : List Ed) : Bool := l.all fun x => m.all fun y => pairB x y
theorem togs_pairs {l m : List Ed} (hl : Ris Ed.key l) (hm : Ris Ed.key m) : togs l m = pairs l m := by
  rw [Bool.eq_iff_iff]
  constructor
  · intro h
    have h := allB_at l m hl hm rfl h
    unfold pairs
    rw [List.all_eq_true]
    intro x hx
    rw [List.all_eq_true]
    intro y hy
    unfold pairB
    cases hk : sameK x.key y.key
    · rfl
    · have hk := sameK_eq.1 hk
      have := h x.key
      rw [lk_mem hl hx, hk, lk_mem hm hy] at this
      simpa [togB] using this
  · intro h
    unfold pairs at h
    refine allB_of l m hl hm (fun q => ?_) rfl
    cases hx : lk Ed.key q l with
    | none => rfl
    | some x =>
      cases hy : lk Ed.key q m with
      | none => rfl
      | some y =>
        have hx := lk_some hx
        have hy := lk_some hy
        have := List.all_eq_true.1 (List.all_eq_true.1 h x hx.2) y hy.2
        unfold pairB at this
        rw [sameK_eq.2 (hx.1.trans hy.1.symm)] at this
        simpa [togB] using this
section
variable {l m : List Ed} {A : List Pn}
theorem join_lk (hl : Ris Ed.key l) (hm : Ris Ed.key m) (q : K4) : lk Ed.key q (join l m) = two joF (lk Ed.key q l) (lk Ed.key q m) := mrg_lk joF_keyed l m q hl hm
theorem join_ris (hl : Ris Ed.key l) (hm : Ris Ed.key m) : Ris Ed.key (join l m) := mrg_ris joF_keyed l m hl hm
/-- of two edits of a key -/
theorem joF_two {e f : Ed} (q : K4) (he : mayE e = true) (hf : mayE f = true) (ke : e.key = q) (kf : f.key = q) (g : Ed) (h : joF (some e) (some f) = some g) : mayE g = true ∧ g.had = e.had ∧ g.has = f.has ∧ g.old = e.old ∧ g.new = f.new ∧ g.key = q := by
  simp only [joF] at h
  split at h
  · rename_i hc
    cases h
    obtain ⟨e1, e2, e3, e4, e5, e6⟩ := mayE_ok he
    obtain ⟨f1, f2, f3, f4, f5, f6⟩ := mayE_ok hf
    refine ⟨mayE_of (fun h1 h2 => ?_) (fun h1 h2 hn => ?_) e3 e4 (fun h => (f5 h).trans (kf.trans ke.symm)) f6, rfl, rfl, rfl, rfl, ke⟩
    · simp only at h1 h2
      rcases hc with hc | hc
      · rw [h1, h2] at hc; cases hc
      · rw [e4 h1, f6 h2, sameP_self] at hc; cases hc
    · simp only at h1 h2 hn
      rcases hc with hc | hc
      · rw [h1, h2] at hc; cases hc
      · rw [hn, sameP_self] at hc; cases hc
  · cases h
theorem join_may (hl : mayEds l = true) (hm : mayEds m = true) : mayEds (join l m) = true := by
  have ml := mayEds_ok hl
  have mm := mayEds_ok hm
  refine mayEds_of (join_ris ml.1 mm.1) fun e he => ?_
  have h := lk_mem (join_ris ml.1 mm.1) he
  rw [join_lk ml.1 mm.1] at h
  cases hx : lk Ed.key e.key l with
  | none =>
    cases hy : lk Ed.key e.key m with
    | none => rw [hx, hy] at h; cases h
    | some y =>
      rw [hx, hy] at h
      cases h
      exact mm.2 _ (lk_some hy).2
  | some x =>
    cases hy : lk Ed.key e.key m with
    | none =>
      rw [hx, hy] at h
      cases h
      exact ml.2 _ (lk_some hx).2
    | some y =>
      rw [hx, hy] at h
      exact (joF_two e.key (ml.2 x (lk_some hx).2) (mm.2 y (lk_some hy).2) (lk_some hx).1 (lk_some hy).1 e h).1
theorem two_apG (x : Option Pn) (e : Ed) : two apG x (some e) = if e.has = true then some (rekey e) else none := by cases x <;> rfl
theorem two_none (x : Option Pn) : two apG x none = x := by cases x <;> rfl
theorem fitB_same (x : Option Pn) {e g : Ed} (h1 : g.had = e.had) (h2 : g.old = e.old) : fitB x (some g) = fitB x (some e) := by
  cases x <;> simp only [fitB, h1, h2]
/-- what is joined does what both do -/
theorem join_does (hA : PinsOk A) (hB : PinsOk (apply A l)) (hl : mayEds l = true) (hm : mayEds m = true) (f1 : fits A l = true) (f2 : fits (apply A l) m = true) :
    apply A (join l m) = apply (apply A l) m ∧ fits A (join l m) = true := by
  have ml := mayEds_ok hl
  have mm := mayEds_ok hm
  have hj := join_may hl hm
  have mj := mayEds_ok hj
  have F1 := allB_at A l hA.1 ml.1 rfl f1
  have F2 := allB_at (apply A l) m hB.1 mm.1 rfl f2
  have hlB : ∀ q, lk Pn.key q (apply A l) = two apG (lk Pn.key q A) (lk Ed.key q l) := apply_lk hA ml.1 (newk_of hl)
  refine ⟨ris_ext (apply_ris hA mj.1 (newk_of hj)) (apply_ris hB mm.1 (newk_of hm)) fun q => ?_, allB_of A _ hA.1 mj.1 (fun q => ?_) rfl⟩
  · rw [apply_lk hA mj.1 (newk_of hj), apply_lk hB mm.1 (newk_of hm), hlB, join_lk ml.1 mm.1]
    have g1 := F1 q
    cases hx : lk Ed.key q l with
    | none =>
      rw [two_none]
      cases hy : lk Ed.key q m <;> rfl
    | some e =>
      rw [hx] at g1
      cases hy : lk Ed.key q m with
      | none => rw [two_none]; rfl
      | some f =>
        rw [two_apG (two apG (lk Pn.key q A) (some e)) f]
        have ke := (lk_some hx).1
        have kf := (lk_some hy).1
        have he := ml.2 e (lk_some hx).2
        have hf := mm.2 f (lk_some hy).2
        cases hg : joF (some e) (some f) with
        | some g =>
          obtain ⟨_, _, g3, _, g5, g6⟩ := joF_two q he hf ke kf g hg
          have : two joF (some e) (some f) = some g := hg
          rw [this, two_apG, g3]
          have : rekey g = rekey f := by unfold rekey; rw [g5, g6, kf]
          rw [this]
        | none =>
          have : two joF (some e) (some f) = none := hg
          rw [this, two_none]
          simp only [joF] at hg
          split at hg
          · cases hg
          · rename_i hc
            have hc1 : e.had = f.has := by
              cases h1 : e.had <;> cases h2 : f.has <;> simp_all
            have hc2 : e.old = f.new := sameP_iff.1 (by
              cases h1 : sameP e.old f.new
              · exact absurd (.inr h1) hc
              · rfl)
            cases hp : lk Pn.key q A with
            | none =>
              rw [hp] at g1
              simp only [fitB, Bool.not_eq_true'] at g1
              rw [← hc1, g1]; rfl
            | some p =>
              rw [hp] at g1
              simp only [fitB, Bool.and_eq_true, sameP_iff] at g1
              rw [← hc1, g1.1, if_pos rfl, rekey_eq ((mayE_ok hf).2.2.2.2.1 (hc1 ▸ g1.1)), ← hc2, g1.2]
  · rw [join_lk ml.1 mm.1]
    have g1 := F1 q
    have g2 := F2 q
    rw [hlB] at g2
    cases hx : lk Ed.key q l with
    | none =>
      rw [hx, two_none] at g2
      cases hy : lk Ed.key q m with
      | none => cases lk Pn.key q A <;> rfl
      | some f => rw [hy] at g2; exact g2
    | some e =>
      rw [hx] at g1
      cases hy : lk Ed.key q m with
      | none => exact g1
      | some f =>
        cases hg : joF (some e) (some f) with
        | none =>
          have : two joF (some e) (some f) = none := hg
          rw [this]; cases lk Pn.key q A <;> rfl
        | some g =>
          obtain ⟨_, g3, _, g4, _, _⟩ := joF_two q (ml.2 e (lk_some hx).2) (mm.2 f (lk_some hy).2) (lk_some hx).1 (lk_some hy).1 g hg
          have : two joF (some e) (some f) = some g := hg
          rw [this, fitB_same _ g3 g4]; exact g1
end
end Go.Proofs.Ytoibanffaebllaa
