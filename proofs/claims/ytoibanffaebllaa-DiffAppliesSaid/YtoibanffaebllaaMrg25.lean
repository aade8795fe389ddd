/-
  Layer 25, plain: rows that rise by their keys; what two such rows make side by side, asked by a key. Own work.
-/
import Derived.Test.YtoibanffaebllaaPn25
namespace Go.Proofs.Ytoibanffaebllaa
set_option linter.unusedVariables false
set_option linter.unusedSimpArgs false
open Go.RowKit

/-! rows that rise by their keys -/
theorem kcmp_self (k : K4) : kcmp k k = 0 := kcmp_ord.self k
theorem kcmp_lt_trans {a b c : K4} (h1 : kcmp a b < 0) (h2 : kcmp b c < 0) : kcmp a c < 0 := by
  have t := kcmp_ord.trans a b c (by omega) (by omega)
  rcases Int.lt_or_eq_of_le t with h | h
  · exact h
  · have := kcmp_zero h
    subst this
    have := kcmp_ord.neg a b
    omega
theorem kcmp_gt {a b : K4} (h : 0 < kcmp a b) : kcmp b a < 0 := by have := kcmp_ord.neg a b; omega
/-- a row that rises by its keys -/
def Ris {α : Type} (k : α → K4) (l : List α) : Prop := l.Pairwise fun x y => kcmp (k x) (k y) < 0
/-- the first one of a key -/
def lk {α : Type} (k : α → K4) (q : K4) (l : List α) : Option α := l.find? fun x => decide (kcmp (k x) q = 0)
section
variable {α β γ : Type} {ka : α → K4} {kb : β → K4} {kc : γ → K4}
theorem lk_nil (q : K4) : lk ka q [] = none := rfl
theorem lk_cons (q : K4) (x : α) (l : List α) : lk ka q (x :: l) = if kcmp (ka x) q = 0 then some x else lk ka q l := by
  unfold lk
  rw [List.find?_cons]
  by_cases h : kcmp (ka x) q = 0
  · rw [if_pos h, decide_eq_true h]
  · rw [if_neg h, decide_eq_false h]
theorem lk_none {q : K4} {l : List α} (h : ∀ x ∈ l, kcmp (ka x) q ≠ 0) : lk ka q l = none := by
  induction l with
  | nil => rfl
  | cons x l ih =>
    rw [lk_cons, if_neg (h x (by simp))]
    exact ih fun y hy => h y (by simp [hy])
theorem lk_some {q : K4} {l : List α} {x : α} (h : lk ka q l = some x) : ka x = q ∧ x ∈ l := by
  unfold lk at h
  refine ⟨kcmp_zero ?_, List.mem_of_find?_eq_some h⟩
  have := List.find?_some h
  simpa using this
theorem lk_mem {l : List α} (hl : Ris ka l) {x : α} (hx : x ∈ l) : lk ka (ka x) l = some x := by
  induction l with
  | nil => simp at hx
  | cons y l ih =>
    rw [lk_cons]
    have hp := List.pairwise_cons.1 hl
    rcases List.mem_cons.1 hx with rfl | hm
    · rw [if_pos (kcmp_self _)]
    · have := hp.1 x hm
      rw [if_neg (by omega)]
      exact ih hp.2 hm
/-- rows that rise and say the same of each key are the same -/
theorem ris_ext : ∀ {l m : List α}, Ris ka l → Ris ka m → (∀ q, lk ka q l = lk ka q m) → l = m
  | [], [], _, _, _ => rfl
  | [], y :: m, _, hm, h => by
    have := h (ka y)
    rw [lk_mem hm (by simp)] at this
    cases this
  | x :: l, [], hl, _, h => by
    have := h (ka x)
    rw [lk_mem hl (by simp)] at this
    cases this
  | x :: l, y :: m, hl, hm, h => by
    have hl' := List.pairwise_cons.1 hl
    have hm' := List.pairwise_cons.1 hm
    have hxy : kcmp (ka x) (ka y) = 0 := by
      rcases kcmp_ord.rng (ka x) (ka y) with h1 | h1 | h1
      · exfalso
        have := h (ka x)
        rw [lk_mem hl (by simp), lk_none] at this
        · cases this
        · intro z hz
          rcases List.mem_cons.1 hz with rfl | hz
          · have := kcmp_ord.neg (ka x) (ka z); omega
          · have h2 := hm'.1 z hz
            have h3 := kcmp_lt_trans (by omega : kcmp (ka x) (ka y) < 0) h2
            have := kcmp_ord.neg (ka x) (ka z); omega
      · exact h1
      · exfalso
        have := h (ka y)
        rw [lk_mem hm (by simp), lk_none] at this
        · cases this
        · intro z hz
          rcases List.mem_cons.1 hz with rfl | hz
          · omega
          · have h2 := hl'.1 z hz
            have h3 := kcmp_lt_trans (kcmp_gt (by omega : 0 < kcmp (ka x) (ka y))) h2
            have := kcmp_ord.neg (ka y) (ka z); omega
    have hk : ka x = ka y := kcmp_zero hxy
    have he : x = y := by
      have := h (ka x)
      rw [lk_mem hl (by simp), hk, lk_mem hm (by simp)] at this
      exact Option.some.inj this
    subst he
    congr 1
    refine ris_ext hl'.2 hm'.2 fun q => ?_
    have hq := h q
    rw [lk_cons, lk_cons] at hq
    by_cases e : kcmp (ka x) q = 0
    · rw [lk_none, lk_none]
      · intro z hz; have := hm'.1 z hz; rw [← kcmp_zero e]; have := kcmp_ord.neg (ka x) (ka z); omega
      · intro z hz; have := hl'.1 z hz; rw [← kcmp_zero e]; have := kcmp_ord.neg (ka x) (ka z); omega
    · rw [if_neg e, if_neg e] at hq; exact hq
/-- two rows side by side -/
def mrg (ka : α → K4) (kb : β → K4) (f : Option α → Option β → Option γ) : List α → List β → List γ
  | [], [] => []
  | x :: l, [] => (f (some x) none).toList ++ mrg ka kb f l []
  | [], y :: m => (f none (some y)).toList ++ mrg ka kb f [] m
  | x :: l, y :: m =>
    if kcmp (ka x) (kb y) < 0 then (f (some x) none).toList ++ mrg ka kb f l (y :: m)
    else if 0 < kcmp (ka x) (kb y) then (f none (some y)).toList ++ mrg ka kb f (x :: l) m
    else (f (some x) (some y)).toList ++ mrg ka kb f l m
termination_by l m => l.length + m.length
/-- what is made of two has their key -/
def Keyed (ka : α → K4) (kb : β → K4) (kc : γ → K4) (f : Option α → Option β → Option γ) : Prop :=
  (∀ x y g, f (some x) y = some g → (∀ b, y = some b → ka x = kb b) → kc g = ka x) ∧ (∀ x y g, f x (some y) = some g → (∀ a, x = some a → ka a = kb y) → kc g = kb y)
variable {f : Option α → Option β → Option γ}
theorem mrg_mem (hf : Keyed ka kb kc f) : ∀ (l : List α) (m : List β) (g : γ), g ∈ mrg ka kb f l m → (∃ x ∈ l, kc g = ka x) ∨ ∃ y ∈ m, kc g = kb y
  | [], [], g, h => by simp [mrg] at h
  | x :: l, [], g, h => by
    rw [mrg, List.mem_append] at h
    rcases h with h | h
    · exact .inl ⟨x, by simp, hf.1 x none g (by simpa using h) (fun b hb => by cases hb)⟩
    · rcases mrg_mem hf l [] g h with ⟨z, hz, e⟩ | ⟨z, hz, e⟩
      · exact .inl ⟨z, by simp [hz], e⟩
      · exact .inr ⟨z, hz, e⟩
  | [], y :: m, g, h => by
    rw [mrg, List.mem_append] at h
    rcases h with h | h
    · exact .inr ⟨y, by simp, hf.2 none y g (by simpa using h) (fun a ha => by cases ha)⟩
    · rcases mrg_mem hf [] m g h with ⟨z, hz, e⟩ | ⟨z, hz, e⟩
      · exact .inl ⟨z, hz, e⟩
      · exact .inr ⟨z, by simp [hz], e⟩
  | x :: l, y :: m, g, h => by
    rw [mrg] at h
    split at h
    · rw [List.mem_append] at h
      rcases h with h | h
      · exact .inl ⟨x, by simp, hf.1 x none g (by simpa using h) (fun b hb => by cases hb)⟩
      · rcases mrg_mem hf l (y :: m) g h with ⟨z, hz, e⟩ | ⟨z, hz, e⟩
        · exact .inl ⟨z, by simp [hz], e⟩
        · exact .inr ⟨z, hz, e⟩
    · split at h
      · rw [List.mem_append] at h
        rcases h with h | h
        · exact .inr ⟨y, by simp, hf.2 none y g (by simpa using h) (fun a ha => by cases ha)⟩
        · rcases mrg_mem hf (x :: l) m g h with ⟨z, hz, e⟩ | ⟨z, hz, e⟩
          · exact .inl ⟨z, hz, e⟩
          · exact .inr ⟨z, by simp [hz], e⟩
      · rename_i h1 h2
        have hk : ka x = kb y := kcmp_zero (by omega)
        rw [List.mem_append] at h
        rcases h with h | h
        · exact .inl ⟨x, by simp, hf.1 x (some y) g (by simpa using h) (fun b hb => by cases hb; exact hk)⟩
        · rcases mrg_mem hf l m g h with ⟨z, hz, e⟩ | ⟨z, hz, e⟩
          · exact .inl ⟨z, by simp [hz], e⟩
          · exact .inr ⟨z, by simp [hz], e⟩
termination_by l m => l.length + m.length
theorem opt_app_ris {o : Option γ} {r : List γ} (k : K4) (hk : ∀ g, o = some g → kc g = k) (hr : Ris kc r) (hlt : ∀ g ∈ r, kcmp k (kc g) < 0) : Ris kc (o.toList ++ r) := by
  cases o with
  | none => simpa using hr
  | some g =>
    refine List.pairwise_cons.2 ⟨fun z hz => ?_, hr⟩
    rw [hk g rfl]
    exact hlt z hz
theorem mrg_ris (hf : Keyed ka kb kc f) : ∀ (l : List α) (m : List β), Ris ka l → Ris kb m → Ris kc (mrg ka kb f l m)
  | [], [], _, _ => by rw [mrg]; exact List.Pairwise.nil
  | x :: l, [], hl, hm => by
    have hl' := List.pairwise_cons.1 hl
    rw [mrg]
    refine opt_app_ris (ka x) (fun g h => hf.1 x none g h (fun b hb => by cases hb)) (mrg_ris hf l [] hl'.2 hm) fun g hg => ?_
    rcases mrg_mem hf l [] g hg with ⟨z, hz, e⟩ | ⟨z, hz, e⟩
    · rw [e]; exact hl'.1 z hz
    · simp at hz
  | [], y :: m, hl, hm => by
    have hm' := List.pairwise_cons.1 hm
    rw [mrg]
    refine opt_app_ris (kb y) (fun g h => hf.2 none y g h (fun a ha => by cases ha)) (mrg_ris hf [] m hl hm'.2) fun g hg => ?_
    rcases mrg_mem hf [] m g hg with ⟨z, hz, e⟩ | ⟨z, hz, e⟩
    · simp at hz
    · rw [e]; exact hm'.1 z hz
  | x :: l, y :: m, hl, hm => by
    have hl' := List.pairwise_cons.1 hl
    have hm' := List.pairwise_cons.1 hm
    rw [mrg]
    split
    · rename_i h1
      refine opt_app_ris (ka x) (fun g h => hf.1 x none g h (fun b hb => by cases hb)) (mrg_ris hf l (y :: m) hl'.2 hm) fun g hg => ?_
      rcases mrg_mem hf l (y :: m) g hg with ⟨z, hz, e⟩ | ⟨z, hz, e⟩
      · rw [e]; exact hl'.1 z hz
      · rw [e]
        rcases List.mem_cons.1 hz with rfl | hz
        · exact h1
        · exact kcmp_lt_trans h1 (hm'.1 z hz)
    · rename_i h1
      split
      · rename_i h2
        refine opt_app_ris (kb y) (fun g h => hf.2 none y g h (fun a ha => by cases ha)) (mrg_ris hf (x :: l) m hl hm'.2) fun g hg => ?_
        rcases mrg_mem hf (x :: l) m g hg with ⟨z, hz, e⟩ | ⟨z, hz, e⟩
        · rw [e]
          rcases List.mem_cons.1 hz with rfl | hz
          · exact kcmp_gt h2
          · exact kcmp_lt_trans (kcmp_gt h2) (hl'.1 z hz)
        · rw [e]; exact hm'.1 z hz
      · rename_i h2
        have hk : ka x = kb y := kcmp_zero (by omega)
        refine opt_app_ris (ka x) (fun g h => hf.1 x (some y) g h (fun b hb => by cases hb; exact hk)) (mrg_ris hf l m hl'.2 hm'.2) fun g hg => ?_
        rcases mrg_mem hf l m g hg with ⟨z, hz, e⟩ | ⟨z, hz, e⟩
        · rw [e]; exact hl'.1 z hz
        · rw [e, hk]; exact hm'.1 z hz
termination_by l m => l.length + m.length
/-- what stands side by side, asked by a key -/
def two (f : Option α → Option β → Option γ) : Option α → Option β → Option γ
  | none, none => none
  | x, y => f x y
theorem lk_opt (o : Option γ) (r : List γ) (q : K4) : lk kc q (o.toList ++ r) = match o with | none => lk kc q r | some g => if kcmp (kc g) q = 0 then some g else lk kc q r := by
  cases o with
  | none => rfl
  | some g => exact lk_cons q g r
theorem lk_head_other {k q : K4} {o : Option γ} {r : List γ} (hk : ∀ g, o = some g → kc g = k) (hq : kcmp k q ≠ 0) : lk kc q (o.toList ++ r) = lk kc q r := by
  rw [lk_opt]
  cases o with
  | none => rfl
  | some g => simp only; rw [if_neg (by rw [hk g rfl]; exact hq)]
theorem lk_head_same {k q : K4} {o : Option γ} {r : List γ} (hk : ∀ g, o = some g → kc g = k) (hq : kcmp k q = 0) (hr : ∀ g ∈ r, kcmp k (kc g) < 0) : lk kc q (o.toList ++ r) = o := by
  rw [lk_opt]
  cases o with
  | none =>
    refine lk_none fun g hg => ?_
    have := hr g hg
    rw [← kcmp_zero hq]
    have := kcmp_ord.neg k (kc g); omega
  | some g => simp only; rw [if_pos (by rw [hk g rfl]; exact hq)]
theorem ris_lt_none {l : List α} {q : K4} (h : ∀ x ∈ l, kcmp q (ka x) < 0) : lk ka q l = none := lk_none fun x hx => by
  have := h x hx
  have := kcmp_ord.neg q (ka x); omega
theorem mrg_lk (hf : Keyed ka kb kc f) : ∀ (l : List α) (m : List β) (q : K4), Ris ka l → Ris kb m → lk kc q (mrg ka kb f l m) = two f (lk ka q l) (lk kb q m)
  | [], [], q, _, _ => by rw [mrg]; rfl
  | x :: l, [], q, hl, hm => by
    have hl' := List.pairwise_cons.1 hl
    have ih := mrg_lk hf l [] q hl'.2 hm
    have hlt : ∀ g ∈ mrg ka kb f l [], kcmp (ka x) (kc g) < 0 := fun g hg => by
      rcases mrg_mem hf l [] g hg with ⟨z, hz, e⟩ | ⟨z, hz, e⟩
      · rw [e]; exact hl'.1 z hz
      · simp at hz
    rw [mrg, lk_cons]
    by_cases hq : kcmp (ka x) q = 0
    · rw [if_pos hq, lk_head_same (fun g h => hf.1 x none g h (fun b hb => by cases hb)) hq hlt, lk_nil]; rfl
    · rw [if_neg hq, lk_head_other (fun g h => hf.1 x none g h (fun b hb => by cases hb)) hq, ih]
  | [], y :: m, q, hl, hm => by
    have hm' := List.pairwise_cons.1 hm
    have ih := mrg_lk hf [] m q hl hm'.2
    have hlt : ∀ g ∈ mrg ka kb f [] m, kcmp (kb y) (kc g) < 0 := fun g hg => by
      rcases mrg_mem hf [] m g hg with ⟨z, hz, e⟩ | ⟨z, hz, e⟩
      · simp at hz
      · rw [e]; exact hm'.1 z hz
    rw [mrg, lk_cons]
    by_cases hq : kcmp (kb y) q = 0
    · rw [if_pos hq, lk_head_same (fun g h => hf.2 none y g h (fun a ha => by cases ha)) hq hlt, lk_nil]; rfl
    · rw [if_neg hq, lk_head_other (fun g h => hf.2 none y g h (fun a ha => by cases ha)) hq, ih]
  | x :: l, y :: m, q, hl, hm => by
    have hl' := List.pairwise_cons.1 hl
    have hm' := List.pairwise_cons.1 hm
    rw [mrg]
    split
    · rename_i h1
      have ih := mrg_lk hf l (y :: m) q hl'.2 hm
      have hlt : ∀ g ∈ mrg ka kb f l (y :: m), kcmp (ka x) (kc g) < 0 := fun g hg => by
        rcases mrg_mem hf l (y :: m) g hg with ⟨z, hz, e⟩ | ⟨z, hz, e⟩
        · rw [e]; exact hl'.1 z hz
        · rw [e]
          rcases List.mem_cons.1 hz with rfl | hz
          · exact h1
          · exact kcmp_lt_trans h1 (hm'.1 z hz)
      rw [lk_cons (l := l)]
      by_cases hq : kcmp (ka x) q = 0
      · have hk := kcmp_zero hq
        rw [if_pos hq, lk_head_same (fun g h => hf.1 x none g h (fun b hb => by cases hb)) hq hlt, ris_lt_none (ka := kb) (l := y :: m)]
        · rfl
        · intro z hz
          rw [← hk]
          rcases List.mem_cons.1 hz with rfl | hz
          · exact h1
          · exact kcmp_lt_trans h1 (hm'.1 z hz)
      · rw [if_neg hq, lk_head_other (fun g h => hf.1 x none g h (fun b hb => by cases hb)) hq, ih]
    · rename_i h1
      split
      · rename_i h2
        have ih := mrg_lk hf (x :: l) m q hl hm'.2
        have hlt : ∀ g ∈ mrg ka kb f (x :: l) m, kcmp (kb y) (kc g) < 0 := fun g hg => by
          rcases mrg_mem hf (x :: l) m g hg with ⟨z, hz, e⟩ | ⟨z, hz, e⟩
          · rw [e]
            rcases List.mem_cons.1 hz with rfl | hz
            · exact kcmp_gt h2
            · exact kcmp_lt_trans (kcmp_gt h2) (hl'.1 z hz)
          · rw [e]; exact hm'.1 z hz
        rw [lk_cons (l := m)]
        by_cases hq : kcmp (kb y) q = 0
        · have hk := kcmp_zero hq
          rw [if_pos hq, lk_head_same (fun g h => hf.2 none y g h (fun a ha => by cases ha)) hq hlt, ris_lt_none (ka := ka) (l := x :: l)]
          · rfl
          · intro z hz
            rw [← hk]
            rcases List.mem_cons.1 hz with rfl | hz
            · exact kcmp_gt h2
            · exact kcmp_lt_trans (kcmp_gt h2) (hl'.1 z hz)
        · rw [if_neg hq, lk_head_other (fun g h => hf.2 none y g h (fun a ha => by cases ha)) hq, ih]
      · rename_i h2
        have hk : ka x = kb y := kcmp_zero (by omega)
        have ih := mrg_lk hf l m q hl'.2 hm'.2
        have hlt : ∀ g ∈ mrg ka kb f l m, kcmp (ka x) (kc g) < 0 := fun g hg => by
          rcases mrg_mem hf l m g hg with ⟨z, hz, e⟩ | ⟨z, hz, e⟩
          · rw [e]; exact hl'.1 z hz
          · rw [e, hk]; exact hm'.1 z hz
        rw [lk_cons, lk_cons, ← hk]
        by_cases hq : kcmp (ka x) q = 0
        · rw [if_pos hq, if_pos hq, lk_head_same (fun g h => hf.1 x (some y) g h (fun b hb => by cases hb; exact hk)) hq hlt]; rfl
        · rw [if_neg hq, if_neg hq, lk_head_other (fun g h => hf.1 x (some y) g h (fun b hb => by cases hb; exact hk)) hq, ih]
termination_by l m => l.length + m.length
theorem mrg_len : ∀ (l : List α) (m : List β), (mrg ka kb f l m).length ≤ l.length + m.length
  | [], [] => by rw [mrg]; simp
  | x :: l, [] => by
    have := mrg_len l []
    rw [mrg]
    cases f (some x) none <;> simp at this ⊢ <;> omega
  | [], y :: m => by
    have := mrg_len [] m
    rw [mrg]
    cases f none (some y) <;> simp at this ⊢ <;> omega
  | x :: l, y :: m => by
    rw [mrg]
    split
    · have := mrg_len l (y :: m)
      cases f (some x) none <;> simp at this ⊢ <;> omega
    · split
      · have := mrg_len (x :: l) m
        cases f none (some y) <;> simp at this ⊢ <;> omega
      · have := mrg_len l m
        cases f (some x) (some y) <;> simp at this ⊢ <;> omega
termination_by l m => l.length + m.length
end
end Go.Proofs.Ytoibanffaebllaa
