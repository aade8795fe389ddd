/-
  Layer 21: the counter's clauses can be met, with the first variables' truths given, just if no more than k literals are true (cls_means). Plain mathematics. Own work.
-/
import Derived.Test.YtfgoalgfpcalgaaWeiMath
import Derived.Test.YtfgoalgfpcalgaaLaws21b
namespace Go.Proofs.Ytfgoalgfpcalgaa
set_option linter.unusedVariables false
set_option linter.unusedSimpArgs false
open Go.RowKit

theorem trueB_not (ts : List Bool) (n : Int) (hn : n ≠ 0) : trueB (-n) ts = !trueB n ts := by
  by_cases h : 1 ≤ n
  · rw [trueB_neg (-n) ts (by omega), trueB_pos n ts h, Int.neg_neg]
  · rw [trueB_pos (-n) ts (by omega), trueB_neg n ts (by omega), Bool.not_not]
/-- the truths that a number's bits are -/
def bitsL (vars m : Nat) : List Bool := (List.range vars).map fun v => m.testBit v
theorem bitsL_at {vars m v : Nat} (h : v < vars) : (bitsL vars m).getD v false = m.testBit v := by
  unfold bitsL
  rw [List.getD_eq_getElem?_getD, List.getElem?_map, List.getElem?_range h]
  rfl
/-- clauses of one literal, as these truths have it -/
def unitT (ts : List Bool) : List (List Int) := (List.range ts.length).map fun i => [if ts.getD i false then (i : Int) + 1 else -((i : Int) + 1)]
theorem bits_as {T : Int → Bool} (hT : ∀ n, n ≠ 0 → T (-n) = !T n) (vars : Nat) : ∃ m, m < 2 ^ vars ∧ ∀ n : Int, n ≠ 0 → max n (-n) ≤ vars → trueB n (bitsL vars m) = T n := by
  obtain ⟨m, hm, hv⟩ := bits_ex (fun v => T ((v : Int) + 1)) vars
  refine ⟨m, hm, fun n h0 hn => ?_⟩
  have pos : ∀ p : Int, 1 ≤ p → p ≤ vars → trueB p (bitsL vars m) = T p := fun p h1 h2 => by
    rw [trueB_pos p _ h1, bitsL_at (by omega), hv _ (by omega)]
    congr 1; omega
  by_cases h : 1 ≤ n
  · exact pos n h (by omega)
  · have := pos (-n) (by omega) (by omega)
    rw [trueB_not _ n h0, hT n h0] at this
    cases h1 : trueB n (bitsL vars m) <;> cases h2 : T n <;> rw [h1, h2] at this <;> first | rfl | (revert this; decide)
theorem means_bits {cs : List (List Int)} {ts : List Bool} {vars : Nat} {T : Int → Bool} (hT : ∀ n, n ≠ 0 → T (-n) = !T n) (hf : ∀ c ∈ cs, ∀ n ∈ c, n ≠ 0 ∧ max n (-n) ≤ vars) (hts : ts.length ≤ vars) (hlow : ∀ n : Int, n ≠ 0 → max n (-n) ≤ ts.length → T n = trueB n ts) (hall : AllT T cs) :
    ∃ m, m < 2 ^ vars ∧ AllT (fun n => trueB n (bitsL vars m)) (cs ++ unitT ts) := by
  obtain ⟨m, hm, hb⟩ := bits_as hT vars
  refine ⟨m, hm, fun c hc => ?_⟩
  rcases List.mem_append.1 hc with hc | hc
  · obtain ⟨n, hn, ht⟩ := hall c hc
    obtain ⟨h0, h1⟩ := hf c hc n hn
    exact ⟨n, hn, (hb n h0 h1).trans ht⟩
  · unfold unitT at hc
    obtain ⟨i, hi, rfl⟩ := List.mem_map.1 hc
    rw [List.mem_range] at hi
    refine ⟨_, List.mem_singleton.2 rfl, ?_⟩
    cases ht : ts.getD i false
    · simp only [Bool.false_eq_true, if_false]
      rw [hb _ (by omega) (by omega), hlow _ (by omega) (by omega), trueB_neg _ _ (by omega), show (-(-((i : Int) + 1)) - 1).toNat = i by omega, ht]; rfl
    · simp only [if_true]
      rw [hb _ (by omega) (by omega), hlow _ (by omega) (by omega), trueB_pos _ _ (by omega), show ((i : Int) + 1 - 1).toNat = i by omega, ht]
theorem means_back {cs : List (List Int)} {ts us : List Bool} (h : AllT (fun n => trueB n us) (cs ++ unitT ts)) : AllT (fun n => trueB n us) cs ∧ ∀ n : Int, n ≠ 0 → max n (-n) ≤ ts.length → trueB n us = trueB n ts := by
  refine ⟨fun c hc => h c (List.mem_append_left _ hc), ?_⟩
  have pos : ∀ p : Int, 1 ≤ p → p ≤ ts.length → trueB p us = trueB p ts := fun p h1 h2 => by
    obtain ⟨i, hi⟩ : ∃ i : Nat, p = (i : Int) + 1 := ⟨(p - 1).toNat, by omega⟩
    subst hi
    obtain ⟨n, hn, ht⟩ := h [if ts.getD i false then (i : Int) + 1 else -((i : Int) + 1)] (List.mem_append_right _ (List.mem_map.2 ⟨i, by rw [List.mem_range]; omega, rfl⟩))
    simp only [List.mem_singleton] at hn
    rw [trueB_pos _ ts h1, show ((i : Int) + 1 - 1).toNat = i by omega]
    cases hb : ts.getD i false
    · rw [hb] at hn
      simp only [Bool.false_eq_true, if_false] at hn
      subst hn
      simp only at ht
      rw [trueB_not _ _ (by omega)] at ht
      simpa using ht
    · rw [hb] at hn
      simp only [if_true] at hn
      subst hn
      exact ht
  intro n h0 hn
  by_cases h1 : 1 ≤ n
  · exact pos n h1 (by omega)
  · have := pos (-n) (by omega) (by omega)
    rw [trueB_not _ n h0, trueB_not _ n h0] at this
    cases h1 : trueB n us <;> cases h2 : trueB n ts <;> rw [h1, h2] at this <;> first | rfl | (revert this; decide)
/-- the counter's clauses can be met just if no more than k literals are true -/
theorem most_means {x : List Int} {k next : Int} {ts : List Bool} {vars : Nat} (hk : 1 ≤ k) (hkn : k < x.length) (hn : next = (ts.length : Int) + 1) (hx0 : ∀ i : Nat, i < x.length → x.getD i 0 ≠ 0) (hx : ∀ y ∈ x, y ≠ 0 ∧ max y (-y) < next) (hts : ts.length ≤ vars)
    (hf : ∀ c ∈ most x k next, ∀ n ∈ c, n ≠ 0 ∧ max n (-n) ≤ vars) :
    (∃ m, m < 2 ^ vars ∧ AllT (fun n => trueB n (bitsL vars m)) (most x k next ++ unitT ts)) ↔ (cntT (fun n => trueB n ts) x : Int) ≤ k := by
  constructor
  · rintro ⟨m, _, h⟩
    obtain ⟨h1, h2⟩ := means_back h
    have h3 := most_sound (T := fun n => trueB n (bitsL vars m)) (fun n hn => trueB_not _ n hn) hk hkn (by omega) hx0 h1
    have e : cntT (fun n => trueB n (bitsL vars m)) x = cntT (fun n => trueB n ts) x := by
      unfold cntT
      congr 1
      apply List.filter_congr
      intro y hy
      exact h2 y (hx y hy).1 (by have := (hx y hy).2; omega)
    rw [← e]; exact h3
  · intro hc
    have h1 := most_ext (T0 := fun n => trueB n ts) (fun n hn => trueB_not _ n hn) hk hkn (by omega) hx0 (fun y hy => (hx y hy).2) hc
    exact means_bits (fun n hn => extT_neg (fun n hn => trueB_not _ n hn) n hn) hf hts (fun n h0 hl => extT_low (by omega)) h1
theorem cntT_zero {T : Int → Bool} {x : List Int} (h : cntT T x = 0) : ∀ y ∈ x, T y = false := by
  intro y hy
  unfold cntT at h
  have h0 := List.eq_nil_of_length_eq_zero h
  rw [List.filter_eq_nil_iff] at h0
  simpa using h0 y hy
theorem cntT_none {T : Int → Bool} {x : List Int} (h : ∀ y ∈ x, T y = false) : cntT T x = 0 := by
  unfold cntT
  rw [List.length_eq_zero_iff, List.filter_eq_nil_iff]
  intro y hy
  rw [h y hy]; simp
theorem cntT_le (T : Int → Bool) (x : List Int) : cntT T x ≤ x.length := List.length_filter_le _ _
/-- the clauses can be met just if no more than k literals are true -/
theorem cls_means {x : List Int} {k next : Int} {ts : List Bool} {vars : Nat} (hn : next = (ts.length : Int) + 1) (hx : ∀ y ∈ x, y ≠ 0 ∧ max y (-y) < next) (hts : ts.length ≤ vars)
    (hf : ∀ c ∈ clsL x k next, ∀ n ∈ c, n ≠ 0 ∧ max n (-n) ≤ vars) :
    (∃ m, m < 2 ^ vars ∧ AllT (fun n => trueB n (bitsL vars m)) (clsL x k next ++ unitT ts)) ↔ (cntT (fun n => trueB n ts) x : Int) ≤ k := by
  have hle := cntT_le (fun n => trueB n ts) x
  unfold clsL at hf ⊢
  by_cases h1 : k < 0
  · rw [if_pos h1]
    constructor
    · rintro ⟨m, _, h⟩
      obtain ⟨n, hn, _⟩ := h [] (by simp)
      simp at hn
    · intro h; omega
  rw [if_neg h1] at hf ⊢
  by_cases h2 : (x.length : Int) ≤ k
  · rw [if_pos h2]
    exact ⟨fun _ => by omega, fun _ => means_bits (cs := []) (T := fun n => trueB n ts) (fun n hn => trueB_not _ n hn) (by simp) hts (fun n _ _ => rfl) (fun c hc => by simp at hc)⟩
  rw [if_neg h2] at hf ⊢
  by_cases h3 : k = 0
  · rw [if_pos h3] at hf ⊢
    constructor
    · rintro ⟨m, _, h⟩
      obtain ⟨b1, b2⟩ := means_back h
      have : cntT (fun n => trueB n ts) x = 0 := cntT_none fun y hy => by
        obtain ⟨n, hn, ht⟩ := b1 [-y] (by unfold none0; exact List.mem_map.2 ⟨y, hy, rfl⟩)
        simp only [List.mem_singleton] at hn
        subst hn
        obtain ⟨y0, y1⟩ := hx y hy
        have ht : trueB (-y) (bitsL vars m) = true := ht
        rw [trueB_not _ y y0] at ht
        show trueB y ts = false
        rw [← b2 y y0 (by omega)]
        simpa using ht
      omega
    · intro hc
      have hz := cntT_zero (show cntT (fun n => trueB n ts) x = 0 by omega)
      refine means_bits (T := fun n => trueB n ts) (fun n hn => trueB_not _ n hn) hf hts (fun n _ _ => rfl) ?_
      intro c hc
      unfold none0 at hc
      obtain ⟨y, hy, rfl⟩ := List.mem_map.1 hc
      refine ⟨-y, by simp, ?_⟩
      show trueB (-y) ts = true
      rw [trueB_not _ y (hx y hy).1]
      have hzy : trueB y ts = false := hz y hy
      rw [hzy]; rfl
  rw [if_neg h3] at hf ⊢
  refine most_means (by omega) (by omega) hn (fun i hi => ?_) hx hts hf
  rw [List.getD_eq_getElem?_getD, List.getElem?_eq_getElem hi]
  exact (hx _ (List.getElem_mem hi)).1
end Go.Proofs.Ytfgoalgfpcalgaa
