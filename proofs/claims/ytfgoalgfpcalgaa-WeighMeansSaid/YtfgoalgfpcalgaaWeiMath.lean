/-
  Layer 21: what the counter's clauses mean: they hold just where no more than k literals are true (most_sound, most_complete, most_ext); each row of truths is a number's (bits_ex). Plain mathematics. Own work.
-/
import Derived.Test.YtfgoalgfpcalgaaAtMostLem
namespace Go.Proofs.Ytfgoalgfpcalgaa
set_option linter.unusedVariables false
set_option linter.unusedSimpArgs false
open Go.RowKit

/-- how many of these literals are true -/
def cntT (T : Int → Bool) (x : List Int) : Nat := (x.filter T).length
/-- each clause has a true literal -/
def AllT (T : Int → Bool) (cs : List (List Int)) : Prop := ∀ c ∈ cs, ∃ n ∈ c, T n = true
theorem cntT_snoc (T : Int → Bool) (x : List Int) (i : Nat) (h : i < x.length) : cntT T (x.take (i + 1)) = cntT T (x.take i) + (if T (x.getD i 0) then 1 else 0) := by
  unfold cntT
  rw [List.take_succ_eq_append_getElem h, List.filter_append, List.length_append, List.getD_eq_getElem?_getD, List.getElem?_eq_getElem h]
  simp only [Option.getD_some, List.filter_cons, List.filter_nil]
  split <;> simp
theorem two_cl {T : Int → Bool} {a b : Int} (hT : ∀ n, n ≠ 0 → T (-n) = !T n) (ha : a ≠ 0) (h : ∃ n ∈ [-a, b], T n = true) (h1 : T a = true) : T b = true := by
  obtain ⟨n, hn, ht⟩ := h
  simp only [List.mem_cons, List.not_mem_nil, or_false] at hn
  rcases hn with rfl | rfl
  · rw [hT a ha, h1] at ht; cases ht
  · exact ht
theorem three_cl {T : Int → Bool} {a b c : Int} (hT : ∀ n, n ≠ 0 → T (-n) = !T n) (ha : a ≠ 0) (hb : b ≠ 0) (h : ∃ n ∈ [-a, -b, c], T n = true) (h1 : T a = true) (h2 : T b = true) : T c = true := by
  obtain ⟨n, hn, ht⟩ := h
  simp only [List.mem_cons, List.not_mem_nil, or_false] at hn
  rcases hn with rfl | rfl | rfl
  · rw [hT a ha, h1] at ht; cases ht
  · rw [hT b hb, h2] at ht; cases ht
  · exact ht
theorem sv_pos {next k i j : Int} (hn : 1 ≤ next) (hk : 1 ≤ k) (hi : 1 ≤ i) (hj : 1 ≤ j) : sv next k i j ≠ 0 := by
  have : 0 ≤ (i - 1) * k := Int.mul_nonneg (by omega) (by omega)
  unfold sv; omega
/-- what a block of clauses says -/
theorem blk_sound {T : Int → Bool} (hT : ∀ n, n ≠ 0 → T (-n) = !T n) {next k xi : Int} {i : Nat} (hn : 1 ≤ next) (hk : 1 ≤ k) (hi : 1 ≤ i) (hxi : xi ≠ 0) (h : AllT T (blk next k xi (i : Int) ((i : Int) + 1))) {c : Nat} (hc : ∀ j : Nat, 1 ≤ j → (j : Int) ≤ k → j ≤ c → T (sv next k i j) = true) (hck : (c : Int) ≤ k) :
    (∀ j : Nat, 1 ≤ j → (j : Int) ≤ k → j ≤ c + (if T xi then 1 else 0) → T (sv next k ((i : Int) + 1) j) = true) ∧ ((c + (if T xi then 1 else 0) : Nat) : Int) ≤ k := by
  have m1 : [-xi, sv next k ((i : Int) + 1) 1] ∈ blk next k xi (i : Int) ((i : Int) + 1) := by unfold blk; simp
  have m2 : [-(sv next k i 1), sv next k ((i : Int) + 1) 1] ∈ blk next k xi (i : Int) ((i : Int) + 1) := by unfold blk; simp
  have m5 : [-xi, -(sv next k i k)] ∈ blk next k xi (i : Int) ((i : Int) + 1) := by unfold blk; simp
  have m34 : ∀ t : Nat, (t : Int) + 2 ≤ k → [-xi, -(sv next k i ((t : Int) + 1)), sv next k ((i : Int) + 1) ((t : Int) + 2)] ∈ blk next k xi (i : Int) ((i : Int) + 1) ∧ [-(sv next k i ((t : Int) + 2)), sv next k ((i : Int) + 1) ((t : Int) + 2)] ∈ blk next k xi (i : Int) ((i : Int) + 1) := by
    intro t ht
    have hr : t ∈ List.range (k - 1).toNat := by rw [List.mem_range]; omega
    constructor
    · unfold blk rin
      refine List.mem_append_left _ (List.mem_append_right _ (List.mem_flatMap.2 ⟨t, hr, by simp⟩))
    · unfold blk rin
      refine List.mem_append_left _ (List.mem_append_right _ (List.mem_flatMap.2 ⟨t, hr, by simp⟩))
  have p1 : ∀ j : Int, 1 ≤ j → sv next k i j ≠ 0 := fun j hj => sv_pos hn hk (by omega) hj
  constructor
  · intro j hj1 hjk hjc
    by_cases hj : j = 1
    · subst hj
      by_cases hc1 : 1 ≤ c
      · exact two_cl hT (p1 1 (by omega)) (h _ m2) (hc 1 (by omega) hjk hc1)
      · cases hx : T xi
        · rw [hx] at hjc; simp at hjc; omega
        · exact two_cl hT hxi (h _ m1) hx
    · obtain ⟨t, rfl⟩ : ∃ t, j = t + 2 := ⟨j - 2, by omega⟩
      obtain ⟨a1, a2⟩ := m34 t (by omega)
      have e2 : (((t + 2 : Nat) : Int)) = (t : Int) + 2 := by omega
      rw [e2]
      by_cases hc1 : t + 2 ≤ c
      · have := hc (t + 2) (by omega) hjk hc1
        rw [e2] at this
        exact two_cl hT (p1 _ (by omega)) (h _ a2) this
      · cases hx : T xi
        · rw [hx] at hjc; simp at hjc; omega
        · rw [hx] at hjc
          simp only [if_true] at hjc
          have := hc (t + 1) (by omega) (by omega) (by omega)
          rw [show (((t + 1 : Nat) : Int)) = (t : Int) + 1 by omega] at this
          exact three_cl hT hxi (p1 _ (by omega)) (h _ a1) hx this
  · cases hx : T xi
    · simp only [Bool.false_eq_true, if_false]; omega
    · simp only [if_true]
      by_cases hlt : (c : Int) < k
      · omega
      · exfalso
        have hcc := hc c (by omega) hck (Nat.le_refl _)
        rw [show (c : Int) = k by omega] at hcc
        have := two_cl (b := -(sv next k i k)) hT hxi (h _ m5) hx
        rw [hT _ (p1 k hk), hcc] at this
        cases this
theorem most_sound {T : Int → Bool} (hT : ∀ n, n ≠ 0 → T (-n) = !T n) {x : List Int} {k next : Int} (hk : 1 ≤ k) (hkn : k < x.length) (hn : 1 ≤ next) (hx : ∀ i : Nat, i < x.length → x.getD i 0 ≠ 0) (h : AllT T (most x k next)) : (cntT T x : Int) ≤ k := by
  have main : ∀ i : Nat, 1 ≤ i → i + 1 ≤ x.length → (∀ j : Nat, 1 ≤ j → (j : Int) ≤ k → j ≤ cntT T (x.take i) → T (sv next k i j) = true) ∧ (cntT T (x.take i) : Int) ≤ k := by
    intro i hi
    induction i with
    | zero => omega
    | succ i ih =>
      intro hlen
      by_cases h0 : i = 0
      · subst h0
        have e := cntT_snoc T x 0 (by omega)
        have e0 : cntT T (x.take 0) = 0 := by simp [cntT]
        rw [e0] at e
        have m1 : [-(x.getD 0 0), sv next k 1 1] ∈ most x k next := by unfold most; simp
        refine ⟨fun j h1 h2 h3 => ?_, ?_⟩
        · cases ht : T (x.getD 0 0)
          · rw [ht] at e; simp at e; rw [e] at h3; omega
          · rw [ht] at e; simp only [if_true] at e
            have : j = 1 := by omega
            subst this
            exact two_cl hT (hx 0 (by omega)) (h _ m1) ht
        · rw [e]; split <;> omega
      · obtain ⟨a1, a2⟩ := ih (by omega) (by omega)
        have e := cntT_snoc T x i (by omega)
        obtain ⟨t, rfl⟩ : ∃ t, i = t + 1 := ⟨i - 1, by omega⟩
        have hb : AllT T (blk next k (x.getD (t + 1) 0) ((t + 1 : Nat) : Int) (((t + 1 : Nat) : Int) + 1)) := by
          intro c hc
          refine h c ?_
          unfold most r2
          refine List.mem_append_left _ (List.mem_append_right _ (List.mem_flatMap.2 ⟨t, by rw [List.mem_range]; omega, ?_⟩))
          have e1 : ((t + 1 : Nat) : Int) = (t : Int) + 1 := by omega
          rw [e1] at hc
          rw [show (t : Int) + 2 = (t : Int) + 1 + 1 by omega]
          exact hc
        have := blk_sound hT hn hk (by omega) (hx (t + 1) (by omega)) hb a1 a2
        rw [← e] at this
        exact this
  have hnl : 2 ≤ x.length := by omega
  obtain ⟨a1, a2⟩ := main (x.length - 1) (by omega) (by omega)
  have e := cntT_snoc T x (x.length - 1) (by omega)
  have e1 : x.take (x.length - 1 + 1) = x := by rw [List.take_of_length_le (by omega)]
  rw [e1] at e
  cases ht : T (x.getD (x.length - 1) 0)
  · rw [ht] at e; simp only [Bool.false_eq_true, if_false, Nat.add_zero] at e; omega
  · rw [ht] at e
    simp only [if_true] at e
    by_cases hlt : (cntT T (x.take (x.length - 1)) : Int) < k
    · omega
    · exfalso
      have hcc := a1 k.toNat (by omega) (by omega) (by omega)
      have e2 : ((x.length - 1 : Nat) : Int) = (x.length : Int) - 1 := by omega
      rw [e2, show ((k.toNat : Nat) : Int) = k by omega] at hcc
      have m : [-(x.getD (x.length - 1) 0), -(sv next k ((x.length : Int) - 1) k)] ∈ most x k next := by unfold most; simp
      have := two_cl (b := -(sv next k ((x.length : Int) - 1) k)) hT (hx _ (by omega)) (h _ m) ht
      rw [hT _ (sv_pos hn hk (by omega) hk), hcc] at this
      cases this
theorem cntT_mono (T : Int → Bool) (x : List Int) (i : Nat) : cntT T (x.take i) ≤ cntT T x := by
  unfold cntT
  exact (List.Sublist.filter T (List.take_sublist i x)).length_le
theorem neg_cl {T : Int → Bool} {a : Int} (hT : ∀ n, n ≠ 0 → T (-n) = !T n) (ha : a ≠ 0) (h : T a = false) : T (-a) = true := by rw [hT a ha, h]; rfl
theorem two_ok {T : Int → Bool} {a b : Int} (hT : ∀ n, n ≠ 0 → T (-n) = !T n) (ha : a ≠ 0) (h : T a = true → T b = true) : ∃ n ∈ [-a, b], T n = true := by
  cases ht : T a
  · exact ⟨-a, by simp, neg_cl hT ha ht⟩
  · exact ⟨b, by simp, h ht⟩
theorem three_ok {T : Int → Bool} {a b c : Int} (hT : ∀ n, n ≠ 0 → T (-n) = !T n) (ha : a ≠ 0) (hb : b ≠ 0) (h : T a = true → T b = true → T c = true) : ∃ n ∈ [-a, -b, c], T n = true := by
  cases ht : T a
  · exact ⟨-a, by simp, neg_cl hT ha ht⟩
  · cases hu : T b
    · exact ⟨-b, by simp, neg_cl hT hb hu⟩
    · exact ⟨c, by simp, h ht hu⟩
/-- where the further variables count, all clauses hold -/
theorem most_complete {T : Int → Bool} (hT : ∀ n, n ≠ 0 → T (-n) = !T n) {x : List Int} {k next : Int} (hk : 1 ≤ k) (hkn : k < x.length) (hn : 1 ≤ next) (hx : ∀ i : Nat, i < x.length → x.getD i 0 ≠ 0)
    (hS : ∀ i j : Nat, 1 ≤ i → i + 1 ≤ x.length → 1 ≤ j → (j : Int) ≤ k → T (sv next k i j) = decide (j ≤ cntT T (x.take i))) (hc : (cntT T x : Int) ≤ k) : AllT T (most x k next) := by
  have hsv : ∀ i j : Nat, 1 ≤ i → i + 1 ≤ x.length → 1 ≤ j → (j : Int) ≤ k → (T (sv next k i j) = true ↔ j ≤ cntT T (x.take i)) := fun i j a b c d => by rw [hS i j a b c d]; simp
  have p1 : ∀ i j : Int, 1 ≤ i → 1 ≤ j → sv next k i j ≠ 0 := fun i j hi hj => sv_pos hn hk hi hj
  have c1 : cntT T (x.take 1) = if T (x.getD 0 0) then 1 else 0 := by
    have e := cntT_snoc T x 0 (by omega)
    have e0 : cntT T (x.take 0) = 0 := by simp [cntT]
    rw [e0] at e
    simpa using e
  intro c hcm
  unfold most at hcm
  rcases List.mem_append.1 hcm with hcm | hcm
  · rcases List.mem_append.1 hcm with hcm | hcm
    · rcases List.mem_append.1 hcm with hcm | hcm
      · simp only [List.mem_singleton] at hcm
        subst hcm
        refine two_ok hT (hx 0 (by omega)) fun ht => ?_
        have := (hsv 1 1 (by omega) (by omega) (by omega) hk).2 (by rw [c1, ht]; simp)
        exact this
      · unfold r1 at hcm
        obtain ⟨t, ht, rfl⟩ := List.mem_map.1 hcm
        rw [List.mem_range] at ht
        refine ⟨-(sv next k 1 ((t : Int) + 2)), by simp, neg_cl hT (p1 _ _ (by omega) (by omega)) ?_⟩
        have := hS 1 (t + 2) (by omega) (by omega) (by omega) (by omega)
        rw [show (((t + 2 : Nat) : Int)) = (t : Int) + 2 by omega] at this
        refine this.trans (decide_eq_false ?_)
        rw [c1]
        split <;> omega
    · unfold r2 at hcm
      obtain ⟨t, ht, hcm⟩ := List.mem_flatMap.1 hcm
      rw [List.mem_range] at ht
      have e := cntT_snoc T x (t + 1) (by omega)
      have hmono := cntT_mono T x (t + 1 + 1)
      have hxi := hx (t + 1) (by omega)
      generalize x.getD (t + 1) 0 = xi at *
      have s1 : ∀ j : Nat, 1 ≤ j → (j : Int) ≤ k → (T (sv next k ((t : Int) + 1) j) = true ↔ j ≤ cntT T (x.take (t + 1))) := fun j a b => hsv (t + 1) j (by omega) (by omega) a b
      have s2 : ∀ j : Nat, 1 ≤ j → (j : Int) ≤ k → (T (sv next k ((t : Int) + 2) j) = true ↔ j ≤ cntT T (x.take (t + 1 + 1))) := fun j a b => hsv (t + 1 + 1) j (by omega) (by omega) a b
      unfold blk at hcm
      rcases List.mem_append.1 hcm with hcm | hcm
      · rcases List.mem_append.1 hcm with hcm | hcm
        · rcases List.mem_append.1 hcm with hcm | hcm
          · simp only [List.mem_singleton] at hcm
            subst hcm
            exact two_ok hT hxi fun hi => (s2 1 (by omega) hk).2 (by rw [e, hi]; simp)
          · simp only [List.mem_singleton] at hcm
            subst hcm
            exact two_ok hT (p1 _ _ (by omega) (by omega)) fun hi => (s2 1 (by omega) hk).2 (by have := (s1 1 (by omega) hk).1 hi; omega)
        · unfold rin at hcm
          obtain ⟨u, hu, hcm⟩ := List.mem_flatMap.1 hcm
          rw [List.mem_range] at hu
          simp only [List.mem_cons, List.not_mem_nil, or_false] at hcm
          have e2 : (((u + 2 : Nat) : Int)) = (u : Int) + 2 := by omega
          have e1 : (((u + 1 : Nat) : Int)) = (u : Int) + 1 := by omega
          have t1 := s1 (u + 1) (by omega) (by omega)
          have t2 := s1 (u + 2) (by omega) (by omega)
          have t3 := s2 (u + 2) (by omega) (by omega)
          rw [e1] at t1
          rw [e2] at t2 t3
          rcases hcm with rfl | rfl
          · refine three_ok hT hxi (p1 _ _ (by omega) (by omega)) fun hi hj => t3.2 ?_
            have := t1.1 hj
            rw [e, hi]; simp; omega
          · refine two_ok hT (p1 _ _ (by omega) (by omega)) fun hj => t3.2 ?_
            have := t2.1 hj
            omega
      · simp only [List.mem_singleton] at hcm
        subst hcm
        refine two_ok hT hxi fun hi => ?_
        refine neg_cl hT (p1 _ _ (by omega) (by omega)) ?_
        rw [Bool.eq_false_iff]
        intro hj
        have h3 := s1 k.toNat (by omega) (by omega)
        rw [show ((k.toNat : Nat) : Int) = k by omega] at h3
        have := h3.1 hj
        rw [hi] at e
        simp only [if_true] at e
        omega
  · simp only [List.mem_singleton] at hcm
    subst hcm
    refine two_ok hT (hx _ (by omega)) fun hi => ?_
    refine neg_cl hT (p1 _ _ (by omega) (by omega)) ?_
    rw [Bool.eq_false_iff]
    intro hj
    have e := cntT_snoc T x (x.length - 1) (by omega)
    rw [List.take_of_length_le (i := x.length - 1 + 1) (by omega), hi] at e
    simp only [if_true] at e
    have h3 := hsv (x.length - 1) k.toNat (by omega) (by omega) (by omega) (by omega)
    rw [show ((k.toNat : Nat) : Int) = k by omega, show (((x.length - 1 : Nat) : Int)) = (x.length : Int) - 1 by omega] at h3
    have := h3.1 hj
    omega
theorem sv_dec {next k : Int} {i j : Int} (hk : 1 ≤ k) (hj : 1 ≤ j) (hjk : j ≤ k) : (sv next k i j - next) / k = i - 1 ∧ (sv next k i j - next) % k = j - 1 := by
  have e : sv next k i j - next = (j - 1) + k * (i - 1) := by unfold sv; rw [Int.mul_comm k (i - 1)]; omega
  rw [e]
  exact (Int.ediv_emod_unique (by omega)).2 ⟨rfl, by omega, by omega⟩
/-- is a further variable true, where these count the literals? -/
def decS (T0 : Int → Bool) (x : List Int) (k next v : Int) : Bool := decide (((v - next) % k + 1).toNat ≤ cntT T0 (x.take ((v - next) / k + 1).toNat))
def extT (T0 : Int → Bool) (x : List Int) (k next : Int) (n : Int) : Bool := if max n (-n) < next then T0 n else if 0 < n then decS T0 x k next n else !decS T0 x k next (-n)
theorem extT_low {T0 : Int → Bool} {x : List Int} {k next n : Int} (h : max n (-n) < next) : extT T0 x k next n = T0 n := by unfold extT; rw [if_pos h]
theorem extT_neg {T0 : Int → Bool} {x : List Int} {k next : Int} (hT : ∀ n, n ≠ 0 → T0 (-n) = !T0 n) (n : Int) (hn : n ≠ 0) : extT T0 x k next (-n) = !extT T0 x k next n := by
  unfold extT
  by_cases h : max n (-n) < next
  · rw [if_pos h, if_pos (by omega), hT n hn]
  · rw [if_neg h, if_neg (by omega)]
    by_cases hp : 0 < n
    · rw [if_pos hp, if_neg (by omega), Int.neg_neg]
    · rw [if_neg hp, if_pos (by omega), Bool.not_not]
theorem cnt_ext {T0 : Int → Bool} {x : List Int} {k next : Int} (hx : ∀ y ∈ x, max y (-y) < next) (i : Nat) : cntT (extT T0 x k next) (x.take i) = cntT T0 (x.take i) := by
  unfold cntT
  congr 1
  apply List.filter_congr
  intro y hy
  exact extT_low (hx y (List.mem_of_mem_take hy))
/-- truths can be gone on to, where no more than k literals are true -/
theorem most_ext {T0 : Int → Bool} (hT : ∀ n, n ≠ 0 → T0 (-n) = !T0 n) {x : List Int} {k next : Int} (hk : 1 ≤ k) (hkn : k < x.length) (hn : 1 ≤ next) (hx0 : ∀ i : Nat, i < x.length → x.getD i 0 ≠ 0) (hx : ∀ y ∈ x, max y (-y) < next) (hc : (cntT T0 x : Int) ≤ k) :
    AllT (extT T0 x k next) (most x k next) := by
  refine most_complete (fun n h => extT_neg hT n h) hk hkn hn hx0 ?_ ?_
  · intro i j hi hil hj hjk
    rw [cnt_ext hx]
    obtain ⟨e1, e2⟩ := sv_dec (next := next) (i := i) hk (show (1 : Int) ≤ j by omega) hjk
    have hb : 0 ≤ ((i : Int) - 1) * k := Int.mul_nonneg (by omega) (by omega)
    have hv : next ≤ sv next k i j := by unfold sv; omega
    unfold extT
    rw [if_neg (by omega), if_pos (by omega)]
    unfold decS
    rw [e1, e2]
    rw [show ((j : Int) - 1 + 1).toNat = j by omega, show ((i : Int) - 1 + 1).toNat = i by omega]
  · have := cnt_ext (T0 := T0) (k := k) hx x.length
    rw [List.take_length] at this
    rw [this]; exact hc
/-- each row of truths is some number's -/
theorem bits_ex (f : Nat → Bool) : ∀ n, ∃ m, m < 2 ^ n ∧ ∀ v, v < n → m.testBit v = f v
  | 0 => ⟨0, by simp, fun v h => by omega⟩
  | n + 1 => by
    obtain ⟨m, hm, hv⟩ := bits_ex f n
    have hp : 2 ^ (n + 1) = 2 ^ n + 2 ^ n := by rw [Nat.pow_succ]; omega
    cases hf : f n
    · refine ⟨m, by omega, fun v h => ?_⟩
      by_cases hvn : v = n
      · subst hvn; rw [hf]; exact Nat.testBit_lt_two_pow hm
      · exact hv v (by omega)
    · refine ⟨2 ^ n + m, by omega, fun v h => ?_⟩
      by_cases hvn : v = n
      · subst hvn
        rw [hf, Nat.testBit_two_pow_add_eq, Nat.testBit_lt_two_pow hm]; rfl
      · rw [Nat.testBit_two_pow_add_gt (by omega)]
        exact hv v (by omega)
end Go.Proofs.Ytfgoalgfpcalgaa
