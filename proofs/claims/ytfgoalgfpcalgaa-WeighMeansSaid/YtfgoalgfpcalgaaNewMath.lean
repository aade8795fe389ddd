/-
  Layer 21, plain: which literals the clauses have: each is one of the literals', or a further variable's; each further variable stands in some clause. Own work.
-/
import Derived.Test.YtfgoalgfpcalgaaLaws21b
namespace Go.Proofs.Ytfgoalgfpcalgaa
set_option linter.unusedVariables false
set_option linter.unusedSimpArgs false

theorem sv_range (next k n i j : Int) (h1 : 1 ≤ i) (h2 : i + 1 ≤ n) (h3 : 1 ≤ j) (h4 : j ≤ k) : next ≤ sv next k i j ∧ sv next k i j < next + (n - 1) * k := by
  have a1 : 0 ≤ (i - 1) * k := Int.mul_nonneg (by omega) (by omega)
  have a2 : (i - 1 + 1) * k ≤ (n - 1) * k := Int.mul_le_mul_of_nonneg_right (by omega) (by omega)
  rw [Int.add_mul, Int.one_mul] at a2
  unfold sv
  omega
/-- n stands for a further variable, or for one of the literals' -/
def Fine (x : List Int) (next after n : Int) : Prop := (next ≤ max n (-n) ∧ max n (-n) < after) ∨ ∃ y ∈ x, max n (-n) = max y (-y)
theorem fine_sv {x : List Int} {next k i j : Int} (hn : 0 ≤ next) (h1 : 1 ≤ i) (h2 : i + 1 ≤ x.length) (h3 : 1 ≤ j) (h4 : j ≤ k) : Fine x next (next + ((x.length : Int) - 1) * k) (sv next k i j) := by
  have := sv_range next k x.length i j h1 h2 h3 h4
  left; omega
theorem fine_nsv {x : List Int} {next k i j : Int} (hn : 0 ≤ next) (h1 : 1 ≤ i) (h2 : i + 1 ≤ x.length) (h3 : 1 ≤ j) (h4 : j ≤ k) : Fine x next (next + ((x.length : Int) - 1) * k) (-(sv next k i j)) := by
  have := sv_range next k x.length i j h1 h2 h3 h4
  left; omega
theorem fine_lit {x : List Int} {next after : Int} {q : Nat} (h : q < x.length) : Fine x next after (-(x.getD q 0)) := by
  right
  refine ⟨x[q], List.getElem_mem h, ?_⟩
  rw [List.getD, List.getElem?_eq_getElem h, Option.getD_some]
  omega
theorem most_fine (x : List Int) (k next : Int) (hk : 1 ≤ k) (hkn : k < x.length) (hn : 0 ≤ next) : ∀ c ∈ most x k next, ∀ n ∈ c, Fine x next (next + ((x.length : Int) - 1) * k) n := by
  intro c hc n hnc
  unfold most at hc
  simp only [List.mem_append, List.mem_cons, List.not_mem_nil, or_false] at hc
  rcases hc with ((rfl | h) | h) | rfl
  · simp only [List.mem_cons, List.not_mem_nil, or_false] at hnc
    rcases hnc with rfl | rfl
    · exact fine_lit (by omega)
    · exact fine_sv hn (by omega) (by omega) (by omega) (by omega)
  · unfold r1 at h
    obtain ⟨t, ht, rfl⟩ := List.mem_map.1 h
    have ht' := List.mem_range.1 ht
    simp only [List.mem_cons, List.not_mem_nil, or_false] at hnc
    subst hnc
    exact fine_nsv hn (by omega) (by omega) (by omega) (by omega)
  · unfold r2 at h
    obtain ⟨q, hq, h⟩ := List.mem_flatMap.1 h
    have hq' := List.mem_range.1 hq
    unfold blk at h
    simp only [List.mem_append, List.mem_cons, List.not_mem_nil, or_false] at h
    rcases h with ((rfl | rfl) | h) | rfl
    · simp only [List.mem_cons, List.not_mem_nil, or_false] at hnc
      rcases hnc with rfl | rfl
      · exact fine_lit (by omega)
      · exact fine_sv hn (by omega) (by omega) (by omega) (by omega)
    · simp only [List.mem_cons, List.not_mem_nil, or_false] at hnc
      rcases hnc with rfl | rfl
      · exact fine_nsv hn (by omega) (by omega) (by omega) (by omega)
      · exact fine_sv hn (by omega) (by omega) (by omega) (by omega)
    · unfold rin at h
      obtain ⟨t, ht, h⟩ := List.mem_flatMap.1 h
      have ht' := List.mem_range.1 ht
      simp only [List.mem_cons, List.not_mem_nil, or_false] at h
      rcases h with rfl | rfl
      · simp only [List.mem_cons, List.not_mem_nil, or_false] at hnc
        rcases hnc with rfl | rfl | rfl
        · exact fine_lit (by omega)
        · exact fine_nsv hn (by omega) (by omega) (by omega) (by omega)
        · exact fine_sv hn (by omega) (by omega) (by omega) (by omega)
      · simp only [List.mem_cons, List.not_mem_nil, or_false] at hnc
        rcases hnc with rfl | rfl
        · exact fine_nsv hn (by omega) (by omega) (by omega) (by omega)
        · exact fine_sv hn (by omega) (by omega) (by omega) (by omega)
    · simp only [List.mem_cons, List.not_mem_nil, or_false] at hnc
      rcases hnc with rfl | rfl
      · exact fine_lit (by omega)
      · exact fine_nsv hn (by omega) (by omega) (by omega) (by omega)
  · simp only [List.mem_cons, List.not_mem_nil, or_false] at hnc
    rcases hnc with rfl | rfl
    · exact fine_lit (by omega)
    · exact fine_nsv hn (by omega) (by omega) (by omega) (by omega)
/-- each further variable stands in some clause -/
theorem most_all (x : List Int) (k next : Int) (hk : 1 ≤ k) (hkn : k < x.length) (m : Int) (h0 : 0 ≤ m) (h1 : m < ((x.length : Int) - 1) * k) : ∃ c ∈ most x k next, ∃ n ∈ c, n = next + m ∨ n = -(next + m) := by
  -- m = (i - 1) * k + (j - 1)
  have hd := Int.emod_add_mul_ediv m k
  have hj0 := Int.emod_nonneg m (show k ≠ 0 by omega)
  have hj1 := Int.emod_lt_of_pos m (show 0 < k by omega)
  have hi0 : 0 ≤ m / k := Int.ediv_nonneg h0 (by omega)
  have hi1 : m / k < (x.length : Int) - 1 := Int.ediv_lt_of_lt_mul (by omega) h1
  generalize hI : m / k = I at hd hi0 hi1
  generalize hJ : m % k = J at hd hj0 hj1
  have hs : ∀ i j, i = I + 1 → j = J + 1 → sv next k i j = next + m := by
    intro i j hi hj
    subst hi; subst hj
    unfold sv
    have : (I + 1 - 1) * k = k * I := by rw [show I + 1 - 1 = I by omega, Int.mul_comm]
    rw [this]; omega
  by_cases hI0 : I = 0
  · by_cases hJ0 : J = 0
    · exact ⟨[-(x.getD 0 0), sv next k 1 1], by unfold most; simp, sv next k 1 1, by simp, .inl (hs 1 1 (by omega) (by omega))⟩
    · refine ⟨[-(sv next k 1 (((J - 1).toNat : Int) + 2))], ?_, -(sv next k 1 (((J - 1).toNat : Int) + 2)), by simp, .inr ?_⟩
      · unfold most r1
        simp only [List.mem_append, List.mem_map, List.mem_range]
        exact .inl (.inl (.inr ⟨(J - 1).toNat, by omega, rfl⟩))
      · rw [hs 1 (((J - 1).toNat : Int) + 2) (by omega) (by omega)]
  · have hmem : ∀ c, c ∈ blk next k (x.getD ((I - 1).toNat + 1) 0) (((I - 1).toNat : Int) + 1) (((I - 1).toNat : Int) + 2) → c ∈ most x k next := by
      intro c hc
      unfold most r2
      simp only [List.mem_append, List.mem_flatMap, List.mem_range]
      exact .inl (.inr ⟨(I - 1).toNat, by omega, hc⟩)
    by_cases hJ0 : J = 0
    · refine ⟨[-(x.getD ((I - 1).toNat + 1) 0), sv next k (((I - 1).toNat : Int) + 2) 1], hmem _ (by unfold blk; simp), sv next k (((I - 1).toNat : Int) + 2) 1, by simp, .inl (hs _ _ (by omega) (by omega))⟩
    · refine ⟨[-(sv next k (((I - 1).toNat : Int) + 1) (((J - 1).toNat : Int) + 2)), sv next k (((I - 1).toNat : Int) + 2) (((J - 1).toNat : Int) + 2)], hmem _ ?_, sv next k (((I - 1).toNat : Int) + 2) (((J - 1).toNat : Int) + 2), by simp, .inl (hs _ _ (by omega) (by omega))⟩
      unfold blk rin
      simp only [List.mem_append, List.mem_flatMap, List.mem_range]
      exact .inl (.inr ⟨(J - 1).toNat, by omega, by simp⟩)
/-- likewise for any k -/
theorem cls_fine (x : List Int) (k next : Int) (hn : 0 ≤ next) : ∀ c ∈ clsL x k next, ∀ n ∈ c, Fine x next (aft x k next) n := by
  intro c hc n hnc
  unfold clsL at hc
  split at hc
  · simp at hc; subst hc; simp at hnc
  split at hc
  · simp at hc
  split at hc
  · unfold none0 at hc
    obtain ⟨y, hy, rfl⟩ := List.mem_map.1 hc
    simp only [List.mem_cons, List.not_mem_nil, or_false] at hnc
    subst hnc
    exact .inr ⟨y, hy, by omega⟩
  · have h := most_fine x k next (by omega) (by omega) hn c hc n hnc
    unfold aft
    rw [if_neg (by omega)]
    have : sv next k (x.length : Int) 1 = next + ((x.length : Int) - 1) * k := by unfold sv; omega
    rw [this]; exact h
theorem cls_all (x : List Int) (k next : Int) (m : Int) (h0 : 0 ≤ m) (h1 : m < aft x k next - next) : ∃ c ∈ clsL x k next, ∃ n ∈ c, n = next + m ∨ n = -(next + m) := by
  unfold aft at h1
  split at h1
  · omega
  · have : sv next k (x.length : Int) 1 = next + ((x.length : Int) - 1) * k := by unfold sv; omega
    rw [this] at h1
    unfold clsL
    rw [if_neg (by omega), if_neg (by omega), if_neg (by omega)]
    exact most_all x k next (by omega) (by omega) m h0 (by omega)
end Go.Proofs.Ytfgoalgfpcalgaa
