/-
  Layer 29: mathematics of the end: what is left of a question is left of itself. Own work.
-/
import Derived.Test.YtlcbfahaapodmaaTri29
namespace Go.Proofs.Ytlcbfahaapodmaa
set_option linter.unusedVariables false
set_option linter.unusedSimpArgs false

/-- what the steps keep -/
structure Inv (C0 : Cs) (s : TS) : Prop where
  len : s.C.length ≤ C0.length
  lens : ∀ c ∈ s.C, ∃ c0 ∈ C0, c.length ≤ c0.length
  lits : ∀ c ∈ s.C, ∀ n ∈ c, ∃ c0 ∈ C0, n ∈ c0
  en : s.en = true → s.C = [[]]
section
variable {C0 : Cs} {vars : Nat} {s t : TS}
theorem inv_fixC (h : Inv C0 s) (n : Int) : (fixC n s.C).length ≤ C0.length ∧ (∀ c ∈ fixC n s.C, ∃ c0 ∈ C0, c.length ≤ c0.length) ∧ ∀ c ∈ fixC n s.C, ∀ n ∈ c, ∃ c0 ∈ C0, n ∈ c0 := by
  refine ⟨?_, fun c hc => ?_, fun c hc m hm => ?_⟩
  · unfold fixC
    rw [List.length_map]
    exact Nat.le_trans (List.length_filter_le _ _) h.len
  · obtain ⟨d, hd, rfl⟩ := List.mem_map.1 hc
    obtain ⟨c0, h1, h2⟩ := h.lens d (List.mem_filter.1 hd).1
    exact ⟨c0, h1, Nat.le_trans (List.length_filter_le _ _) h2⟩
  · obtain ⟨d, hd, rfl⟩ := List.mem_map.1 hc
    exact h.lits d (List.mem_filter.1 hd).1 m (List.mem_filter.1 hm).1
theorem Inv.step (h : Inv C0 s) (he : s.en = false) (hs : stepM vars s = some t) : Inv C0 t := by
  unfold stepM at hs
  split at hs
  · simp only [Option.some.injEq] at hs
    subst hs
    refine ⟨by show (s.C.map dd).length ≤ _; rw [List.length_map]; exact h.len, fun c hc => ?_, fun c hc n hn => ?_, fun e => absurd (he.symm.trans e) (by simp)⟩
    · obtain ⟨d, hd, rfl⟩ := List.mem_map.1 hc
      obtain ⟨c0, h1, h2⟩ := h.lens d hd
      exact ⟨c0, h1, Nat.le_trans (dd_len_le d) h2⟩
    · obtain ⟨d, hd, rfl⟩ := List.mem_map.1 hc
      exact h.lits d hd n ((mem_dd d n).1 hn)
  · split at hs
    · simp only [Option.some.injEq] at hs
      subst hs
      exact ⟨Nat.le_trans (List.length_filter_le _ _) h.len, fun c hc => h.lens c (List.mem_filter.1 hc).1, fun c hc => h.lits c (List.mem_filter.1 hc).1, fun e => absurd (he.symm.trans e) (by simp)⟩
    · split at hs
      · next h3 =>
        simp only [Option.some.injEq] at hs
        subst hs
        obtain ⟨c, hc, _⟩ := List.any_eq_true.1 h3
        obtain ⟨c0, h1, h2⟩ := h.lens c hc
        refine ⟨?_, fun d hd => ⟨c0, h1, ?_⟩, fun d hd n hn => ?_, fun _ => rfl⟩
        · exact List.length_pos_of_mem h1
        · rw [List.mem_singleton.1 hd]; simp
        · rw [List.mem_singleton.1 hd] at hn; simp at hn
      · split at hs
        · simp only [Option.some.injEq] at hs
          subst hs
          obtain ⟨k1, k2, k3⟩ := inv_fixC h _
          exact ⟨k1, k2, k3, fun e => absurd (he.symm.trans e) (by simp)⟩
        · split at hs
          · simp only [Option.some.injEq] at hs
            subst hs
            obtain ⟨k1, k2, k3⟩ := inv_fixC h _
            exact ⟨k1, k2, k3, fun e => absurd (he.symm.trans e) (by simp)⟩
          · cases hc : covM s.C with
            | none => rw [hc] at hs; simp at hs
            | some k =>
              rw [hc] at hs
              simp only [Option.map_some, Option.some.injEq] at hs
              subst hs
              exact ⟨Nat.le_trans (List.length_eraseIdx_le _ _) h.len, fun c hc => h.lens c (List.mem_of_mem_eraseIdx hc), fun c hc => h.lits c (List.mem_of_mem_eraseIdx hc), fun e => absurd (he.symm.trans e) (by simp)⟩
theorem Inv.steps (h : Inv C0 s) (hs : StepsM vars s t) : Inv C0 t := by
  induction hs with
  | refl => exact h
  | next s t u he h1 _ ih => exact ih (h.step he h1)
theorem trimM_steps (vars : Nat) (C : Cs) : StepsM vars { C := C } (trimM vars C) ∧ Done vars (trimM vars C) := runM_steps vars (sizeC C + 1) { C := C } (by simp [sizeS])
theorem trimM_inv (vars : Nat) (C : Cs) : Inv C (trimM vars C) :=
  Inv.steps (vars := vars) (s := { C := C }) ⟨Nat.le_refl _, fun c hc => ⟨c, hc, Nat.le_refl _⟩, fun c hc n hn => ⟨c, hc, hn⟩, fun e => by cases e⟩ (trimM_steps vars C).1
/-- no step from s: none from the same clauses -/
theorem step_none (h : stepM vars s = none) : stepM vars { C := s.C } = none ∧ (∀ c ∈ s.C, c ≠ []) ∧ unitM s.C = none ∧ covM s.C = none := by
  unfold stepM at h ⊢
  split at h
  · cases h
  · next h1 =>
    split at h
    · cases h
    · next h2 =>
      split at h
      · cases h
      · next h3 =>
        split at h
        · cases h
        · next h4 =>
          split at h
          · cases h
          · next h5 =>
            have h6 : covM s.C = none := by simpa using h
            refine ⟨?_, fun c hc e => h3 (List.any_eq_true.2 ⟨c, hc, by rw [e]; rfl⟩), h4, h6⟩
            simp only [h1, h2, h3, h4, h5, h6]
            simp
theorem trim_one (vars : Nat) : (trimM vars [[]]).C = [[]] ∧ (trimM vars [[]]).fx = [] := by
  have h1 : stepM vars { C := [[]] } = some { C := [[]], en := true } := by
    unfold stepM
    simp [taut]
  have h2 := trimM_of (vars := vars) (C := [[]]) (t := { C := [[]], en := true }) (.next _ _ _ rfl h1 (.refl _)) (.inl rfl)
  rw [← h2]
  exact ⟨rfl, rfl⟩
/-- of what is left nothing is left out -/
theorem trim_trim (vars : Nat) (C : Cs) : (trimM vars (trimM vars C).C).C = (trimM vars C).C ∧ (trimM vars (trimM vars C).C).fx = [] := by
  rcases (trimM_steps vars C).2 with h | h
  · rw [(trimM_inv vars C).en h]
    exact trim_one vars
  · have h2 := trimM_of (vars := vars) (C := (trimM vars C).C) (.refl _) (.inr (step_none h).1)
    rw [← h2]
    exact ⟨rfl, rfl⟩
theorem trim_no_unit (vars : Nat) (C : Cs) : ∀ c ∈ (trimM vars C).C, c.length ≠ 1 := by
  intro c hc
  rcases (trimM_steps vars C).2 with h | h
  · rw [(trimM_inv vars C).en h] at hc
    rw [List.mem_singleton.1 hc]
    simp
  · exact unitM_none (step_none h).2.2.1 c hc
theorem trim_empty (vars : Nat) (C : Cs) : ∀ c ∈ (trimM vars C).C, c.length = 0 → (trimM vars C).C.length = 1 := by
  intro c hc h0
  rcases (trimM_steps vars C).2 with h | h
  · rw [(trimM_inv vars C).en h]; rfl
  · exact absurd (List.eq_nil_of_length_eq_zero h0) ((step_none h).2.1 c hc)
theorem trim_two (vars : Nat) (C : Cs) {i k : Nat} {c d : List Int} (hi : (trimM vars C).C[i]? = some c) (hk : (trimM vars C).C[k]? = some d) (hlt : k < i) : c ≠ d := by
  intro e
  subst e
  have hi2 := (List.getElem?_eq_some_iff.1 hi).1
  have hk2 := (List.getElem?_eq_some_iff.1 hk).1
  rcases (trimM_steps vars C).2 with h | h
  · rw [(trimM_inv vars C).en h] at hi2
    simp at hi2
    omega
  · have h1 := covM_none (step_none h).2.2.2 k i hk2 hi2
    have h2 : covers (trimM vars C).C k i = true := by
      unfold covers
      have e1 : (trimM vars C).C.getD k [] = c := by simp [List.getD, hk]
      have e2 : (trimM vars C).C.getD i [] = c := by simp [List.getD, hi]
      rw [e1, e2]
      have : k ≠ i := by omega
      simp [this, hlt]
    rw [h2] at h1
    cases h1
end
end Go.Proofs.Ytlcbfahaapodmaa
