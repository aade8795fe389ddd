/-
  Layer 29: the answer's steps, one at a time, come to the same end. Own work.
-/
import Derived.Test.YtlcbfahaapodmaaEn29
namespace Go.Proofs.Ytlcbfahaapodmaa
set_option linter.unusedVariables false
set_option linter.unusedSimpArgs false

/-- the first literal of a clause that stands in it ahead -/
def dupC (c : List Int) : Option Nat := (List.range c.length).find? fun k => decide (c.getD k 0 ∈ c.take k)
/-- the first clause with one, and its place -/
def dupM (C : Cs) : Option (Nat × Nat) := ((List.range C.length).find? fun i => (dupC (C.getD i [])).isSome).bind fun i => (dupC (C.getD i [])).map fun k => (i, k)
def tautM (C : Cs) : Option Nat := (List.range C.length).find? fun i => taut (C.getD i [])
/-- the answer's step -/
def rstep (vars : Nat) (s : TS) : Option TS :=
  match dupM s.C with
  | some (i, k) => some { s with C := s.C.set i ((s.C.getD i []).eraseIdx k) }
  | none => match tautM s.C with
    | some i => some { s with C := s.C.eraseIdx i }
    | none =>
      if s.C.any (fun c => c.isEmpty) then some { s with C := [[]], en := true }
      else match unitM s.C with
        | some n => some { C := fixC n s.C, fx := s.fx ++ [n], sg := s.sg + 1, en := s.en }
        | none => match loneM vars s.C with
          | some n => some { s with C := fixC n s.C, fx := s.fx ++ [n] }
          | none => (covM s.C).map fun k => { s with C := s.C.eraseIdx k }
theorem dupC_none {c : List Int} : dupC c = none ↔ c.Nodup := by
  unfold dupC
  rw [List.find?_eq_none]
  constructor
  · intro h
    rw [List.nodup_iff_pairwise_ne, List.pairwise_iff_getElem]
    intro i j hi hj hij e
    refine h j (List.mem_range.2 hj) ?_
    rw [decide_eq_true_eq]
    rw [List.getD, List.getElem?_eq_getElem hj, Option.getD_some, ← e]
    exact List.mem_take_iff_getElem.2 ⟨i, by omega, rfl⟩
  · intro h k hk
    have hk := List.mem_range.1 hk
    rw [decide_eq_true_eq, List.getD, List.getElem?_eq_getElem hk, Option.getD_some]
    intro hm
    obtain ⟨i, hi, e⟩ := List.mem_take_iff_getElem.1 hm
    rw [List.nodup_iff_pairwise_ne, List.pairwise_iff_getElem] at h
    exact h i k (by omega) hk (by omega) e
theorem dd_app (l m : List Int) : dd (l ++ m) = m.foldl (fun a n => if n ∈ a then a else a ++ [n]) (dd l) := by
  unfold dd; rw [List.foldl_append]
theorem dd_erase {c : List Int} {k : Nat} (hk : k < c.length) (h : c.getD k 0 ∈ c.take k) : dd (c.eraseIdx k) = dd c := by
  have e : c = c.take k ++ (c.getD k 0 :: c.drop (k + 1)) := by
    rw [List.getD, List.getElem?_eq_getElem hk, Option.getD_some, List.getElem_cons_drop, List.take_append_drop]
  have e2 : c.eraseIdx k = c.take k ++ c.drop (k + 1) := List.eraseIdx_eq_take_drop_succ _ _
  rw [e2]
  conv => rhs; rw [e]
  rw [dd_app, dd_app, List.foldl_cons, if_pos ((mem_dd _ _).2 h)]
theorem dupC_some {c : List Int} {k : Nat} (h : dupC c = some k) : k < c.length ∧ c.getD k 0 ∈ c.take k := by
  unfold dupC at h
  exact ⟨List.mem_range.1 (List.mem_of_find?_eq_some h), by simpa using List.find?_some h⟩
theorem dupM_some {C : Cs} {i k : Nat} (h : dupM C = some (i, k)) : i < C.length ∧ dupC (C.getD i []) = some k := by
  unfold dupM at h
  obtain ⟨j, h1, h2⟩ := Option.bind_eq_some_iff.1 h
  obtain ⟨q, h3, h4⟩ := Option.map_eq_some_iff.1 h2
  cases h4
  exact ⟨List.mem_range.1 (List.mem_of_find?_eq_some h1), h3⟩
theorem dupM_none {C : Cs} : dupM C = none ↔ (C.any fun c => !decide c.Nodup) = false := by
  unfold dupM
  constructor
  · intro h
    have h1 : ((List.range C.length).find? fun i => (dupC (C.getD i [])).isSome) = none := by
      cases hf : (List.range C.length).find? fun i => (dupC (C.getD i [])).isSome with
      | none => rfl
      | some i =>
        rw [hf] at h
        have h2 := List.find?_some hf
        obtain ⟨k, hk⟩ := Option.isSome_iff_exists.1 h2
        rw [Option.bind_some, hk] at h
        cases h
    rw [List.find?_eq_none] at h1
    rw [List.any_eq_false]
    intro c hc
    obtain ⟨i, hi, rfl⟩ := List.getElem_of_mem hc
    have h3 := h1 i (List.mem_range.2 hi)
    rw [List.getD, List.getElem?_eq_getElem hi, Option.getD_some] at h3
    have : dupC C[i] = none := by simpa using h3
    simp [dupC_none.1 this]
  · intro h
    have h1 : ((List.range C.length).find? fun i => (dupC (C.getD i [])).isSome) = none := by
      rw [List.find?_eq_none]
      intro i hi
      have hi := List.mem_range.1 hi
      have h2 := List.any_eq_false.1 h C[i] (List.getElem_mem hi)
      have : dupC C[i] = none := dupC_none.2 (by simpa using h2)
      simp [List.getD, List.getElem?_eq_getElem hi, this]
    rw [h1]; rfl
theorem map_set_dd {C : Cs} {i : Nat} {d : List Int} (hi : i < C.length) (h : dd d = dd (C.getD i [])) : (C.set i d).map dd = C.map dd := by
  rw [List.map_set, h]
  refine List.ext_getElem? fun j => ?_
  rw [List.getElem?_set]
  by_cases hj : i = j
  · subst hj
    rw [if_pos rfl, if_pos (by rw [List.length_map]; exact hi), List.getElem?_map, List.getD, List.getElem?_eq_getElem hi]
    rfl
  · rw [if_neg hj]
theorem tautM_some {C : Cs} {i : Nat} (h : tautM C = some i) : i < C.length ∧ taut (C.getD i []) = true := by
  unfold tautM at h
  have h2 := List.find?_some h
  exact ⟨List.mem_range.1 (List.mem_of_find?_eq_some h), h2⟩
theorem tautM_none {C : Cs} : tautM C = none ↔ C.any taut = false := by
  unfold tautM
  rw [List.find?_eq_none, List.any_eq_false]
  constructor
  · intro h c hc
    obtain ⟨i, hi, rfl⟩ := List.getElem_of_mem hc
    have := h i (List.mem_range.2 hi)
    rw [List.getD, List.getElem?_eq_getElem hi, Option.getD_some] at this
    exact this
  · intro h i hi
    have hi := List.mem_range.1 hi
    rw [List.getD, List.getElem?_eq_getElem hi, Option.getD_some]
    exact h _ (List.getElem_mem hi)
theorem filter_erase {C : Cs} {i : Nat} (hi : i < C.length) (h : taut (C.getD i []) = true) : (C.eraseIdx i).filter (fun c => !taut c) = C.filter fun c => !taut c := by
  rw [List.getD, List.getElem?_eq_getElem hi, Option.getD_some] at h
  have e : C = C.take i ++ C[i] :: C.drop (i + 1) := by rw [List.getElem_cons_drop, List.take_append_drop]
  rw [List.eraseIdx_eq_take_drop_succ]
  conv => rhs; rw [e]
  rw [List.filter_append, List.filter_append, List.filter_cons, h]
  rfl
/-- the end from a state -/
def finM (vars : Nat) (s : TS) : TS := runM vars (sizeS s) s
theorem fin_spec (vars : Nat) (s : TS) : StepsM vars s (finM vars s) ∧ Done vars (finM vars s) := runM_steps vars _ s (Nat.le_refl _)
theorem fin_step {vars : Nat} {s t : TS} (he : s.en = false) (h : stepM vars s = some t) : finM vars s = finM vars t :=
  steps_uniq (fin_spec vars s).1 (fin_spec vars s).2 (.next _ _ _ he h (fin_spec vars t).1) (fin_spec vars t).2
theorem fin_done {vars : Nat} {s : TS} (h : Done vars s) : finM vars s = s := steps_uniq (fin_spec vars s).1 (fin_spec vars s).2 (.refl _) h
theorem step_dup {vars : Nat} {s : TS} (h : (s.C.any fun c => !decide c.Nodup) = true) : stepM vars s = some { s with C := s.C.map dd } := by
  unfold stepM; rw [if_pos h]
theorem no_dup_dd {C : Cs} (h : (C.any fun c => !decide c.Nodup) = false) : C.map dd = C := by
  refine (List.map_congr_left (g := id) fun c hc => ?_).trans (List.map_id C)
  have := List.any_eq_false.1 h c hc
  exact dd_of_nodup c (by simpa using this)
theorem step_taut {vars : Nat} {s : TS} (h0 : (s.C.any fun c => !decide c.Nodup) = false) (h : s.C.any taut = true) : stepM vars s = some { s with C := s.C.filter fun c => !taut c } := by
  unfold stepM; rw [if_neg (by rw [h0]; simp), if_pos h]
theorem rstep_rest {vars : Nat} {s : TS} (h1 : dupM s.C = none) (h2 : tautM s.C = none) : rstep vars s = stepM vars s := by
  have h3 := dupM_none.1 h1
  have h4 := tautM_none.1 h2
  unfold rstep stepM
  simp only [h1, h2, h3, h4, Bool.false_eq_true, if_false]
  split
  · rfl
  · cases unitM s.C with
    | some n => rfl
    | none =>
      cases loneM vars s.C with
      | some n => rfl
      | none => rfl
/-- a step of the answer goes to the same end -/
theorem rstep_fin {vars : Nat} {s t : TS} (he : s.en = false) (h : rstep vars s = some t) : finM vars s = finM vars t := by
  cases h1 : dupM s.C with
  | some p =>
    obtain ⟨i, k⟩ := p
    have h' := h
    unfold rstep at h'
    rw [h1] at h'
    simp only [Option.some.injEq] at h'
    subst h'
    obtain ⟨hi, hk⟩ := dupM_some h1
    obtain ⟨hkl, hkm⟩ := dupC_some hk
    have hany : (s.C.any fun c => !decide c.Nodup) = true := by
      cases hq : s.C.any fun c => !decide c.Nodup with
      | true => rfl
      | false => rw [dupM_none.2 hq] at h1; cases h1
    rw [fin_step he (step_dup hany)]
    have hm := map_set_dd hi (dd_erase hkl hkm)
    cases hq : (s.C.set i ((s.C.getD i []).eraseIdx k)).any fun c => !decide c.Nodup with
    | true =>
      rw [fin_step (s := { s with C := s.C.set i ((s.C.getD i []).eraseIdx k) }) he (step_dup hq)]
      rw [hm]
    | false =>
      have := no_dup_dd hq
      rw [hm] at this
      rw [this]
  | none =>
    cases h2 : tautM s.C with
    | some i =>
      have h' := h
      unfold rstep at h'
      rw [h1, h2] at h'
      simp only [Option.some.injEq] at h'
      subst h'
      obtain ⟨hi, ht⟩ := tautM_some h2
      have h0 := dupM_none.1 h1
      have hany : s.C.any taut = true := by
        cases hq : s.C.any taut with
        | true => rfl
        | false => rw [tautM_none.2 hq] at h2; cases h2
      rw [fin_step he (step_taut h0 hany)]
      have hm := filter_erase hi ht
      have h0' : ((s.C.eraseIdx i).any fun c => !decide c.Nodup) = false := by
        rw [List.any_eq_false] at h0 ⊢
        exact fun c hc => h0 c (List.mem_of_mem_eraseIdx hc)
      cases hq : (s.C.eraseIdx i).any taut with
      | true =>
        rw [fin_step (s := { s with C := s.C.eraseIdx i }) he (step_taut h0' hq)]
        rw [hm]
      | false =>
        have : (s.C.eraseIdx i).filter (fun c => !taut c) = s.C.eraseIdx i := List.filter_eq_self.2 fun c hc => by
          have := List.any_eq_false.1 hq c hc
          simpa using this
        rw [hm] at this
        rw [this]
    | none =>
      rw [rstep_rest h1 h2] at h
      exact fin_step he h
theorem rstep_none {vars : Nat} {s : TS} (h : rstep vars s = none) : stepM vars s = none := by
  cases h1 : dupM s.C with
  | some p => unfold rstep at h; rw [h1] at h; cases h
  | none =>
    cases h2 : tautM s.C with
    | some i => unfold rstep at h; rw [h1, h2] at h; cases h
    | none => rw [rstep_rest h1 h2] at h; exact h
theorem rstep_lt {vars : Nat} {s t : TS} (he : s.en = false) (h : rstep vars s = some t) : sizeS t < sizeS s := by
  cases h1 : dupM s.C with
  | some p =>
    obtain ⟨i, k⟩ := p
    unfold rstep at h
    rw [h1] at h
    simp only [Option.some.injEq] at h
    subst h
    obtain ⟨hi, hk⟩ := dupM_some h1
    obtain ⟨hkl, _⟩ := dupC_some hk
    have hlt : sizeC (s.C.set i ((s.C.getD i []).eraseIdx k)) < sizeC s.C := by
      have key : ∀ (C : Cs) (i : Nat) (d : List Int), i < C.length → d.length < (C.getD i []).length → sizeC (C.set i d) < sizeC C := by
        intro C
        induction C with
        | nil => intro i d h; simp at h
        | cons c C ih =>
          intro i d hi hd
          cases i with
          | zero =>
            rw [List.set_cons_zero, sizeC_cons, sizeC_cons]
            have : d.length < c.length := by simpa using hd
            omega
          | succ i =>
            rw [List.set_cons_succ, sizeC_cons, sizeC_cons]
            have := ih i d (by simpa using hi) (by simpa using hd)
            omega
      refine key _ _ _ hi ?_
      rw [List.length_eraseIdx, if_pos hkl]
      omega
    unfold sizeS
    simp only [he]
    simp
    exact hlt
  | none =>
    cases h2 : tautM s.C with
    | some i =>
      unfold rstep at h
      rw [h1, h2] at h
      simp only [Option.some.injEq] at h
      subst h
      have := erase_lt s.C i (tautM_some h2).1
      unfold sizeS
      simp only [he]
      simp
      exact this
    | none =>
      rw [rstep_rest h1 h2] at h
      exact stepM_lt he h
theorem fin_trim (vars : Nat) (C : Cs) : finM vars { C := C } = trimM vars C := trimM_of (fin_spec vars _).1 (fin_spec vars _).2
end Go.Proofs.Ytlcbfahaapodmaa
