/-
  Layer 29: which step of the answer it is. Own work.
-/
import Derived.Test.YtlcbfahaapodmaaRr29
namespace Go.Proofs.Ytlcbfahaapodmaa
set_option linter.unusedVariables false
set_option linter.unusedSimpArgs false

section
variable {C : Cs} {c : List Int} {i k vars : Nat} {s : TS}
theorem getD_of {l : Cs} (h : l[i]? = some c) : l.getD i [] = c := by simp [List.getD, h]
theorem find_hit {n : Nat} {p : Nat → Bool} (hi : i < n) (h : p i = true) (h0 : ∀ j, j < i → p j = false) : (List.range n).find? p = some i := by
  rw [List.find?_range_eq_some]
  exact ⟨h, List.mem_range.2 hi, fun j hj => by rw [h0 j hj]; rfl⟩
theorem dupC_hit (hk : k < c.length) {n : Int} (hn : c[k]? = some n) (h : n ∈ c.take k) (h0 : ∀ q, q < k → c.getD q 0 ∉ c.take q) : dupC c = some k := by
  unfold dupC
  refine find_hit hk ?_ (fun j hj => decide_eq_false (h0 j hj))
  simp [List.getD, hn, h]
theorem dupC_no (h0 : ∀ q, q < c.length → c.getD q 0 ∉ c.take q) : dupC c = none := by
  unfold dupC
  rw [List.find?_eq_none]
  intro q hq
  simpa using h0 q (List.mem_range.1 hq)
theorem dupM_hit (hc : C[i]? = some c) (hd : dupC c = some k) (h0 : ∀ j, j < i → dupC (C.getD j []) = none) : dupM C = some (i, k) := by
  unfold dupM
  have hi := (List.getElem?_eq_some_iff.1 hc).1
  rw [find_hit (i := i) hi (by rw [getD_of hc, hd]; rfl) (fun j hj => by rw [h0 j hj]; rfl), Option.bind_some, getD_of hc, hd]
  rfl
theorem dupM_no (h0 : ∀ j, j < C.length → dupC (C.getD j []) = none) : dupM C = none := by
  unfold dupM
  have : ((List.range C.length).find? fun i => (dupC (C.getD i [])).isSome) = none := by
    rw [List.find?_eq_none]
    intro j hj
    rw [h0 j (List.mem_range.1 hj)]
    simp
  rw [this]; rfl
theorem taut_of {n : Int} (hn : n ∈ c) (h : -n ∈ c) : taut c = true := List.any_eq_true.2 ⟨n, hn, by simpa using h⟩
theorem taut_no (h : ∀ n ∈ c, -n ∉ c) : taut c = false := List.any_eq_false.2 fun n hn => by simpa using h n hn
theorem tautM_hit (hc : C[i]? = some c) (ht : taut c = true) (h0 : ∀ j, j < i → taut (C.getD j []) = false) : tautM C = some i :=
  find_hit (List.getElem?_eq_some_iff.1 hc).1 (by rw [getD_of hc]; exact ht) h0
theorem tautM_no (h0 : ∀ j, j < C.length → taut (C.getD j []) = false) : tautM C = none := by
  unfold tautM
  rw [List.find?_eq_none]
  intro j hj
  rw [h0 j (List.mem_range.1 hj)]; simp
theorem mem_at {c : List Int} (hc : c ∈ C) : ∃ j : Nat, j < C.length ∧ C[j]? = some c := by
  obtain ⟨j, hj⟩ := List.getElem?_of_mem hc
  exact ⟨j, (List.getElem?_eq_some_iff.1 hj).1, hj⟩
theorem empty_no (h0 : ∀ j, j < C.length → (C.getD j []).length ≠ 0) : (C.any fun c => c.isEmpty) = false := by
  rw [List.any_eq_false]
  intro c hc
  obtain ⟨j, hj, he⟩ := mem_at hc
  have := h0 j hj
  rw [getD_of he] at this
  cases c with
  | nil => simp at this
  | cons x c => simp
theorem unit_hit {n : Int} (hc : C[i]? = some [n]) (h0 : ∀ j, j < i → (C.getD j []).length ≠ 1) : unitM C = some n := by
  unfold unitM
  have : (C.find? fun c => c.length == 1) = some [n] := by
    rw [List.find?_eq_some_iff_getElem]
    refine ⟨rfl, i, (List.getElem?_eq_some_iff.1 hc).1, (List.getElem?_eq_some_iff.1 hc).2, fun j hj => ?_⟩
    have := h0 j hj
    have hjl : j < C.length := Nat.lt_trans hj (List.getElem?_eq_some_iff.1 hc).1
    rw [List.getD, List.getElem?_eq_getElem hjl, Option.getD_some] at this
    simpa using this
  rw [this]; rfl
theorem unit_no (h0 : ∀ j, j < C.length → (C.getD j []).length ≠ 1) : unitM C = none := by
  unfold unitM
  have : (C.find? fun c => c.length == 1) = none := by
    rw [List.find?_eq_none]
    intro c hc
    obtain ⟨j, hj, he⟩ := mem_at hc
    have := h0 j hj
    rw [getD_of he] at this
    simpa using this
  rw [this]; rfl
theorem lone_hit {v : Nat} (h1 : 1 ≤ v) (hv : v ≤ vars) (h : hasL C (v : Int) ≠ hasL C (-(v : Int))) (h0 : ∀ u : Nat, 1 ≤ u → u < v → hasL C (u : Int) = hasL C (-(u : Int))) : loneM vars C = some (if hasL C (v : Int) then (v : Int) else -(v : Int)) := by
  unfold loneM
  have e : v - 1 + 1 = v := by omega
  rw [find_hit (i := v - 1) (by omega) (by rw [e]; simpa using h) (fun j hj => by
    have := h0 (j + 1) (by omega) (by omega)
    rw [this]; simp)]
  simp only [Option.map_some, e]
theorem lone_no (h0 : ∀ u : Nat, 1 ≤ u → u ≤ vars → hasL C (u : Int) = hasL C (-(u : Int))) : loneM vars C = none := by
  unfold loneM
  have : ((List.range vars).find? fun v => hasL C (v + 1 : Nat) != hasL C (-((v + 1 : Nat) : Int))) = none := by
    rw [List.find?_eq_none]
    intro j hj
    have := h0 (j + 1) (by omega) (by have := List.mem_range.1 hj; omega)
    rw [this]; simp
  rw [this]; rfl
theorem cov_hit (hi : i < C.length) (hk : k < C.length) (h : covers C i k = true) (h0 : ∀ i' k', i' < i → k' < C.length → covers C i' k' = false) (h1 : ∀ k', k' < k → covers C i k' = false) : covM C = some k := by
  unfold covM
  have : (((List.range C.length).flatMap fun i => (List.range C.length).map fun k => (i, k)).find? fun p => covers C p.1 p.2) = some (i, k) := by
    rw [List.find?_flatMap, List.findSome?_eq_some_iff]
    refine ⟨List.range i, i, (List.range C.length).drop (i + 1), ?_, ?_, fun j hj => ?_⟩
    · have e1 : (List.range C.length).take i = List.range i := by rw [List.take_range, Nat.min_eq_left (by omega)]
      have e2 : (List.range C.length)[i]'(by simpa using hi) = i := List.getElem_range _
      rw [← e1]
      conv => lhs; rw [← List.take_append_drop i (List.range C.length)]
      rw [List.drop_eq_getElem_cons (by simpa using hi), e2]
    · rw [List.find?_map]
      have : (List.range C.length).find? ((fun p : Nat × Nat => covers C p.1 p.2) ∘ fun k => (i, k)) = some k := find_hit hk h h1
      rw [this]; rfl
    · rw [List.find?_map, Option.map_eq_none_iff, List.find?_eq_none]
      intro k' hk'
      have := h0 j k' (List.mem_range.1 hj) (List.mem_range.1 hk')
      simp [this]
  rw [this]; rfl
theorem cov_no (h0 : ∀ i' k', i' < C.length → k' < C.length → covers C i' k' = false) : covM C = none := by
  unfold covM
  have : (((List.range C.length).flatMap fun i => (List.range C.length).map fun k => (i, k)).find? fun p => covers C p.1 p.2) = none := by
    rw [List.find?_eq_none]
    intro p hp
    obtain ⟨i, hi, h3⟩ := List.mem_flatMap.1 hp
    obtain ⟨k, hk, rfl⟩ := List.mem_map.1 h3
    rw [h0 i k (List.mem_range.1 hi) (List.mem_range.1 hk)]
    simp
  rw [this]; rfl
theorem rs_dup (h : dupM s.C = some (i, k)) : rstep vars s = some { s with C := s.C.set i ((s.C.getD i []).eraseIdx k) } := by unfold rstep; rw [h]
theorem rs_taut (h : dupM s.C = none) (h2 : tautM s.C = some i) : rstep vars s = some { s with C := s.C.eraseIdx i } := by unfold rstep; rw [h, h2]
theorem rs_empty (h : dupM s.C = none) (h2 : tautM s.C = none) (h3 : (s.C.any fun c => c.isEmpty) = true) : rstep vars s = some { s with C := [[]], en := true } := by
  unfold rstep; simp only [h, h2, h3, if_true]
theorem rs_unit (h : dupM s.C = none) (h2 : tautM s.C = none) (h3 : (s.C.any fun c => c.isEmpty) = false) {n : Int} (h4 : unitM s.C = some n) : rstep vars s = some { C := fixC n s.C, fx := s.fx ++ [n], sg := s.sg + 1, en := s.en } := by
  unfold rstep; simp only [h, h2, h3, h4, Bool.false_eq_true, if_false]
theorem rs_lone (h : dupM s.C = none) (h2 : tautM s.C = none) (h3 : (s.C.any fun c => c.isEmpty) = false) (h4 : unitM s.C = none) {n : Int} (h5 : loneM vars s.C = some n) : rstep vars s = some { s with C := fixC n s.C, fx := s.fx ++ [n] } := by
  unfold rstep; simp only [h, h2, h3, h4, h5, Bool.false_eq_true, if_false]
theorem rs_cov (h : dupM s.C = none) (h2 : tautM s.C = none) (h3 : (s.C.any fun c => c.isEmpty) = false) (h4 : unitM s.C = none) (h5 : loneM vars s.C = none) : rstep vars s = (covM s.C).map fun k => { s with C := s.C.eraseIdx k } := by
  unfold rstep; simp only [h, h2, h3, h4, h5, Bool.false_eq_true, if_false]
end
end Go.Proofs.Ytlcbfahaapodmaa
