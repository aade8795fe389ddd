/-
  Layer 29: both's mathematics: what it leaves is as the later steps want it. Own work.
-/
import Derived.Test.YtlcbfahaapodmaaAb29
import Derived.Test.YtlcbfahaapodmaaBt29
namespace Go.Proofs.Ytlcbfahaapodmaa
set_option linter.unusedVariables false
set_option linter.unusedSimpArgs false

/-- a place stands in a clause -/
def hasP (vars : Nat) (c : List Int) (a : Nat) : Bool := c.any fun n => posN vars n == a
theorem hasP_iff {vars : Nat} {c : List Int} {a : Nat} : hasP vars c a = true ↔ ∃ n ∈ c, posN vars n = a := by
  unfold hasP
  rw [List.any_eq_true]
  simp
theorem adds_st {S : Ws} {c : List Int} (i : Nat) (hn : c.Nodup) (hl : ∀ n ∈ c, -(S.vars : Int) ≤ n ∧ n ≤ (S.vars : Int)) (a : Nat) : (c.foldl (addS i) S).st a = if hasP S.vars c a then S.st a ++ [i] else S.st a := by
  induction c using snoc_ind with
  | h0 => simp [hasP]
  | h1 l n ih =>
    have h2 := List.nodup_append.1 hn
    have ih := ih h2.1 (fun m hm => hl m (by simp [hm]))
    rw [List.foldl_append]
    show (addS i (l.foldl (addS i) S) n).st a = _
    have hv : (l.foldl (addS i) S).vars = S.vars := by rw [adds_same]
    show (if a = posN (l.foldl (addS i) S).vars n then (l.foldl (addS i) S).st a ++ [i] else (l.foldl (addS i) S).st a) = _
    rw [hv, ih]
    have hp : hasP S.vars (l ++ [n]) a = (hasP S.vars l a || posN S.vars n == a) := by simp [hasP]
    rw [hp]
    by_cases ha : a = posN S.vars n
    · have hnl : hasP S.vars l a = false := by
        cases hq : hasP S.vars l a with
        | false => rfl
        | true =>
          obtain ⟨m, hm, h3⟩ := hasP_iff.1 hq
          have : m = n := posN_inj (hl m (by simp [hm])) (hl n (by simp)) (h3.trans ha)
          exact absurd this (h2.2.2 m hm n (by simp))
      rw [if_pos ha, hnl]
      simp [ha]
    · have : (posN S.vars n == a) = false := by simpa using fun e => ha e.symm
      rw [if_neg ha, this, Bool.or_false]
structure B0 (S : Ws) : Prop where
  sz : Sz S
  G : S.G = List.replicate S.L.length false
  st : ∀ a, S.st a = []
  cn : ∀ a, S.cn a = 0
  nd : ∀ c ∈ S.L, c.Nodup
section
variable {S : Ws}
theorem B0.lits (h : B0 S) (i : Nat) : ∀ n ∈ S.L.getD i [], -(S.vars : Int) ≤ n ∧ n ≤ (S.vars : Int) := fun n hn => by
  cases hq : S.L[i]? with
  | none => simp [List.getD, hq] at hn
  | some c =>
    have := h.sz.lits c (List.mem_of_getElem? hq) n (by simpa [List.getD, hq] using hn)
    omega
theorem B0.nodup (h : B0 S) (i : Nat) : (S.L.getD i []).Nodup := by
  cases hq : S.L[i]? with
  | none => simp [List.getD, hq]
  | some c => simpa [List.getD, hq] using h.nd c (List.mem_of_getElem? hq)
theorem B0.st_to (h : B0 S) (i : Nat) (a : Nat) : (bothTo S i).st a = (List.range i).filter fun j => !taut (S.L.getD j []) && hasP S.vars (S.L.getD j []) a := by
  induction i with
  | zero => exact h.st a
  | succ i ih =>
    rw [bothTo_succ, List.range_succ, List.filter_append]
    have hs := bothTo_same S i
    generalize bothTo S i = T at hs ih ⊢
    have hL : T.L = S.L := by rw [hs]
    have hV : T.vars = S.vars := by rw [hs]
    unfold bothI
    rw [hL]
    cases ht : taut (S.L.getD i []) with
    | true =>
      rw [if_pos rfl]
      show T.st a = _
      have e : ([i].filter fun j => !taut (S.L.getD j []) && hasP S.vars (S.L.getD j []) a) = [] := by
        simp only [List.filter_cons, ht, Bool.not_true, Bool.false_and]
        rfl
      rw [ih, e, List.append_nil]
    | false =>
      rw [if_neg (by simp), adds_st i (h.nodup i) (by rw [hV]; exact h.lits i), ih, hV]
      have e : ([i].filter fun j => !taut (S.L.getD j []) && hasP S.vars (S.L.getD j []) a) = if hasP S.vars (S.L.getD i []) a then [i] else [] := by
        simp only [List.filter_cons, ht, Bool.not_false, Bool.true_and, List.filter_nil]
      rw [e]
      cases hp : hasP S.vars (S.L.getD i []) a with
      | true => rw [if_pos rfl, if_pos rfl]
      | false => rw [if_neg (by simp), if_neg (by simp), List.append_nil]
theorem B0.G_to (h : B0 S) (i : Nat) (j : Nat) (hj : j < S.L.length) : (bothTo S i).G[j]? = some (decide (j < i) && taut (S.L.getD j [])) := by
  induction i with
  | zero =>
    show S.G[j]? = _
    rw [h.G, List.getElem?_replicate, if_pos hj]; simp
  | succ i ih =>
    rw [bothTo_succ]
    have hs := bothTo_same S i
    have hlen := bothTo_len S i
    generalize bothTo S i = T at hs ih hlen ⊢
    have hL : T.L = S.L := by rw [hs]
    unfold bothI
    rw [hL]
    cases ht : taut (S.L.getD i []) with
    | true =>
      rw [if_pos rfl]
      show (T.G.set i true)[j]? = _
      by_cases hij : i = j
      · subst hij
        rw [List.getElem?_set_self (by rw [hlen, h.sz.gl]; exact hj), ht]; simp
      · rw [List.getElem?_set_ne hij, ih]
        by_cases hlt : j < i
        · simp [hlt, show j < i + 1 from by omega]
        · simp [hlt, show ¬ j < i + 1 from by omega]
    | false =>
      rw [if_neg (by simp), adds_same]
      show T.G[j]? = _
      rw [ih]
      by_cases hij : i = j
      · subst hij
        rw [ht]
        simp
      · by_cases hlt : j < i
        · simp [hlt, show j < i + 1 from by omega]
        · simp [hlt, show ¬ j < i + 1 from by omega]
/-- which clauses are there behind both -/
theorem B0.alive (h : B0 S) : alive (bothTo S S.L.length).L (bothTo S S.L.length).G = S.L.filter fun c => !taut c := by
  have hL : (bothTo S S.L.length).L = S.L := by rw [bothTo_same]
  rw [hL]
  have e0 : Go.Proofs.Ytlcbfahaapodmaa.alive S.L (List.replicate S.L.length false) = S.L := by
    induction S.L with
    | nil => rfl
    | cons c L ih => simp [Go.Proofs.Ytlcbfahaapodmaa.alive, List.replicate_succ, ih]
  have := alive_filter (fun c => !taut c) S.L (List.replicate S.L.length false) (bothTo S S.L.length).G (by simp) (by rw [bothTo_len, h.sz.gl]) (fun j c hc _ => by
    have hj := (List.getElem?_eq_some_iff.1 hc).1
    rw [h.G_to _ j hj]
    have e : S.L.getD j [] = c := by simp [List.getD, hc]
    rw [e]
    simp [hj]) (fun j hj => by
    rw [List.getElem?_replicate] at hj
    split at hj <;> simp at hj)
  rw [this, e0]
theorem occ_nodup {vars : Nat} {c : List Int} (hn : c.Nodup) (hl : ∀ n ∈ c, -(vars : Int) ≤ n ∧ n ≤ (vars : Int)) (a : Nat) : occN vars c a = if hasP vars c a then 1 else 0 := by
  induction c using snoc_ind with
  | h0 => simp [occN, hasP]
  | h1 l n ih =>
    have h2 := List.nodup_append.1 hn
    have ih := ih h2.1 (fun m hm => hl m (by simp [hm]))
    have hp : hasP vars (l ++ [n]) a = (hasP vars l a || posN vars n == a) := by simp [hasP]
    have ho : occN vars (l ++ [n]) a = occN vars l a + if posN vars n = a then 1 else 0 := by
      unfold occN
      rw [List.filter_append, List.length_append]
      by_cases h : posN vars n = a <;> simp [h]
    rw [hp, ho, ih]
    by_cases ha : posN vars n = a
    · have hnl : hasP vars l a = false := by
        cases hq : hasP vars l a with
        | false => rfl
        | true =>
          obtain ⟨m, hm, h3⟩ := hasP_iff.1 hq
          have : m = n := posN_inj (hl m (by simp [hm])) (hl n (by simp)) (h3.trans ha.symm)
          exact absurd this (h2.2.2 m hm n (by simp))
      rw [hnl]
      simp [ha]
    · have : (posN vars n == a) = false := by simpa using ha
      rw [this, Bool.or_false, if_neg ha, Nat.add_zero]
theorem sum_count {α : Type} (f : α → Nat) (p : α → Bool) (hf : ∀ x, f x = if p x then 1 else 0) : ∀ l : List α, (l.map f).sum = (l.filter p).length
  | [] => rfl
  | x :: l => by
    rw [List.map_cons, List.sum_cons, sum_count f p hf l, hf x, List.filter_cons]
    cases p x <;> simp <;> omega
theorem B0.gd (h : B0 S) : Gd (bothTo S S.L.length) := by
  have hs := bothTo_same S S.L.length
  have hL : (bothTo S S.L.length).L = S.L := by rw [hs]
  have hV : (bothTo S S.L.length).vars = S.vars := by rw [hs]
  have hC : CntLen S 0 := fun a => by rw [h.cn a, h.st a]; simp
  refine ⟨by rw [bothTo_len, hL]; exact h.sz.gl, by rw [hV]; exact h.sz.vars, by rw [hL, hV]; exact h.sz.lits, by rw [hL]; exact h.sz.size, fun a => ?_⟩
  rw [(hC.to S.L.length a).1, h.st_to, hV, h.alive]
  unfold sumN
  have e1 : S.L.filter (fun c => !taut c) = ((List.range S.L.length).filter fun j => !taut (S.L.getD j [])).map fun j => S.L.getD j [] := by
    have := alive_ix S.L (bothTo S S.L.length).G (by rw [bothTo_len]; exact h.sz.gl)
    have h2 := h.alive
    rw [hL] at h2
    rw [h2] at this
    rw [this]
    congr 1
    unfold aliveIx
    refine List.filter_congr fun j hj => ?_
    have hj := List.mem_range.1 hj
    have := h.G_to S.L.length j hj
    rw [List.getD, this]
    simp [hj]
  rw [e1, List.map_map, show ((fun c => occN S.vars c a) ∘ fun j => S.L.getD j []) = (fun j => occN S.vars (S.L.getD j []) a) from rfl, sum_count _ (fun j => hasP S.vars (S.L.getD j []) a) (fun j => occ_nodup (h.nodup j) (h.lits j) a), List.filter_filter]
  congr 2
  refine List.filter_congr fun j _ => ?_
  rw [Bool.and_comm]
theorem B0.stI (h : B0 S) : StI (bothTo S S.L.length) := by
  have hs := bothTo_same S S.L.length
  have hL : (bothTo S S.L.length).L = S.L := by rw [hs]
  have hV : (bothTo S S.L.length).vars = S.vars := by rw [hs]
  have hmem : ∀ k a, k ∈ (bothTo S S.L.length).st a ↔ k < S.L.length ∧ taut (S.L.getD k []) = false ∧ hasP S.vars (S.L.getD k []) a = true := fun k a => by
    rw [h.st_to, List.mem_filter, List.mem_range]
    simp only [Bool.and_eq_true, Bool.not_eq_true']
  refine ⟨fun i c hc hg n hn => ?_, fun n hn k c hk hc hg => ?_, fun a k hk => ?_, fun a => ?_⟩
  · rw [hL] at hc
    have hi := (List.getElem?_eq_some_iff.1 hc).1
    have e : S.L.getD i [] = c := by simp [List.getD, hc]
    have h2 := h.G_to S.L.length i hi
    rw [hg, e] at h2
    have h3 : taut c = false := by simpa [hi] using (Option.some.inj h2).symm
    rw [hV]
    exact (hmem _ _).2 ⟨hi, by rw [e]; exact h3, by rw [e]; exact hasP_iff.2 ⟨n, hn, rfl⟩⟩
  · rw [hL] at hc
    rw [hV] at hk
    have e : S.L.getD k [] = c := by simp [List.getD, hc]
    obtain ⟨_, _, h3⟩ := (hmem _ _).1 hk
    rw [e] at h3
    obtain ⟨m, hm, h4⟩ := hasP_iff.1 h3
    obtain ⟨d, hd, hnd⟩ := hasL_mem.1 hn
    have hd := alive_sub hd
    rw [hL] at hd
    have b1 := h.sz.lits d hd n hnd
    have b2 := h.sz.lits c (List.mem_of_getElem? hc) m hm
    have : m = n := posN_inj ⟨b2.1, b2.2.1⟩ ⟨b1.1, b1.2.1⟩ h4
    rw [← this]; exact hm
  · rw [hL]
    exact ((hmem _ _).1 hk).1
  · rw [h.st_to]
    exact (List.pairwise_lt_range).filter _
/-- neither twins nor opposites are left -/
theorem B0.pln (h : B0 S) : Pln (Go.Proofs.Ytlcbfahaapodmaa.alive (bothTo S S.L.length).L (bothTo S S.L.length).G) := by
  rw [h.alive]
  refine ⟨fun c hc => h.nd c (List.mem_filter.1 hc).1, fun c hc => ?_⟩
  simpa using (List.mem_filter.1 hc).2
end
end Go.Proofs.Ytlcbfahaapodmaa
