/-
  Layer 8: properties that double one another: the mathematics. Own work.
-/
import Derived.Test.YthfholnnkdoagaaRnd8
import Derived.Test.YthfholnnkdoagaaPln8
namespace Go.Proofs.Ythfholnnkdoagaa
set_option linter.unusedVariables false
set_option linter.unusedSimpArgs false
open Go.RowKit

def gl (n : Nat) (v : List UInt8) : List Pp := (List.range (n + 1)).map fun i => (dec8 (i + 1), if i = 0 then v else asIs (dec8 i) ++ asIs (dec8 i))
def rep8 (v : List UInt8) : Nat → List UInt8
  | 0 => v
  | i + 1 => rep8 v i ++ rep8 v i
def dall (v : List UInt8) (i : Nat) : List Pp := (List.range (i + 1)).map fun j => (dec8 (j + 1), rep8 v j)
theorem rep8_len (v : List UInt8) : ∀ i, (rep8 v i).length = v.length * 2 ^ i
  | 0 => by simp [rep8]
  | i + 1 => by
    rw [rep8, List.length_append, rep8_len v i, Nat.pow_succ, ← Nat.mul_assoc]
    omega
theorem dec8_inj : ∀ i, i < 31 → ∀ j, j < 31 → dec8 (i + 1) = dec8 (j + 1) → i = j := by decide
theorem dec8_no (n : Nat) (h : n < 100) : ∀ c ∈ dec8 n, c ≠ 125 := by
  have : ∀ n, n < 100 → ∀ c ∈ dec8 n, c ≠ 125 := by decide
  exact this n h
theorem gl_at {n i : Nat} {v : List UInt8} (h : i ≤ n) : (gl n v)[i]? = some (dec8 (i + 1), if i = 0 then v else asIs (dec8 i) ++ asIs (dec8 i)) := by
  unfold gl
  rw [List.getElem?_map, List.getElem?_range (by omega)]
  rfl
theorem gl_len (n : Nat) (v : List UInt8) : (gl n v).length = n + 1 := by simp [gl]
theorem dec8_le (n : Nat) : (dec8 n).length ≤ 2 := by unfold dec8; split <;> simp
theorem gl_fit {n : Nat} {v : List UInt8} (hn : n ≤ 30) (hv : v.length ≤ 1) : Fit8 (gl n v) := by
  refine ⟨by rw [gl_len]; omega, fun p hp => ?_⟩
  obtain ⟨k, hk⟩ := List.getElem?_of_mem hp
  have hkn : k ≤ n := by have := (List.getElem?_eq_some_iff.1 hk).1; rw [gl_len] at this; omega
  rw [gl_at hkn] at hk
  cases hk
  have h1 := dec8_le (k + 1)
  have h2 := dec8_le k
  refine ⟨by show (dec8 (k + 1)).length ≤ 1000; omega, ?_⟩
  show List.length (if k = 0 then v else asIs (dec8 k) ++ asIs (dec8 k)) ≤ 1000
  split
  · omega
  · simp [asIs]; omega
theorem gl_nodup {n : Nat} {v : List UInt8} (hn : n ≤ 30) : ((gl n v).map (·.1)).Nodup := by
  unfold gl
  rw [List.map_map]
  refine List.pairwise_iff_getElem.2 fun i j hi hj hij => ?_
  simp only [List.length_map, List.length_range] at hi hj
  simp only [List.getElem_map, List.getElem_range, Function.comp]
  intro e
  have := dec8_inj i (by omega) j (by omega) e
  omega
theorem gl_get {n i : Nat} {v : List UInt8} (hn : n ≤ 30) (hv : v.length ≤ 1) (h : i ≤ n) : getM (gl n v) (dec8 (i + 1)) = some (if i = 0 then v else asIs (dec8 i) ++ asIs (dec8 i)) := by
  have hf := gl_fit (n := n) (v := v) hn hv
  have hU : UOk (gl n v) := ⟨gl_nodup hn, by rw [gl_len]; omega, hf.2⟩
  exact get_at hU (gl_at h)
theorem dall_get {i j : Nat} {v : List UInt8} (hi : i < 31) (h : j ≤ i) : getM (dall v i) (dec8 (j + 1)) = some (rep8 v j) := by
  have h1 : (dall v i)[j]? = some (dec8 (j + 1), rep8 v j) := by
    unfold dall
    rw [List.getElem?_map, List.getElem?_range (by omega)]
    rfl
  have hm := List.mem_of_getElem? h1
  cases hg : getM (dall v i) (dec8 (j + 1)) with
  | none => exact absurd (List.mem_map.2 ⟨_, hm, rfl⟩) (get_none.1 hg)
  | some x =>
    have h2 := get_mem hg
    unfold dall at h2
    obtain ⟨q, hq, he⟩ := List.mem_map.1 h2
    simp only [Prod.mk.injEq] at he
    have hq2 := List.mem_range.1 hq
    have := dec8_inj q (by omega) j (by omega) he.1
    rw [← he.2, this]
theorem dall_succ (v : List UInt8) (i : Nat) : dall v (i + 1) = dall v i ++ [(dec8 (i + 2), rep8 v (i + 1))] := by
  unfold dall
  rw [List.range_succ, List.map_append]
  rfl
theorem close_at {m r : List UInt8} (h : ∀ c ∈ m, c ≠ 125) : closeM (m ++ 125 :: r) = some (m, r) := by
  induction m with
  | nil => rw [List.nil_append, closeM, if_pos rfl]
  | cons c m ih =>
    rw [List.cons_append, closeM, if_neg (h c (by simp)), ih (fun d hd => h d (by simp [hd]))]
    rfl
theorem ref_asIs {m r : List UInt8} (h : ∀ c ∈ m, c ≠ 125) : refM8 (asIs m ++ r) = some ([], m, r) := by
  have : asIs m ++ r = 36 :: 123 :: (m ++ 125 :: r) := by simp [asIs]
  rw [this, refM8, if_pos ⟨rfl, rfl⟩, List.tail_cons, close_at h]
  rfl
theorem ref_short {v : List UInt8} (h : v.length ≤ 1) : refM8 v = none := by
  match v, h with
  | [], _ => rfl
  | [c], _ =>
    rw [refM8, if_neg (by simp)]
    rfl
section
variable {val : List UInt8 → List Pp → Xp} {known : List UInt8 → Bool} {owner : List UInt8}
/-- a text that is one reference -/
theorem text_one {m v : List UInt8} {D D' : List Pp} (h : ∀ c ∈ m, c ≠ 125) (hk : known m = true) (hv : val m D = .ok v D') (hl : v.length ≤ 4096) : textM8 val known owner ((asIs m).length + 1) [] (asIs m) D = .ok v D' := by
  have hr : refM8 (asIs m) = some ([], m, []) := by have := ref_asIs (r := []) h; rw [List.append_nil] at this; exact this
  rw [text_at hr, addM_fit (by simp), hk, if_pos rfl, hv]
  simp only [Xp.bind]
  rw [addM_fit (by simp; exact hl), text_end (by rfl), addM_fit (by simp; exact hl)]
  simp
theorem text_one_bad {m n : List UInt8} {e : Int} {D D' : List Pp} (h : ∀ c ∈ m, c ≠ 125) (hk : known m = true) (hv : val m D = .bad e n D') : textM8 val known owner ((asIs m).length + 1) [] (asIs m) D = .bad e n D' := by
  have hr : refM8 (asIs m) = some ([], m, []) := by have := ref_asIs (r := []) h; rw [List.append_nil] at this; exact this
  rw [text_at hr, addM_fit (by simp), hk, if_pos rfl, hv]
  rfl
/-- a text that is one reference twice -/
theorem text_twice {m v : List UInt8} {D D' : List Pp} (h : ∀ c ∈ m, c ≠ 125) (hk : known m = true) (hv : val m D = .ok v D') (hv2 : val m D' = .ok v D') (hl : v.length ≤ 4096) : textM8 val known owner ((asIs m ++ asIs m).length + 1) [] (asIs m ++ asIs m) D = if 4096 < v.length + v.length then .bad 2 owner D' else .ok (v ++ v) D' := by
  have hr : refM8 (asIs m) = some ([], m, []) := by have := ref_asIs (r := []) h; rw [List.append_nil] at this; exact this
  rw [text_at (ref_asIs h), addM_fit (by simp), hk, if_pos rfl, hv]
  simp only [Xp.bind]
  rw [addM_fit (by simp; exact hl), text_at hr, addM_fit (by simp; exact hl), hk, if_pos rfl, hv2]
  simp only [Xp.bind]
  by_cases hb : 4096 < v.length + v.length
  · rw [if_pos hb, addM_too (by simp; exact hb)]
  · rw [if_neg hb, addM_fit (by simp; omega), text_end (by rfl), addM_fit (by simp; omega)]
    simp
theorem text_twice_bad {m n : List UInt8} {e : Int} {D D' : List Pp} (h : ∀ c ∈ m, c ≠ 125) (hk : known m = true) (hv : val m D = .bad e n D') : textM8 val known owner ((asIs m ++ asIs m).length + 1) [] (asIs m ++ asIs m) D = .bad e n D' := by
  rw [text_at (ref_asIs h), addM_fit (by simp), hk, if_pos rfl, hv]
  rfl
end
section
variable {U : List Pp} {n : Nat} {v : List UInt8}
theorem great_ok (hn : n ≤ 30) (hv : v.length ≤ 1) (hU : ∀ m, getM U m = getM (gl n v) m) : ∀ (i k : Nat) (way : List (List UInt8)), i ≤ n → i + 1 ≤ k → way.length + i < 32 → (∀ j, j ≤ i → dec8 (j + 1) ∉ way) → (rep8 v i).length ≤ 4096 → valueM8 U k way (dec8 (i + 1)) [] = .ok (rep8 v i) (dall v i)
  | _, 0, _, _, h, _, _, _ => by omega
  | 0, k + 1, way, hi, _, hw, hno, hl => by
    rw [valueM8, if_neg (hno 0 (by omega))]
    show (if 32 ≤ way.length then _ else _) = _
    rw [if_neg (by omega), hU, gl_get hn hv hi]
    show (textM8 _ _ _ (v.length + 1) [] v []).bind _ = _
    rw [text_end (ref_short hv), addM_fit (by simp; omega)]
    rfl
  | i + 1, k + 1, way, hi, hk, hw, hno, hl => by
    have hrl : (rep8 v i).length ≤ 4096 := by rw [rep8, List.length_append] at hl; omega
    have hni : ∀ j, j ≤ i → dec8 (j + 1) ∉ way ++ [dec8 (i + 1 + 1)] := fun j hj h => by
      rcases List.mem_append.1 h with h | h
      · exact hno j (by omega) h
      · have := dec8_inj j (by omega) (i + 1) (by omega) (List.mem_singleton.1 h)
        omega
    have ih := great_ok hn hv hU i k (way ++ [dec8 (i + 1 + 1)]) (by omega) (by omega) (by rw [List.length_append, List.length_singleton]; omega) hni hrl
    have ih2 : valueM8 U k (way ++ [dec8 (i + 1 + 1)]) (dec8 (i + 1)) (dall v i) = .ok (rep8 v i) (dall v i) := by
      cases k with
      | zero => omega
      | succ k => rw [valueM8, if_neg (hni i (Nat.le_refl _)), dall_get (by omega) (Nat.le_refl _)]
    rw [valueM8, if_neg (hno (i + 1) (by omega))]
    show (if 32 ≤ way.length then _ else _) = _
    rw [if_neg (by omega), hU, gl_get hn hv hi, if_neg (by omega)]
    show (textM8 _ _ _ ((asIs (dec8 (i + 1)) ++ asIs (dec8 (i + 1))).length + 1) [] (asIs (dec8 (i + 1)) ++ asIs (dec8 (i + 1))) []).bind _ = _
    rw [text_twice (val := fun m D' => valueM8 U k (way ++ [dec8 (i + 1 + 1)]) m D') (dec8_no _ (by omega)) (by rw [hU, gl_get hn hv (by omega)]; rfl) ih ih2 hrl, if_neg (by rw [rep8, List.length_append] at hl; omega)]
    show Xp.ok _ _ = _
    rw [dall_succ]
    rfl
theorem great_bad (hn : n ≤ 30) (hv : v.length = 1) (hU : ∀ m, getM U m = getM (gl n v) m) : ∀ (i k : Nat) (way : List (List UInt8)), 13 ≤ i → i ≤ n → i + 1 ≤ k → way.length + i < 32 → (∀ j, j ≤ i → dec8 (j + 1) ∉ way) → valueM8 U k way (dec8 (i + 1)) [] = .bad 2 (dec8 14) (dall v 12)
  | _, 0, _, _, _, h, _, _ => by omega
  | 0, _ + 1, _, h, _, _, _, _ => by omega
  | i + 1, k + 1, way, h13, hi, hk, hw, hno => by
    have hni : ∀ j, j ≤ i → dec8 (j + 1) ∉ way ++ [dec8 (i + 1 + 1)] := fun j hj h => by
      rcases List.mem_append.1 h with h | h
      · exact hno j (by omega) h
      · have := dec8_inj j (by omega) (i + 1) (by omega) (List.mem_singleton.1 h)
        omega
    rw [valueM8, if_neg (hno (i + 1) (by omega))]
    show (if 32 ≤ way.length then _ else _) = _
    rw [if_neg (by omega), hU, gl_get hn (by omega) hi, if_neg (by omega)]
    show (textM8 _ _ _ ((asIs (dec8 (i + 1)) ++ asIs (dec8 (i + 1))).length + 1) [] (asIs (dec8 (i + 1)) ++ asIs (dec8 (i + 1))) []).bind _ = _
    by_cases h12 : i = 12
    · subst h12
      have hrl : (rep8 v 12).length = 4096 := by rw [rep8_len, hv]
      have ih := great_ok hn (by omega) hU 12 k (way ++ [dec8 (12 + 1 + 1)]) (by omega) (by omega) (by rw [List.length_append, List.length_singleton]; omega) hni (by omega)
      have ih2 : valueM8 U k (way ++ [dec8 (12 + 1 + 1)]) (dec8 (12 + 1)) (dall v 12) = .ok (rep8 v 12) (dall v 12) := by
        cases k with
        | zero => omega
        | succ k => rw [valueM8, if_neg (hni 12 (Nat.le_refl _)), dall_get (by omega) (Nat.le_refl _)]
      rw [text_twice (val := fun m D' => valueM8 U k (way ++ [dec8 (12 + 1 + 1)]) m D') (dec8_no _ (by omega)) (by rw [hU, gl_get hn (by omega) (by omega)]; rfl) ih ih2 (by omega), if_pos (by omega)]
      rfl
    · have ih := great_bad hn hv hU i k (way ++ [dec8 (i + 1 + 1)]) (by omega) (by omega) (by omega) (by rw [List.length_append, List.length_singleton]; omega) hni
      rw [text_twice_bad (val := fun m D' => valueM8 U k (way ++ [dec8 (i + 1 + 1)]) m D') (dec8_no _ (by omega)) (by rw [hU, gl_get hn (by omega) (by omega)]; rfl) ih]
      rfl
/-- what the law asks -/
theorem great_all (hn : n ≤ 30) (hv : v.length ≤ 1) (hU : ∀ m, getM U m = getM (gl n v) m) : expandM8 U (asIs (dec8 (n + 1))) [] = if v.length = 1 ∧ 12 < n then .bad 2 (dec8 14) (dall v 12) else .ok (rep8 v n) (dall v n) := by
  unfold expandM8
  have hk : (getM U (dec8 (n + 1))).isSome = true := by rw [hU, gl_get hn hv (Nat.le_refl _)]; rfl
  by_cases h : v.length = 1 ∧ 12 < n
  · rw [if_pos h]
    exact text_one_bad (val := fun m D' => valueM8 U 33 [] m D') (known := fun m => (getM U m).isSome) (dec8_no _ (by omega)) hk (great_bad hn h.1 hU n 33 [] (by omega) (Nat.le_refl _) (by omega) (by simp; omega) (by simp))
  · rw [if_neg h]
    have hl : (rep8 v n).length ≤ 4096 := by
      rw [rep8_len]
      rcases Nat.lt_or_ge v.length 1 with h0 | h1
      · rw [show v.length = 0 by omega]; omega
      · have h12 : n ≤ 12 := by
          rcases Nat.lt_or_ge 12 n with h2 | h2
          · exact absurd ⟨by omega, h2⟩ h
          · exact h2
        have : 2 ^ n ≤ 2 ^ 12 := Nat.pow_le_pow_right (by omega) h12
        rw [show v.length = 1 by omega]
        omega
    exact text_one (val := fun m D' => valueM8 U 33 [] m D') (known := fun m => (getM U m).isSome) (dec8_no _ (by omega)) hk (great_ok hn hv hU n 33 [] (Nat.le_refl _) (by omega) (by simp; omega) (by simp) hl) hl
end
end Go.Proofs.Ythfholnnkdoagaa
