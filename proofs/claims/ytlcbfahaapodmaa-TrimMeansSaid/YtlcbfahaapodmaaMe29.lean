/-
  Layer 29: mathematics of truths: as lists and as functions. Own work.
-/
import Derived.Test.YtlcbfahaapodmaaSem29
import Derived.Test.YtlcbfahaapodmaaEn29
import Derived.Test.YtlcbfahaapodmaaSome21
import Derived.Test.YtlcbfahaapodmaaGr29
namespace Go.Proofs.Ytlcbfahaapodmaa
set_option linter.unusedVariables false
set_option linter.unusedSimpArgs false

def fT (ts : List Bool) : Nat → Bool := fun v => ts.getD (v - 1) false
theorem trueFrom_lit (n : Int) : ∀ (ts : List Bool) (i : Nat), i < n.natAbs → trueFrom n i ts = if n < 0 then !(ts.getD (n.natAbs - 1 - i) false) else ts.getD (n.natAbs - 1 - i) false := by
  intro ts
  induction ts with
  | nil =>
    intro i hi
    unfold trueFrom
    by_cases h : n < 0 <;> simp [h]
  | cons t r ih =>
    intro i hi
    unfold trueFrom
    by_cases h1 : n = (i : Int) + 1
    · rw [if_pos h1, if_neg (by omega), show n.natAbs - 1 - i = 0 by omega]; rfl
    · rw [if_neg h1]
      by_cases h2 : n = -((i : Int) + 1)
      · rw [if_pos h2, if_pos (by omega), show n.natAbs - 1 - i = 0 by omega]; rfl
      · rw [if_neg h2, ih (i + 1) (by omega), show n.natAbs - 1 - i = (n.natAbs - 1 - (i + 1)) + 1 by omega]
        simp
theorem trueB_lit {n : Int} (h : n ≠ 0) (ts : List Bool) : trueB n ts = litT (fT ts) n := by
  unfold trueB litT fT
  rw [trueFrom_lit n ts 0 (by omega), Nat.sub_zero]
theorem any_hold {ts : List Bool} {C : Cs} (hz : NZ C) : (∀ c ∈ C, anyT ts c = true) ↔ holdC (fT ts) C := by
  constructor
  · intro h c hc
    obtain ⟨n, hn, ht⟩ := List.any_eq_true.1 (h c hc)
    exact ⟨n, hn, by rw [← trueB_lit (hz c hc n hn)]; exact ht⟩
  · intro h c hc
    obtain ⟨n, hn, ht⟩ := h c hc
    exact List.any_eq_true.2 ⟨n, hn, by rw [trueB_lit (hz c hc n hn)]; exact ht⟩
theorem bits_ex29 (f : Nat → Bool) : ∀ n, ∃ m, m < 2 ^ n ∧ ∀ v, v < n → m.testBit v = f v
  | 0 => ⟨0, by simp, fun v h => by omega⟩
  | n + 1 => by
    obtain ⟨m, hm, hv⟩ := bits_ex29 f n
    have hp : 2 ^ (n + 1) = 2 ^ n + 2 ^ n := by rw [Nat.pow_succ]; omega
    cases hf : f n
    · refine ⟨m, by omega, fun v h => ?_⟩
      by_cases hvn : v = n
      · subst hvn; rw [hf]; exact Nat.testBit_lt_two_pow hm
      · exact hv v (by omega)
    · refine ⟨2 ^ n + m, by omega, fun v h => ?_⟩
      by_cases hvn : v = n
      · subst hvn
        rw [hf, Nat.testBit_two_pow_add_eq, Nat.testBit_lt_two_pow hm]; rfl
      · rw [Nat.testBit_two_pow_add_gt (by omega)]
        exact hv v (by omega)
theorem some_hold {V : Nat} {C : Cs} (hz : NZ C) (hr : ∀ c ∈ C, ∀ n ∈ c, n.natAbs ≤ V) : (∃ m, m < 2 ^ V ∧ ∀ c ∈ C, anyT (bitsN V m) c = true) ↔ ∃ f, holdC f C := by
  constructor
  · rintro ⟨m, _, h⟩
    exact ⟨_, (any_hold hz).1 h⟩
  · rintro ⟨f, hf⟩
    obtain ⟨m, hm, hb⟩ := bits_ex29 (fun v => f (v + 1)) V
    refine ⟨m, hm, (any_hold hz).2 (holdC_congr (fun v hv => ?_) hf)⟩
    obtain ⟨c, hc, n, hn, rfl⟩ := hv
    have h1 := hr c hc n hn
    have h2 := hz c hc n hn
    have h3 := hb (n.natAbs - 1) (by omega)
    unfold fT bitsN
    rw [List.getD, List.getElem?_map, List.getElem?_range (by omega)]
    simp only [Option.map_some, Option.getD_some]
    rw [h3, show n.natAbs - 1 + 1 = n.natAbs by omega]
/-- truths that are grown -/
def wantN (ts : List Bool) (fx : List Int) (i : Nat) : Bool := fx.foldl (fun b n => if n = (i : Int) + 1 ∨ n = -(i : Int) - 1 then decide (0 < n) else b) (ts.getD i false)
theorem wantN_snoc (ts : List Bool) (l : List Int) (n : Int) (i : Nat) : wantN ts (l ++ [n]) i = if n = (i : Int) + 1 ∨ n = -(i : Int) - 1 then decide (0 < n) else wantN ts l i := by
  unfold wantN; rw [List.foldl_append]; rfl
theorem grow_atN (V : Nat) (ts : List Bool) (fx : List Int) (i : Nat) (hi : i < V) : (growM V ts fx)[i]? = some (wantN ts fx i) := by
  induction fx using snoc_ind with
  | h0 =>
    unfold growM wantN
    simp only [List.foldl_nil]
    rw [List.getElem?_append]
    by_cases h : i < ts.length
    · rw [if_pos (by rw [List.length_take]; omega), List.getElem?_take, if_pos hi]
      simp [List.getD, List.getElem?_eq_getElem h]
    · have h1 : ts[i]? = none := by rw [List.getElem?_eq_none_iff]; omega
      rw [if_neg (by rw [List.length_take]; omega), List.getElem?_replicate, if_pos (by rw [List.length_take]; omega)]
      simp [List.getD, h1]
  | h1 l n ih =>
    rw [grow_snoc, wantN_snoc]
    unfold setT
    have hl := grow_len V ts l
    by_cases h : 0 < n.natAbs ∧ n.natAbs ≤ (growM V ts l).length
    · rw [if_pos h, List.getElem?_set]
      by_cases h2 : n.natAbs - 1 = i
      · rw [if_pos h2, if_pos (by omega), if_pos (by omega)]
      · rw [if_neg h2, if_neg (by omega)]; exact ih
    · rw [if_neg h, if_neg (by omega)]; exact ih
theorem want_upd (ts : List Bool) (fx : List Int) (i : Nat) : wantN ts fx i = (fx.foldl updT (fT ts)) (i + 1) := by
  induction fx using snoc_ind with
  | h0 => rfl
  | h1 l n ih =>
    rw [wantN_snoc, List.foldl_append, ih]
    show _ = updT (l.foldl updT (fT ts)) n (i + 1)
    unfold updT
    by_cases h : n = (i : Int) + 1 ∨ n = -(i : Int) - 1
    · rw [if_pos h, if_pos (by omega)]
    · rw [if_neg h, if_neg (by omega)]
/-- truths for what is left make all true when they are grown -/
theorem grow_hold {V : Nat} {C : Cs} {ts : List Bool} (hz : NZ C) (hr : ∀ c ∈ C, ∀ n ∈ c, n.natAbs ≤ V) (h : ∀ c ∈ (trimM V C).C, anyT ts c = true) : ∀ c ∈ C, anyT (growM V ts (trimM V C).fx) c = true := by
  obtain ⟨hs, _⟩ := trimM_steps V C
  obtain ⟨r, e, _, hg⟩ := steps_fx hs hz
  have e2 : (trimM V C).fx = r := by rw [e]; rfl
  have hzt : NZ (trimM V C).C := fun c hc n hn => by
    obtain ⟨c0, k1, k2⟩ := (trimM_inv V C).lits c hc n hn
    exact hz c0 k1 n k2
  refine (any_hold hz).2 (holdC_congr (fun v hv => ?_) (hg _ ((any_hold hzt).1 h)))
  obtain ⟨c, hc, n, hn, rfl⟩ := hv
  have h1 := hr c hc n hn
  have h2 := hz c hc n hn
  rw [← e2]
  have h3 := grow_atN V ts (trimM V C).fx (n.natAbs - 1) (by omega)
  have h4 := want_upd ts (trimM V C).fx (n.natAbs - 1)
  rw [show n.natAbs - 1 + 1 = n.natAbs by omega] at h4
  unfold fT at h4 ⊢
  rw [List.getD, h3, Option.getD_some, h4]
theorem step_fxl {vars : Nat} {s t : TS} (he : s.en = false) (h : stepM vars s = some t) : t.fx.length + t.C.length ≤ s.fx.length + s.C.length := by
  rcases step_cases he h with ⟨e1, _, h1 | h1 | ⟨k, _, h1⟩⟩ | ⟨e1, _, h1, h2⟩ | ⟨n, e1, _, h1, hl, _⟩
  · rw [e1, h1, List.length_map]; omega
  · rw [e1, h1]
    have := List.length_filter_le (fun c => !taut c) s.C
    omega
  · rw [e1, h1]
    have := List.length_eraseIdx_le s.C k
    omega
  · rw [e1, h1]
    have := List.length_pos_of_mem h2
    simp only [List.length_cons, List.length_nil]
    omega
  · rw [e1, h1, List.length_append]
    unfold fixC
    rw [List.length_map]
    obtain ⟨c, hc, hn⟩ := List.any_eq_true.1 hl
    have h3 : (s.C.filter fun c => !decide (n ∈ c)).length < s.C.length := by
      refine List.length_filter_lt_length_iff_exists.2 ⟨c, hc, ?_⟩
      simp only [decide_eq_true_eq] at hn
      simp [hn]
    simp only [List.length_cons, List.length_nil]
    omega
theorem steps_fxl {vars : Nat} {s t : TS} (h : StepsM vars s t) : t.fx.length + t.C.length ≤ s.fx.length + s.C.length := by
  induction h with
  | refl => exact Nat.le_refl _
  | next s a t he hs _ ih => exact Nat.le_trans ih (step_fxl he hs)
theorem trim_fx {V : Nat} {C : Cs} (hz : NZ C) (hr : ∀ c ∈ C, ∀ n ∈ c, n.natAbs ≤ V) : (trimM V C).fx.length ≤ C.length ∧ ∀ n ∈ (trimM V C).fx, n.natAbs ≤ V := by
  have h1 := steps_fxl (trimM_steps V C).1
  obtain ⟨r, e, hv, _⟩ := steps_fx (trimM_steps V C).1 hz
  refine ⟨by simp only [List.length_nil] at h1; omega, fun n hn => ?_⟩
  rw [e] at hn
  obtain ⟨c, hc, m, hm, e2⟩ := (hv n (by simpa using hn)).2
  rw [← e2]
  exact hr c hc m hm
theorem some_same {V : Nat} {C : Cs} (hz : NZ C) (hr : ∀ c ∈ C, ∀ n ∈ c, n.natAbs ≤ V) : (∃ m, m < 2 ^ V ∧ ∀ c ∈ C, anyT (bitsN V m) c = true) ↔ ∃ m, m < 2 ^ V ∧ ∀ c ∈ (trimM V C).C, anyT (bitsN V m) c = true := by
  have hi := trimM_inv V C
  have hzt : NZ (trimM V C).C := fun c hc n hn => by
    obtain ⟨c0, k1, k2⟩ := hi.lits c hc n hn
    exact hz c0 k1 n k2
  have hrt : ∀ c ∈ (trimM V C).C, ∀ n ∈ c, n.natAbs ≤ V := fun c hc n hn => by
    obtain ⟨c0, k1, k2⟩ := hi.lits c hc n hn
    exact hr c0 k1 n k2
  rw [some_hold hz hr, some_hold hzt hrt]
  exact steps_some (trimM_steps V C).1 hz
end Go.Proofs.Ytlcbfahaapodmaa
