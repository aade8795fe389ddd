/-
  Layer 4: texts of digits as versions are ordered as their numbers: plain mathematics. Own work.
-/
import Derived.Test.YtnghagikchffiaaDoorVerMath
namespace Go.Proofs.YtnghagikchffiaaDoor
set_option linter.unusedVariables false
set_option linter.unusedSimpArgs false
open Go.RowKit

def allDg (l : List UInt8) : Prop := ∀ c ∈ l, 48 ≤ c.toNat ∧ c.toNat ≤ 57
def valD : List UInt8 → Nat
  | [] => 0
  | c :: cs => (c.toNat - 48) * 10 ^ cs.length + valD cs
theorem valD_app : ∀ a b : List UInt8, valD (a ++ b) = valD a * 10 ^ b.length + valD b
  | [], b => by simp [valD]
  | c :: cs, b => by
    have := valD_app cs b
    simp only [List.cons_append, valD, List.length_append, this, Nat.pow_add, Nat.add_mul, Nat.mul_assoc, Nat.add_assoc]
theorem valD_lt : ∀ l : List UInt8, allDg l → valD l < 10 ^ l.length
  | [], _ => by simp [valD]
  | c :: cs, h => by
    have h1 := valD_lt cs (fun x hx => h x (by simp [hx]))
    have h2 := h c (by simp)
    simp only [valD, List.length_cons, Nat.pow_succ]
    have h3 : (c.toNat - 48) * 10 ^ cs.length ≤ 9 * 10 ^ cs.length := Nat.mul_le_mul_right _ (by omega)
    omega
theorem valD_strip : ∀ l : List UInt8, valD (Lib.trimLeftB l 48) = valD l
  | [] => rfl
  | c :: cs => by
    have := valD_strip cs
    unfold Lib.trimLeftB at this ⊢
    rw [List.dropWhile_cons]
    by_cases h : c = 48
    · subst h
      simp [valD, this]
    · rw [if_neg (by simpa using h)]
theorem strip_head (l : List UInt8) : ∀ c cs, Lib.trimLeftB l 48 = c :: cs → c ≠ 48 := by
  intro c cs h
  induction l with
  | nil => simp [Lib.trimLeftB] at h
  | cons x xs ih =>
    unfold Lib.trimLeftB at h ih
    rw [List.dropWhile_cons] at h
    by_cases hx : x = 48
    · rw [if_pos (by simpa using hx)] at h
      exact ih h
    · rw [if_neg (by simpa using hx)] at h
      injection h with h1 _
      rw [← h1]; exact hx
theorem strip_all {l : List UInt8} (h : allDg l) : allDg (Lib.trimLeftB l 48) := fun c hc => h c ((List.dropWhile_sublist _).subset hc)
theorem valD_ge {c : UInt8} {cs : List UInt8} (h : allDg (c :: cs)) (h0 : c ≠ 48) : 10 ^ cs.length ≤ valD (c :: cs) := by
  have h1 := h c (by simp)
  have h2 : c.toNat ≠ 48 := fun e => h0 (UInt8.toNat_inj.1 e)
  simp only [valD]
  have h3 : 1 * 10 ^ cs.length ≤ (c.toNat - 48) * 10 ^ cs.length := Nat.mul_le_mul_right _ (by omega)
  omega
theorem bytes_val : ∀ a b : List UInt8, allDg a → allDg b → a.length = b.length → Lib.compareBytes a b = if valD a < valD b then -1 else if valD b < valD a then 1 else 0
  | [], [], _, _, _ => by simp [Lib.compareBytes, valD]
  | [], _ :: _, _, _, h => by simp at h
  | _ :: _, [], _, _, h => by simp at h
  | x :: xs, y :: ys, ha, hb, h => by
    have hx := ha x (by simp)
    have hy := hb y (by simp)
    have hl : xs.length = ys.length := by simpa using h
    have h1 := bytes_val xs ys (fun c hc => ha c (by simp [hc])) (fun c hc => hb c (by simp [hc])) hl
    have v1 := valD_lt xs (fun c hc => ha c (by simp [hc]))
    have v2 := valD_lt ys (fun c hc => hb c (by simp [hc]))
    have e1 : valD (x :: xs) = (x.toNat - 48) * 10 ^ xs.length + valD xs := rfl
    have e2 : valD (y :: ys) = (y.toNat - 48) * 10 ^ xs.length + valD ys := by rw [hl]; rfl
    rw [← hl] at v2
    rw [e1, e2]
    unfold Lib.compareBytes
    simp only [UInt8.lt_iff_toNat_lt]
    rcases Nat.lt_trichotomy x.toNat y.toNat with hc | hc | hc
    · rw [if_pos hc]
      have : (x.toNat - 48 + 1) * 10 ^ xs.length ≤ (y.toNat - 48) * 10 ^ xs.length := Nat.mul_le_mul_right _ (by omega)
      rw [Nat.add_mul] at this
      rw [if_pos (by omega)]
    · rw [if_neg (by omega), if_neg (by omega), h1, hc]
      generalize (y.toNat - 48) * 10 ^ xs.length = z
      generalize valD xs = p
      generalize valD ys = q
      repeat' split
      all_goals omega
    · rw [if_neg (by omega), if_pos hc]
      have : (y.toNat - 48 + 1) * 10 ^ xs.length ≤ (x.toNat - 48) * 10 ^ xs.length := Nat.mul_le_mul_right _ (by omega)
      rw [Nat.add_mul] at this
      rw [if_neg (by omega), if_pos (by omega)]

/-- two texts of digits without noughts ahead, as parts -/
theorem cmpPt_num (hy : Bool) {a b : List UInt8} (ha : allDg a) (hb : allDg b) (ha0 : ∀ c cs, a = c :: cs → c ≠ 48) (hb0 : ∀ c cs, b = c :: cs → c ≠ 48) :
    cmpPt ⟨hy, true, a⟩ ⟨hy, true, b⟩ = if valD a < valD b then -1 else if valD b < valD a then 1 else 0 := by
  cases a with
  | nil =>
    cases b with
    | nil => cases hy <;> rfl
    | cons y ys =>
      have := valD_ge hb (hb0 y ys rfl)
      have hp : 0 < 10 ^ ys.length := Nat.pow_pos (by omega)
      rw [if_pos (show valD [] < valD (y :: ys) by simp only [valD] at this ⊢; omega)]
      cases hy <;> simp [cmpPt, thenC, rankP, Lib.compareInt]
  | cons x xs =>
    have hx := valD_ge ha (ha0 x xs rfl)
    have hxl := valD_lt _ ha
    have hp : 0 < 10 ^ xs.length := Nat.pow_pos (by omega)
    cases b with
    | nil =>
      rw [if_neg (show ¬ valD (x :: xs) < valD [] by show ¬ _ < 0; omega), if_pos (show valD [] < valD (x :: xs) by show 0 < _; omega)]
      cases hy <;> simp [cmpPt, thenC, rankP, Lib.compareInt]
    | cons y ys =>
      have hy1 := valD_ge hb (hb0 y ys rfl)
      have hyl := valD_lt _ hb
      have h1 : cmpPt ⟨hy, true, x :: xs⟩ ⟨hy, true, y :: ys⟩ = if Lib.compareInt ((x :: xs).length : Int) ((y :: ys).length : Int) ≠ 0 then Lib.compareInt ((x :: xs).length : Int) ((y :: ys).length : Int) else Lib.compareBytes (x :: xs) (y :: ys) := by
        cases hy <;> simp [cmpPt, thenC, rankP, lenKey, cmpInt_ord.self]
      rw [h1]
      rcases Nat.lt_trichotomy xs.length ys.length with hc | hc | hc
      · have hpow : 10 ^ (x :: xs).length ≤ 10 ^ ys.length := Nat.pow_le_pow_right (by omega) (by rw [List.length_cons]; omega)
        rw [if_pos (show valD (x :: xs) < valD (y :: ys) by omega)]
        have : Lib.compareInt ((x :: xs).length : Int) ((y :: ys).length : Int) = -1 := by
          unfold Lib.compareInt; rw [if_pos (by simp; omega)]
        rw [this]; rfl
      · have : Lib.compareInt ((x :: xs).length : Int) ((y :: ys).length : Int) = 0 := by
          rw [show (x :: xs).length = (y :: ys).length by simp [hc]]; exact cmpInt_ord.self _
        rw [this, if_neg (by omega), bytes_val _ _ ha hb (by simp [hc])]
      · have hpow : 10 ^ (y :: ys).length ≤ 10 ^ xs.length := Nat.pow_le_pow_right (by omega) (by rw [List.length_cons]; omega)
        rw [if_neg (show ¬ valD (x :: xs) < valD (y :: ys) by omega), if_pos (show valD (y :: ys) < valD (x :: xs) by omega)]
        have : Lib.compareInt ((x :: xs).length : Int) ((y :: ys).length : Int) = 1 := by
          unfold Lib.compareInt; rw [if_neg (by simp; omega), if_pos (by simp; omega)]
        rw [this]; rfl

theorem dg_low {l : List UInt8} (h : allDg l) : l.map lowB = l := by
  conv => rhs; rw [← List.map_id l]
  apply List.map_congr_left
  intro c hc
  have := h c hc
  unfold lowB
  rw [if_neg (by omega)]; rfl
theorem dg_cut {c : UInt8} (h : 48 ≤ c.toNat ∧ c.toNat ≤ 57) : isCut c = false := by
  unfold isCut
  have h1 : c ≠ 46 := fun e => by rw [e] at h; simp at h
  have h2 : c ≠ 45 := fun e => by rw [e] at h; simp at h
  simp [h1, h2]
theorem dg_is {c : UInt8} (h : 48 ≤ c.toNat ∧ c.toNat ≤ 57) : isDg c = true := by
  unfold isDg
  simp [h.1, h.2]
theorem getD_mem {l : List UInt8} {k : Nat} (h : k < l.length) : l.getD k 0 ∈ l := by
  rw [List.getD_eq_getElem?_getD, List.getElem?_eq_getElem h]
  exact List.getElem_mem h
/-- digits alone are one piece -/
theorem cutUp_dg {l : List UInt8} (h : allDg l) : ∀ k, k ≤ l.length → cutUp l k = ⟨[], 0, false⟩
  | 0, _ => rfl
  | k + 1, hk => by
    have h1 := cutUp_dg h k (by omega)
    show cut1 l (cutUp l k) k = _
    rw [h1]
    have h2 := h _ (getD_mem (l := l) (k := k) (by omega))
    unfold cut1
    rw [dg_cut h2, if_neg (by simp)]
    rw [if_neg]
    rintro ⟨h0, hne⟩
    have h3 := h _ (getD_mem (l := l) (k := k - 1) (by omega))
    rw [dg_is h2, dg_is h3] at hne
    exact hne rfl
theorem mkPt_dg {l : List UInt8} (h : allDg l) (hy j : Bool) : mkPt l hy j = ⟨hy, true, Lib.trimLeftB l 48⟩ := by
  unfold mkPt
  rw [if_pos]
  unfold numP
  cases l with
  | nil => rfl
  | cons c cs => simp [dg_is (h c (by simp))]
theorem parts0_dg {l : List UInt8} (h : allDg l) : parts0 l = [⟨false, true, Lib.trimLeftB l 48⟩] := by
  unfold parts0
  rw [cutUp_dg h _ (Nat.le_refl _)]
  simp only [List.drop_zero, List.nil_append]
  rw [mkPt_dg h]
theorem trimmed_one (p : Pt) : trimmedL [p] = [p] := by
  simp [trimmedL, backUp, keepB, ptAt]
theorem trimmed_two (p q : Pt) : trimmedL [p, q] = if q.tx = [] then [p] else [p, q] := by
  have h0 : keepB [p, q] [] 1 = !q.tx.isEmpty := by simp [keepB, ptAt, lastHy]
  by_cases h : q.tx = []
  · rw [if_pos h]
    have e1 : keepB [p, q] [] 1 = false := by rw [h0, h]; rfl
    simp [trimmedL, backUp, e1, ptAt, keepB]
    exact ⟨h, rfl⟩
  · rw [if_neg h]
    have e1 : keepB [p, q] [] 1 = true := by rw [h0]; simpa using h
    simp [trimmedL, backUp, e1, ptAt, keepB, lastHy, h]

theorem parts_dg {l : List UInt8} (h : allDg l) : partsB l = [⟨false, true, Lib.trimLeftB l 48⟩] := by
  unfold partsB
  rw [dg_low h, parts0_dg h, trimmed_one]
/-- a one, a dot or a hyphen, and digits -/
theorem cutUp_one {l : List UInt8} {s : UInt8} (hs : s = 46 ∨ s = 45) (h : allDg l) : ∀ k, k ≤ l.length → cutUp (49 :: s :: l) (k + 2) = ⟨[⟨false, true, [49]⟩], 2, s == 45⟩
  | 0, _ => by
    show cut1 _ (cut1 _ ⟨[], 0, false⟩ 0) 1 = _
    rcases hs with rfl | rfl
    · rfl
    · rfl
  | k + 1, hk => by
    have h1 := cutUp_one hs h k (by omega)
    show cut1 (49 :: s :: l) (cutUp (49 :: s :: l) (k + 2)) (k + 2) = _
    rw [h1]
    have e1 : (49 :: s :: l).getD (k + 2) 0 = l.getD k 0 := rfl
    have h2 := h _ (getD_mem (l := l) (k := k) (by omega))
    unfold cut1
    rw [e1, dg_cut h2, if_neg (by simp), if_neg]
    rintro ⟨h0, hne⟩
    simp only at h0
    have e2 : (49 :: s :: l).getD (k + 2 - 1) 0 = l.getD (k - 1) 0 := by
      rw [show k + 2 - 1 = (k - 1) + 2 by omega]; rfl
    have h3 := h _ (getD_mem (l := l) (k := k - 1) (by omega))
    rw [e2, dg_is h2, dg_is h3] at hne
    exact hne rfl
theorem parts_one {l : List UInt8} {s : UInt8} (hs : s = 46 ∨ s = 45) (h : allDg l) :
    partsB (49 :: s :: l) = if Lib.trimLeftB l 48 = [] then [⟨false, true, [49]⟩] else [⟨false, true, [49]⟩, ⟨s == 45, true, Lib.trimLeftB l 48⟩] := by
  unfold partsB
  have e : (49 :: s :: l).map lowB = 49 :: s :: l := by
    rw [List.map_cons, List.map_cons, dg_low h]
    rcases hs with rfl | rfl <;> rfl
  rw [e]
  have e2 : parts0 (49 :: s :: l) = [⟨false, true, [49]⟩, ⟨s == 45, true, Lib.trimLeftB l 48⟩] := by
    unfold parts0
    rw [show (49 :: s :: l).length = l.length + 2 by simp, cutUp_one hs h _ (Nat.le_refl _)]
    simp only [List.drop_succ_cons, List.drop_zero]
    rw [mkPt_dg h]
    rfl
  rw [e2, trimmed_two]
def sgn (a b : Nat) : Int := if a < b then -1 else if b < a then 1 else 0
theorem cmpB_dg {a b : List UInt8} (ha : allDg a) (hb : allDg b) : cmpB a b = sgn (valD a) (valD b) := by
  unfold cmpB
  rw [parts_dg ha, parts_dg hb]
  show cmpUp _ _ 1 = _
  have := cmpPt_num false (strip_all ha) (strip_all hb) (strip_head a) (strip_head b)
  rw [valD_strip, valD_strip] at this
  rw [← show cmpPt ⟨false, true, Lib.trimLeftB a 48⟩ ⟨false, true, Lib.trimLeftB b 48⟩ = sgn (valD a) (valD b) from this]
  rfl
theorem cmpPt_null (hy : Bool) (p : Pt) : cmpPt Pt0 p = cmpPt ⟨hy, true, []⟩ p ∧ cmpPt p Pt0 = cmpPt p ⟨hy, true, []⟩ := by
  cases hy <;> exact ⟨rfl, rfl⟩
theorem cmpB_one {a b : List UInt8} {s : UInt8} (hs : s = 46 ∨ s = 45) (ha : allDg a) (hb : allDg b) : cmpB (49 :: s :: a) (49 :: s :: b) = sgn (valD a) (valD b) := by
  unfold cmpB
  rw [parts_one hs ha, parts_one hs hb]
  have h := cmpPt_num (s == 45) (strip_all ha) (strip_all hb) (strip_head a) (strip_head b)
  rw [valD_strip, valD_strip] at h
  rw [← show cmpPt ⟨s == 45, true, Lib.trimLeftB a 48⟩ ⟨s == 45, true, Lib.trimLeftB b 48⟩ = sgn (valD a) (valD b) from h]
  generalize Lib.trimLeftB a 48 = x
  generalize Lib.trimLeftB b 48 = y
  have hself := cmpPt_ord.self ⟨false, true, [49]⟩
  have key : ∀ l m : List Pt, l.length ≤ 2 → m.length ≤ 2 → ptAt l 0 = ⟨false, true, [49]⟩ → ptAt m 0 = ⟨false, true, [49]⟩ → cmpL l m = cmpPt (ptAt l 1) (ptAt m 1) := by
    intro l m hl hm h1 h2
    rw [cmpL_at 2 hl hm]
    show (if (if (0 : Int) ≠ 0 then (0 : Int) else cmpPt (ptAt l 0) (ptAt m 0)) ≠ 0 then _ else _) = _
    rw [h1, h2, hself]
    rfl
  by_cases hx : x = [] <;> by_cases hy : y = []
  · rw [if_pos hx, if_pos hy, key _ _ (by simp) (by simp) rfl rfl, hx, hy, cmpPt_ord.self, cmpPt_ord.self]
  · rw [if_pos hx, if_neg hy, key _ _ (by simp) (by simp) rfl rfl, hx]
    exact (cmpPt_null (s == 45) _).1
  · rw [if_neg hx, if_pos hy, key _ _ (by simp) (by simp) rfl rfl, hy]
    exact (cmpPt_null (s == 45) _).2
  · rw [if_neg hx, if_neg hy, key _ _ (by simp) (by simp) rfl rfl]
    rfl

/-- a digit's byte; a number's digits -/
def dgC (d : Nat) : UInt8 := (48 + d).toUInt8
def digL (n : Nat) : List UInt8 := if h : n < 10 then [dgC n] else digL (n / 10) ++ [dgC (n % 10)]
theorem dg1 {d : Nat} (h : d < 10) : (dgC d).toNat = 48 + d := by
  show (UInt8.ofNat (48 + d)).toNat = 48 + d
  rw [UInt8.toNat_ofNat']; omega
theorem digL_all (n : Nat) : allDg (digL n) := by
  induction n using Nat.strongRecOn with
  | _ n ih =>
    rw [digL]
    split
    · intro c hc
      simp only [List.mem_singleton] at hc
      subst hc
      rw [dg1 (by omega)]; omega
    · intro c hc
      rw [List.mem_append] at hc
      rcases hc with hc | hc
      · exact ih (n / 10) (by omega) c hc
      · simp only [List.mem_singleton] at hc
        subst hc
        rw [dg1 (by omega)]; omega
theorem digL_val (n : Nat) : valD (digL n) = n := by
  induction n using Nat.strongRecOn with
  | _ n ih =>
    rw [digL]
    split
    · have := dg1 (d := n) (by omega)
      simp only [valD, List.length_nil, Nat.pow_zero]
      omega
    · rw [valD_app, ih (n / 10) (by omega)]
      simp only [valD, List.length_singleton, List.length_nil, dg1 (Nat.mod_lt n (by omega))]
      omega
theorem digL_len (n : Nat) (k : Nat) (h : n < 10 ^ (k + 1)) : (digL n).length ≤ k + 1 := by
  induction k generalizing n with
  | zero => rw [digL, dif_pos (by simpa using h)]; simp
  | succ k ih =>
    rw [digL]
    split
    · simp
    · have := ih (n / 10) (by rw [Nat.pow_succ] at h; omega)
      simp; omega
theorem sgn_app (a b t v : Nat) : sgn (a * 10 ^ t + v) (b * 10 ^ t + v) = sgn a b := by
  unfold sgn
  have hp : 0 < 10 ^ t := Nat.pow_pos (by omega)
  rcases Nat.lt_trichotomy a b with h | h | h
  · have := Nat.mul_lt_mul_of_pos_right h hp
    rw [if_pos (by omega), if_pos h]
  · subst h
    rw [if_neg (by omega), if_neg (by omega)]
    rw [if_neg (by omega), if_neg (by omega)]
  · have := Nat.mul_lt_mul_of_pos_right h hp
    rw [if_neg (by omega), if_pos (by omega), if_neg (by omega), if_pos h]
theorem allDg_app {a b : List UInt8} (ha : allDg a) (hb : allDg b) : allDg (a ++ b) := fun c hc => (List.mem_append.1 hc).elim (ha c) (hb c)
theorem cmp_digits (a b : Nat) : cmpB (digL a) (digL b) = sgn a b := by rw [cmpB_dg (digL_all a) (digL_all b), digL_val, digL_val]
theorem cmp_one (a b : Nat) {s : UInt8} (hs : s = 46 ∨ s = 45) : cmpB (49 :: s :: digL a) (49 :: s :: digL b) = sgn a b := by rw [cmpB_one hs (digL_all a) (digL_all b), digL_val, digL_val]
theorem cmp_tail (a b : Nat) {t : List UInt8} (ht : allDg t) : cmpB (49 :: 46 :: (digL a ++ t)) (49 :: 46 :: (digL b ++ t)) = sgn a b := by
  rw [cmpB_one (.inl rfl) (allDg_app (digL_all a) ht) (allDg_app (digL_all b) ht), valD_app, valD_app, digL_val, digL_val, sgn_app]
end Go.Proofs.YtnghagikchffiaaDoor
