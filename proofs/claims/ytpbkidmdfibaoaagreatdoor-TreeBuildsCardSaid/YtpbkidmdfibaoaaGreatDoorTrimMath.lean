/-
  Layer 1: a text without blanks at its ends: by runes as by bytes: plain mathematics. Own work.
-/
import Derived.Test.YtpbkidmdfibaoaaGreatDoorBase
import Derived.Shelf.GgClosure.StringsTrimFunc
namespace Go.Proofs.YtpbkidmdfibaoaaGreatDoor
set_option linter.unusedVariables false
set_option linter.unusedSimpArgs false
open Go.RowKit

def blankN (r : Nat) : Bool := r == 32 || r == 9 || r == 10 || r == 13
/-- the byte of a text at a place -/
def bt (s : ByteArray) (i : Nat) : Nat := (s.get! i).toNat
theorem bt_list (s : ByteArray) (i : Nat) (h : i < s.size) : s.data.toList[i]? = some (s.get! i) := by
  have h2 : i < s.data.size := h
  rw [Array.getElem?_toList, Array.getElem?_eq_getElem h2]
  congr 1
  show s.data[i] = s.data[i]!
  rw [getElem!_pos s.data i h2]
theorem blank_low {r : Nat} (h : blankN r = true) : r < 128 := by
  unfold blankN at h
  simp only [Bool.or_eq_true, beq_iff_eq] at h
  omega
theorem dec_low (s : ByteArray) (i : Nat) (h : bt s i < 128) : Utf8.decode s i = (bt s i, 1) := by
  unfold bt at h ⊢
  unfold Utf8.decode
  simp only [Nat.add_zero]
  rw [if_pos h]
theorem dec_high (s : ByteArray) (i : Nat) (h : 128 ≤ bt s i) : 128 ≤ (Utf8.decode s i).1 ∧ 1 ≤ (Utf8.decode s i).2 := by
  unfold Utf8.decode
  simp only [Nat.add_zero]
  have hb : ¬ (s.get! i).toNat < 128 := by unfold bt at h; omega
  rw [if_neg hb]
  split
  · split
    · exact ⟨by omega, by simp⟩
    · exact ⟨by simp [Utf8.runeError], by simp⟩
  · split
    · split
      · rename_i h2
        simp only [Bool.and_eq_true, decide_eq_true_eq] at h2
        exact ⟨by omega, by simp⟩
      · exact ⟨by simp [Utf8.runeError], by simp⟩
    · split
      · split
        · rename_i h2
          simp only [Bool.and_eq_true, decide_eq_true_eq] at h2
          exact ⟨by omega, by simp⟩
        · exact ⟨by simp [Utf8.runeError], by simp⟩
      · exact ⟨by simp [Utf8.runeError], by simp⟩
/-- a byte that begins no rune, as what stands behind it goes on with none -/
theorem dec_stray (s : ByteArray) (i : Nat) (h : 128 ≤ bt s i) (hn : s.size ≤ i + 1 ∨ bt s (i + 1) < 128) : (Utf8.decode s i).2 = 1 := by
  have hc : (decide (i + 1 < s.size) && ((s.get! (i + 1)).toNat / 64 == 2)) = false := by
    rcases hn with h1 | h1
    · have : decide (i + 1 < s.size) = false := decide_eq_false (by omega)
      rw [this]; rfl
    · have : ((s.get! (i + 1)).toNat / 64 == 2) = false := by
        rw [beq_eq_false_iff_ne]
        unfold bt at h1
        omega
      rw [this]; simp
  unfold Utf8.decode
  simp only [Nat.add_zero]
  have hb : ¬ (s.get! i).toNat < 128 := by unfold bt at h; omega
  rw [if_neg hb]
  simp only [hc, Bool.and_false, Bool.false_and, Bool.false_eq_true, if_false]

def blankAt (s : ByteArray) (i : Nat) : Bool := blankN (bt s i)
theorem left_to (s : ByteArray) : ∀ f pos, s.size ≤ pos + f → pos ≤ s.size →
    (∃ F, pos ≤ F ∧ F < s.size ∧ Lib.idxFuncFrom blankN false s f pos = (F : Int) ∧ (∀ i, pos ≤ i → i < F → blankAt s i = true) ∧ blankAt s F = false) ∨
    (Lib.idxFuncFrom blankN false s f pos = -1 ∧ ∀ i, pos ≤ i → i < s.size → blankAt s i = true)
  | 0, pos, h1, h2 => .inr ⟨rfl, fun i a b => by omega⟩
  | f + 1, pos, h1, h2 => by
    by_cases hp : pos < s.size
    · by_cases hl : bt s pos < 128
      · have hd := dec_low s pos hl
        cases hbl : blankN (bt s pos) with
        | true =>
          have e : Lib.idxFuncFrom blankN false s (f + 1) pos = Lib.idxFuncFrom blankN false s f (pos + 1) := by
            show (if pos < s.size then _ else _) = _
            rw [if_pos hp, hd, hbl, if_neg (by simp)]
          rcases left_to s f (pos + 1) (by omega) (by omega) with ⟨F, a, b, c, d, g⟩ | ⟨a, b⟩
          · refine .inl ⟨F, by omega, b, by rw [e, c], fun i hi hi2 => ?_, g⟩
            by_cases hip : i = pos
            · subst hip; exact hbl
            · exact d i (by omega) hi2
          · refine .inr ⟨by rw [e, a], fun i hi hi2 => ?_⟩
            by_cases hip : i = pos
            · subst hip; exact hbl
            · exact b i (by omega) hi2
        | false =>
          refine .inl ⟨pos, Nat.le_refl _, hp, ?_, fun i a b => by omega, hbl⟩
          show (if pos < s.size then _ else _) = _
          rw [if_pos hp, hd, hbl, if_pos rfl]
      · have hd := dec_high s pos (by omega)
        have hbl : blankN (Utf8.decode s pos).1 = false := by
          rw [Bool.eq_false_iff]; intro hh; have := blank_low hh; omega
        have hbl2 : blankAt s pos = false := by
          rw [Bool.eq_false_iff]; intro hh; have := blank_low hh; omega
        refine .inl ⟨pos, Nat.le_refl _, hp, ?_, fun i a b => by omega, hbl2⟩
        show (if pos < s.size then _ else _) = _
        rw [if_pos hp, hbl, if_pos rfl]
    · refine .inr ⟨?_, fun i a b => by omega⟩
      show (if pos < s.size then _ else _) = _
      rw [if_neg hp]
theorem bt_take (s : ByteArray) (t i : Nat) (h : i < t) (ht : t ≤ s.size) : bt ⟨(s.data.toList.take t).toArray⟩ i = bt s i := by
  unfold bt
  have h1 := bt_list s i (by omega)
  have h2 := bt_list ⟨(s.data.toList.take t).toArray⟩ i (by
    have h3 : s.data.toList.length = s.size := by simp
    show i < (s.data.toList.take t).toArray.size
    rw [List.size_toArray, List.length_take, h3]
    omega)
  have h3 : (⟨(s.data.toList.take t).toArray⟩ : ByteArray).data.toList = s.data.toList.take t := rfl
  rw [h3, List.getElem?_take_of_lt h, h1] at h2
  have : s.get! i = (⟨(s.data.toList.take t).toArray⟩ : ByteArray).get! i := by injection h2
  rw [this]
theorem bt_getD (s : ByteArray) (i : Nat) (h : i < s.size) : (s.data.toList.getD i 0).toNat = bt s i := by
  rw [List.getD_eq_getElem?_getD, bt_list s i h]; rfl
theorem bt_drop (l : List UInt8) (a i : Nat) (h : a + i < l.length) : bt ⟨(l.drop a).toArray⟩ i = (l.getD (a + i) 0).toNat := by
  have hs : i < (⟨(l.drop a).toArray⟩ : ByteArray).size := by show i < (l.drop a).toArray.size; simp; omega
  rw [← bt_getD _ i hs]
  show ((l.drop a).getD i 0).toNat = _
  rw [List.getD_eq_getElem?_getD, List.getD_eq_getElem?_getD, List.getElem?_drop]
/-- the last rune of a text whose last byte is none of ASCII -/
theorem last_high (l : List UInt8) (h0 : 0 < l.length) (hb : 128 ≤ (l.getD (l.length - 1) 0).toNat) :
    128 ≤ (Lib.decodeLastL l).1 ∧ 1 ≤ (Lib.decodeLastL l).2 ∧ (Lib.decodeLastL l).2 ≤ l.length ∧
      ((Lib.decodeLastL l).2 = 1 ∨ (∃ a, a + (Lib.decodeLastL l).2 = l.length ∧ (Lib.decodeL (l.drop a)).2 = (Lib.decodeLastL l).2)) := by
  unfold Lib.decodeLastL
  rw [if_neg (by intro h; rw [h] at h0; simp at h0), if_neg (by omega)]
  simp only
  generalize Lib.lastStart l = a
  split
  · rename_i he
    have hal : a < l.length ∨ ¬ a < l.length := by omega
    by_cases ha : a < l.length
    · have hba := bt_drop l a 0 (by omega)
      rw [Nat.add_zero] at hba
      by_cases hlow : bt ⟨(l.drop a).toArray⟩ 0 < 128
      · exfalso
        have hd := dec_low ⟨(l.drop a).toArray⟩ 0 hlow
        have hd2 : (Lib.decodeL (l.drop a)).2 = 1 := by unfold Lib.decodeL; rw [hd]
        rw [hd2] at he
        rw [hba, show a = l.length - 1 by omega] at hlow
        omega
      · have hd := dec_high ⟨(l.drop a).toArray⟩ 0 (by omega)
        exact ⟨hd.1, hd.2, by omega, .inr ⟨a, he, rfl⟩⟩
    · exfalso
      have : l.drop a = [] := List.drop_of_length_le (by omega)
      rw [this] at he
      have h1 : (Lib.decodeL []).2 = 1 := by decide
      omega
  · exact ⟨by simp [Utf8.runeError], by simp, by simp; omega, .inl rfl⟩

/-- how wide the rune is that was found at the end -/
def Wide (s : ByteArray) (n t : Nat) : Prop := n = 1 ∨ (Lib.decodeL ((s.data.toList.take t).drop (t - n))).2 = n
theorem size_len (s : ByteArray) : s.data.toList.length = s.size := by simp
theorem right_to (s : ByteArray) : ∀ f i, i ≤ f → i ≤ s.size →
    (∃ t n, 1 ≤ t ∧ t ≤ i ∧ blankAt s (t - 1) = false ∧ (∀ j, t ≤ j → j < i → blankAt s j = true) ∧ Lib.lastIdxFuncFrom blankN false s f i = ((t - n : Nat) : Int) ∧ 1 ≤ n ∧ n ≤ t ∧ Wide s n t) ∨
    (Lib.lastIdxFuncFrom blankN false s f i = -1 ∧ ∀ j, j < i → blankAt s j = true)
  | 0, i, h1, h2 => .inr ⟨rfl, fun j a => by omega⟩
  | f + 1, i, h1, h2 => by
    by_cases hp : 0 < i
    · have hlen : (s.data.toList.take i).length = i := by rw [List.length_take, size_len]; omega
      have hlast : ((s.data.toList.take i).getD ((s.data.toList.take i).length - 1) 0).toNat = bt s (i - 1) := by
        rw [hlen, List.getD_eq_getElem?_getD, List.getElem?_take_of_lt (by omega), ← List.getD_eq_getElem?_getD, bt_getD s (i - 1) (by omega)]
      have e0 : ∀ v, Lib.decodeLastL (s.data.toList.take i) = v → Lib.lastIdxFuncFrom blankN false s (f + 1) i = if blankN v.1 = false then ((i - v.2 : Nat) : Int) else Lib.lastIdxFuncFrom blankN false s f (i - v.2) := by
        intro v hv
        show (if 0 < i then _ else _) = _
        rw [if_pos hp, hv]
      by_cases hl : bt s (i - 1) < 128
      · have hd : Lib.decodeLastL (s.data.toList.take i) = (bt s (i - 1), 1) := by
          unfold Lib.decodeLastL
          rw [if_neg (by intro h; rw [h] at hlen; simp at hlen; omega), if_pos (by rw [hlast]; exact hl), hlast]
        have e := e0 _ hd
        cases hbl : blankN (bt s (i - 1)) with
        | true =>
          rw [hbl, if_neg (by simp)] at e
          rcases right_to s f (i - 1) (by omega) (by omega) with ⟨t, n, a1, a2, a3, a4, a5, a6⟩ | ⟨a, b⟩
          · refine .inl ⟨t, n, a1, by omega, a3, fun j hj hj2 => ?_, by rw [e, a5], a6⟩
            by_cases hji : j = i - 1
            · subst hji; exact hbl
            · exact a4 j hj (by omega)
          · refine .inr ⟨by rw [e, a], fun j hj => ?_⟩
            by_cases hji : j = i - 1
            · subst hji; exact hbl
            · exact b j (by omega)
        | false =>
          rw [hbl, if_pos rfl] at e
          exact .inl ⟨i, 1, hp, Nat.le_refl _, hbl, fun j a b => by omega, e, Nat.le_refl _, hp, .inl rfl⟩
      · obtain ⟨d1, d2, d3, d4⟩ := last_high (s.data.toList.take i) (by omega) (by rw [hlast]; omega)
        have e := e0 _ rfl
        have hbl : blankN (Lib.decodeLastL (s.data.toList.take i)).1 = false := by
          rw [Bool.eq_false_iff]; intro hh; have := blank_low hh; omega
        have hbl2 : blankAt s (i - 1) = false := by
          rw [Bool.eq_false_iff]; intro hh; have := blank_low hh; omega
        rw [hbl, if_pos rfl] at e
        rw [hlen] at d3
        refine .inl ⟨i, _, hp, Nat.le_refl _, hbl2, fun j a b => by omega, e, d2, d3, ?_⟩
        rcases d4 with h | ⟨a, ha, hb⟩
        · exact .inl h
        · refine .inr ?_
          rw [hlen] at ha
          rw [show i - (Lib.decodeLastL (s.data.toList.take i)).2 = a by omega]
          exact hb
    · refine .inr ⟨?_, fun j a => by omega⟩
      show (if 0 < i then _ else _) = _
      rw [if_neg hp]
/-- a rune of several bytes is decoded so whatever stands behind it -/
theorem dec_ext (x y : ByteArray) (hs : y.size ≤ x.size) (hb : ∀ k, k < y.size → x.get! k = y.get! k) (h0 : 0 < y.size) (h : 2 ≤ (Utf8.decode y 0).2) : (Utf8.decode x 0).2 = (Utf8.decode y 0).2 := by
  have e0 := hb 0 h0
  have c : ∀ k, (decide (k < y.size) && (y.get! k).toNat / 64 == 2) = true → (decide (k < x.size) && (x.get! k).toNat / 64 == 2) = true ∧ x.get! k = y.get! k := by
    intro k hk
    simp only [Bool.and_eq_true, decide_eq_true_eq] at hk ⊢
    have := hb k hk.1
    rw [this]
    exact ⟨⟨by omega, hk.2⟩, rfl⟩
  unfold Utf8.decode at h ⊢
  simp only [Nat.zero_add, e0] at h ⊢
  obtain ⟨b0, hb0⟩ : ∃ b0, b0 = y.get! 0 := ⟨_, rfl⟩
  simp only [← hb0] at h ⊢
  by_cases hl : b0.toNat < 128
  · rw [if_pos hl] at h; simp at h
  rw [if_neg hl] at h ⊢
  rw [if_neg hl]
  by_cases h2 : (b0.toNat / 32 == 6 && (decide (1 < y.size) && (y.get! 1).toNat / 64 == 2)) = true
  · have h2' := h2
    simp only [Bool.and_eq_true, beq_iff_eq] at h2
    obtain ⟨c1, c2⟩ := c 1 (by simp only [Bool.and_eq_true, beq_iff_eq]; exact h2.2)
    rw [if_pos h2', if_pos (by rw [c1, Bool.and_true]; simpa using h2.1), c2]
  rw [if_neg h2] at h
  rw [if_neg h2]
  by_cases h3 : (b0.toNat / 16 == 14 && (decide (1 < y.size) && (y.get! 1).toNat / 64 == 2) && (decide (2 < y.size) && (y.get! 2).toNat / 64 == 2)) = true
  · have h3' := h3
    simp only [Bool.and_eq_true, beq_iff_eq] at h3
    obtain ⟨c1, c2⟩ := c 1 (by simp only [Bool.and_eq_true, beq_iff_eq]; exact h3.1.2)
    obtain ⟨d1, d2⟩ := c 2 (by simp only [Bool.and_eq_true, beq_iff_eq]; exact h3.2)
    have hn : (b0.toNat / 32 == 6) = false := by rw [beq_eq_false_iff_ne]; have := h3.1.1; omega
    rw [if_pos h3', if_neg (by rw [hn]; simp), if_pos (by rw [c1, d1, Bool.and_true, Bool.and_true]; simpa using h3.1.1), c2, d2]
  rw [if_neg h3] at h
  rw [if_neg h3]
  by_cases h4 : (b0.toNat / 8 == 30 && (decide (1 < y.size) && (y.get! 1).toNat / 64 == 2) && (decide (2 < y.size) && (y.get! 2).toNat / 64 == 2) && (decide (3 < y.size) && (y.get! 3).toNat / 64 == 2)) = true
  · have h4' := h4
    simp only [Bool.and_eq_true, beq_iff_eq] at h4
    obtain ⟨c1, c2⟩ := c 1 (by simp only [Bool.and_eq_true, beq_iff_eq]; exact h4.1.1.2)
    obtain ⟨d1, d2⟩ := c 2 (by simp only [Bool.and_eq_true, beq_iff_eq]; exact h4.1.2)
    obtain ⟨g1, g2⟩ := c 3 (by simp only [Bool.and_eq_true, beq_iff_eq]; exact h4.2)
    have hn : (b0.toNat / 32 == 6) = false := by rw [beq_eq_false_iff_ne]; have := h4.1.1.1; omega
    have hn2 : (b0.toNat / 16 == 14) = false := by rw [beq_eq_false_iff_ne]; have := h4.1.1.1; omega
    rw [if_pos h4', if_neg (by rw [hn]; simp), if_neg (by rw [hn2]; simp), if_pos (by rw [c1, d1, g1, Bool.and_true, Bool.and_true, Bool.and_true]; simpa using h4.1.1.1), c2, d2, g2]
  rw [if_neg h4] at h
  simp at h

theorem bt_ext (s : ByteArray) (a i : Nat) (h : a + i < s.size) : bt (s.extract a s.size) i = bt s (a + i) := by
  have hl := size_len s
  rw [ext_str]
  have := bt_drop (s.data.toList.take s.size) a i (by rw [List.length_take, hl]; omega)
  rw [List.take_of_length_le (by omega)] at this ⊢
  show bt ⟨(s.data.toList.drop a).toArray⟩ i = _
  rw [this, bt_getD s (a + i) h]
theorem ext_size (s : ByteArray) (a : Nat) (h : a ≤ s.size) : (s.extract a s.size).size = s.size - a := by
  rw [ext_str, size_str, List.length_drop, List.length_take, size_len]; omega
theorem get_bt {x y : ByteArray} {i j : Nat} (h : bt x i = bt y j) : x.get! i = y.get! j := UInt8.toNat_inj.1 h
/-- where the last rune that is no blank ends -/
theorem end_at (s : ByteArray) (t n : Nat) (h1 : 1 ≤ t) (h2 : t ≤ s.size) (h3 : blankAt s (t - 1) = false) (h4 : ∀ j, t ≤ j → j < s.size → blankAt s j = true) (h5 : 1 ≤ n) (h6 : n ≤ t) (hw : Wide s n t) :
    (Lib.decodeGoB (s.extract (t - n) s.size)).2 = n := by
  have hsz := ext_size s (t - n) (by omega)
  unfold Lib.decodeGoB
  rw [if_neg (by omega)]
  by_cases hn : n = 1
  · subst hn
    have hb := bt_ext s (t - 1) 0 (by omega)
    rw [Nat.add_zero] at hb
    by_cases hl : bt s (t - 1) < 128
    · rw [dec_low _ 0 (by rw [hb]; exact hl)]
    · refine dec_stray _ 0 (by rw [hb]; omega) ?_
      by_cases ht : t < s.size
      · right
        have hb1 := bt_ext s (t - 1) 1 (by omega)
        rw [Nat.zero_add, hb1, show t - 1 + 1 = t by omega]
        exact blank_low (h4 t (Nat.le_refl _) ht)
      · left; omega
  · have hw2 : (Lib.decodeL ((s.data.toList.take t).drop (t - n))).2 = n := hw.resolve_left hn
    have hyl : ((s.data.toList.take t).drop (t - n)).length = n := by rw [List.length_drop, List.length_take, size_len]; omega
    have hys : (⟨((s.data.toList.take t).drop (t - n)).toArray⟩ : ByteArray).size = n := by
      show ((s.data.toList.take t).drop (t - n)).toArray.size = n
      rw [List.size_toArray, hyl]
    have hd := dec_ext (s.extract (t - n) s.size) ⟨((s.data.toList.take t).drop (t - n)).toArray⟩ (by omega) (fun k hk => by
      rw [hys] at hk
      apply get_bt
      rw [bt_ext s (t - n) k (by omega), bt_drop _ _ _ (by rw [List.length_take, size_len]; omega), List.getD_eq_getElem?_getD, List.getElem?_take_of_lt (by omega), ← List.getD_eq_getElem?_getD, bt_getD s _ (by omega)]) (by omega) (by
      have : (Utf8.decode ⟨((s.data.toList.take t).drop (t - n)).toArray⟩ 0).2 = n := hw2
      omega)
    rw [hd]
    exact hw2
/-- the text without blanks at its ends: from the first byte that is none to the last -/
def TrimIs (s r : ByteArray) : Prop :=
  (∃ F T, F < T ∧ T ≤ s.size ∧ r = s.extract F T ∧ (∀ i, i < F → blankAt s i = true) ∧ blankAt s F = false ∧ (∀ j, T ≤ j → j < s.size → blankAt s j = true) ∧ blankAt s (T - 1) = false) ∨ (r = ⟨#[]⟩ ∧ ∀ i, i < s.size → blankAt s i = true)
theorem trimF_is (s : ByteArray) : TrimIs s (Lib.trimF blankN s) := by
  unfold Lib.trimF
  rcases left_to s s.size 0 (by omega) (by omega) with ⟨F, a1, a2, a3, a4, a5⟩ | ⟨a1, a2⟩
  · left
    have e1 : Lib.trimLeftF blankN s = s.extract F s.size := by
      unfold Lib.trimLeftF Lib.idxFunc
      rw [a3, if_neg (by omega)]
      rfl
    rw [e1]
    have hx := ext_size s F (by omega)
    have hbx : ∀ i, F + i < s.size → blankAt (s.extract F s.size) i = blankAt s (F + i) := fun i hi => by
      show blankN (bt (s.extract F s.size) i) = blankN (bt s (F + i))
      rw [bt_ext s F i hi]
    rcases right_to (s.extract F s.size) (s.extract F s.size).size (s.extract F s.size).size (Nat.le_refl _) (Nat.le_refl _) with ⟨t, n, b1, b2, b3, b4, b5, b6, b7, b8⟩ | ⟨b1, b2⟩
    · have he := end_at (s.extract F s.size) t n b1 b2 b3 b4 b6 b7 b8
      refine ⟨F, F + t, by omega, by omega, ?_, fun i hi => a4 i (by omega) hi, a5, fun j hj hj2 => ?_, ?_⟩
      · unfold Lib.trimRightF Lib.rightEndF Lib.lastIdxFunc
        rw [b5, if_pos (by omega)]
        simp only [Int.toNat_natCast]
        rw [he, show t - n + n = t by omega, ext_str, ext_str, ext_str, toList_str]
        congr 1
        rw [List.take_of_length_le (l := s.data.toList) (by rw [size_len]; omega), List.drop_zero, List.drop_take]
        congr 1
        omega
      · have := b4 (j - F) (by omega) (by omega)
        rw [hbx (j - F) (by omega), show F + (j - F) = j by omega] at this
        exact this
      · rw [hbx (t - 1) (by omega)] at b3
        rw [show F + t - 1 = F + (t - 1) by omega]
        exact b3
    · exfalso
      have := b2 0 (by omega)
      rw [hbx 0 (by omega), Nat.add_zero, a5] at this
      simp at this
  · right
    refine ⟨?_, fun i hi => a2 i (by omega) hi⟩
    have e1 : Lib.trimLeftF blankN s = ⟨#[]⟩ := by
      unfold Lib.trimLeftF Lib.idxFunc
      rw [a1, if_pos rfl]
    rw [e1]
    decide
theorem trim_one {s a b : ByteArray} (ha : TrimIs s a) (hb : TrimIs s b) : a = b := by
  rcases ha with ⟨F, T, h1, h2, rfl, h4, h5, h6, h7⟩ | ⟨rfl, h⟩
  · rcases hb with ⟨F', T', g1, g2, rfl, g4, g5, g6, g7⟩ | ⟨rfl, g⟩
    · have hF : F = F' := by
        rcases Nat.lt_trichotomy F F' with h | h | h
        · have := g4 F h; rw [h5] at this; simp at this
        · exact h
        · have := h4 F' h; rw [g5] at this; simp at this
      have hT : T = T' := by
        rcases Nat.lt_trichotomy T T' with h | h | h
        · have := h6 (T' - 1) (by omega) (by omega); rw [g7] at this; simp at this
        · exact h
        · have := g6 (T - 1) (by omega) (by omega); rw [h7] at this; simp at this
      rw [hF, hT]
    · have := g F (by omega); rw [h5] at this; simp at this
  · rcases hb with ⟨F', T', g1, g2, rfl, g4, g5, g6, g7⟩ | ⟨rfl, g⟩
    · have := h F' (by omega); rw [g5] at this; simp at this
    · rfl
end Go.Proofs.YtpbkidmdfibaoaaGreatDoor
