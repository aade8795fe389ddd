/-
  Layer 4: what is null at the end, capitals, noughts ahead of a number change no version: plain mathematics. Own work.
-/
import Derived.Test.YtmfknlmjpfiajaaDoorVerLen
namespace Go.Proofs.YtmfknlmjpfiajaaDoor
set_option linter.unusedVariables false
set_option linter.unusedSimpArgs false
open Go.RowKit

theorem plain_of {d : Bool} {t : List UInt8} (h : (t.all fun c => !isCut c && (isDg c == d) && (lowB c == c)) = true) : Plain d t := by
  intro c hc
  have := List.all_eq_true.1 h c hc
  simp only [Bool.and_eq_true, Bool.not_eq_true', beq_iff_eq] at this
  exact ⟨this.1.1, this.1.2, this.2⟩
/-- a piece behind a cut is one part more -/
theorem parts0_app (L : List UInt8) (s : UInt8) (q : List UInt8) (d : Bool) (hs : isCut s = true) (hd : Plain d q) : parts0 (L ++ s :: q) = parts0 L ++ [mkPt q (s == 45) false] := by
  have c1 : cutUp (L ++ s :: q) L.length = cutUp L L.length := cutUp_pre L _ _ (Nat.le_refl _)
  have c2 : cutUp (L ++ s :: q) (L.length + 1) = ⟨parts0 L, L.length + 1, s == 45⟩ := by
    show cut1 _ (cutUp (L ++ s :: q) L.length) L.length = _
    rw [c1]
    have g : (L ++ s :: q).getD L.length 0 = s := by simp
    unfold cut1
    rw [g, hs, if_pos rfl, sl_app (Nat.le_refl _)]
    unfold parts0 sl
    rw [List.take_length]
  have c3 := cutUp_run (d := d) c2 q.length (fun i hi => by
    rw [show L.length + 1 + i = L.length + (i + 1) by omega, getD_right]
    exact plain_get hd hi)
  have hl : (L ++ s :: q).length = L.length + 1 + q.length := by simp; omega
  conv => lhs; unfold parts0
  rw [hl, c3]
  have e : (L ++ s :: q).drop (L.length + 1) = q := by
    rw [show L ++ s :: q = (L ++ [s]) ++ q by simp, List.drop_append_of_le_length (by simp), List.drop_of_length_le (by simp)]
    rfl
  simp only [e]
theorem backUp_app (Q : List Pt) (n : Pt) (hn : n.tx = []) (hQ : 0 < Q.length) : ∀ k, k ≤ Q.length → backUp (Q ++ [n]) (k + 1) = backUp Q k
  | 0, _ => by
    show (if keepB (Q ++ [n]) [] ((Q ++ [n]).length - 1 - 0) then _ else _) = _
    have e : (Q ++ [n]).length - 1 - 0 = Q.length := by simp
    have ep : ptAt (Q ++ [n]) Q.length = n := by unfold ptAt; simp
    have hne : (Q.length == 0) = false := by simp; intro h; rw [h] at hQ; simp at hQ
    rw [e, if_neg]
    · rfl
    · unfold keepB
      rw [ep, hn, hne]
      simp [lastHy]
  | k + 1, hk => by
    have ih := backUp_app Q n hn hQ k (by omega)
    show (if keepB (Q ++ [n]) (backUp (Q ++ [n]) (k + 1)) ((Q ++ [n]).length - 1 - (k + 1)) then backUp (Q ++ [n]) (k + 1) ++ [ptAt (Q ++ [n]) ((Q ++ [n]).length - 1 - (k + 1))] else backUp (Q ++ [n]) (k + 1)) =
      (if keepB Q (backUp Q k) (Q.length - 1 - k) then backUp Q k ++ [ptAt Q (Q.length - 1 - k)] else backUp Q k)
    have e : (Q ++ [n]).length - 1 - (k + 1) = Q.length - 1 - k := by simp; omega
    have ep : ptAt (Q ++ [n]) (Q.length - 1 - k) = ptAt Q (Q.length - 1 - k) := by
      unfold ptAt
      rw [List.getD_eq_getElem?_getD, List.getD_eq_getElem?_getD, List.getElem?_append_left (by omega)]
    rw [ih, e, ep]
    unfold keepB
    rw [ep]
theorem trimmed_app (Q : List Pt) (n : Pt) (hn : n.tx = []) (hQ : 0 < Q.length) : trimmedL (Q ++ [n]) = trimmedL Q := by
  unfold trimmedL
  rw [show (Q ++ [n]).length = Q.length + 1 by simp, backUp_app Q n hn hQ _ (Nat.le_refl _)]
theorem parts0_pos (l : List UInt8) : 0 < (parts0 l).length := by unfold parts0; simp
/-- a null piece behind a cut at the end changes nothing -/
theorem null_end (l : List UInt8) (s : UInt8) (q : List UInt8) (d : Bool) (hs : isCut s = true) (hls : lowB s = s) (hd : Plain d (q.map lowB)) (hn : (mkPt (q.map lowB) (s == 45) false).tx = []) : partsB (l ++ s :: q) = partsB l := by
  unfold partsB
  rw [List.map_append, List.map_cons, hls, parts0_app _ _ _ d hs hd, trimmed_app _ _ hn (parts0_pos _)]
theorem null_1 (l : List UInt8) : partsB (l ++ [46, 48]) = partsB l := null_end l 46 [48] true rfl rfl (plain_of (by decide)) (by decide)
theorem null_2 (l : List UInt8) : partsB (l ++ [45, 48]) = partsB l := null_end l 45 [48] true rfl rfl (plain_of (by decide)) (by decide)
theorem null_3 (l : List UInt8) : partsB (l ++ [46, 103, 97]) = partsB l := null_end l 46 [103, 97] false rfl rfl (plain_of (by decide)) (by decide)
theorem null_4 (l : List UInt8) : partsB (l ++ [45, 102, 105, 110, 97, 108]) = partsB l := null_end l 45 [102, 105, 110, 97, 108] false rfl rfl (plain_of (by decide)) (by decide)
theorem null_5 (l : List UInt8) : partsB (l ++ [46, 48, 46, 48]) = partsB l := by
  rw [show l ++ [46, 48, 46, 48] = (l ++ [46, 48]) ++ [46, 48] by simp, null_1, null_1]
theorem null_6 (l : List UInt8) : partsB (l ++ [45, 82, 69, 76, 69, 65, 83, 69]) = partsB l := null_end l 45 [82, 69, 76, 69, 65, 83, 69] false rfl rfl (plain_of (by decide)) (by decide)
theorem null_7 (l : List UInt8) : partsB (l ++ [46, 48, 48]) = partsB l := null_end l 46 [48, 48] true rfl rfl (plain_of (by decide)) (by decide)
theorem low_same {s t : List UInt8} (h : s.map lowB = t.map lowB) : partsB s = partsB t := by unfold partsB; rw [h]

theorem cut_shift (a L : List UInt8) (d : Bool) (hd : Plain d a) : ∀ k, k ≤ L.length → cutUp (a ++ 46 :: L) (a.length + 1 + k) = ⟨mkPt a false false :: (cutUp L k).out, a.length + 1 + (cutUp L k).at_, (cutUp L k).hy⟩
  | 0, _ => by
    have r := cutUp_run (l := a ++ 46 :: L) (m := 0) (o := []) (h := false) (d := d) rfl a.length (fun i hi => by
      rw [Nat.zero_add, getD_app hi]; exact plain_get hd hi)
    rw [Nat.zero_add] at r
    show cut1 _ (cutUp (a ++ 46 :: L) a.length) a.length = _
    rw [r]
    have g : (a ++ 46 :: L).getD a.length 0 = 46 := by simp
    unfold cut1
    rw [g, if_pos (show isCut 46 = true from rfl), sl_app (Nat.le_refl _)]
    have : sl a 0 a.length = a := by unfold sl; simp
    rw [this]
    rfl
  | k + 1, hk => by
    have ih := cut_shift a L d hd k (by omega)
    have hat := (cutUp_at L k).1
    show cut1 (a ++ 46 :: L) (cutUp (a ++ 46 :: L) (a.length + 1 + k)) (a.length + 1 + k) = ⟨mkPt a false false :: (cut1 L (cutUp L k) k).out, a.length + 1 + (cut1 L (cutUp L k) k).at_, (cut1 L (cutUp L k) k).hy⟩
    rw [ih]
    generalize cutUp L k = s at hat
    have g : (a ++ 46 :: L).getD (a.length + 1 + k) 0 = L.getD k 0 := by
      rw [show a.length + 1 + k = a.length + (k + 1) by omega, getD_right]; rfl
    have hsl : sl (a ++ 46 :: L) (a.length + 1 + s.at_) (a.length + 1 + k) = sl L s.at_ k := by
      unfold sl
      rw [show a ++ 46 :: L = (a ++ [46]) ++ L by simp, show a.length + 1 + k = (a ++ [46]).length + k by simp, show a.length + 1 + s.at_ = (a ++ [46]).length + s.at_ by simp, List.take_length_add_append, List.drop_length_add_append]
    unfold cut1
    simp only [g, hsl]
    by_cases hc : isCut (L.getD k 0) = true
    · rw [if_pos hc, if_pos hc]
      simp only [List.cons_append]
      congr 1
    · rw [if_neg hc, if_neg hc]
      by_cases hak : s.at_ < k
      · have g2 : (a ++ 46 :: L).getD (a.length + 1 + k - 1) 0 = L.getD (k - 1) 0 := by
          rw [show a.length + 1 + k - 1 = a.length + ((k - 1) + 1) by omega, getD_right]; rfl
        rw [g2]
        by_cases hj : isDg (L.getD k 0) ≠ isDg (L.getD (k - 1) 0)
        · rw [if_pos ⟨by omega, hj⟩, if_pos ⟨hak, hj⟩]
          simp only [List.cons_append]
        · rw [if_neg (fun h => hj h.2), if_neg (fun h => hj h.2)]
      · rw [if_neg (fun h => hak (by have := h.1; omega)), if_neg (fun h => hak h.1)]
theorem parts0_one (a L : List UInt8) (d : Bool) (hd : Plain d a) : parts0 (a ++ 46 :: L) = mkPt a false false :: parts0 L := by
  have h := cut_shift a L d hd L.length (Nat.le_refl _)
  have hl : (a ++ 46 :: L).length = a.length + 1 + L.length := by simp; omega
  unfold parts0
  rw [hl, h]
  have e : (a ++ 46 :: L).drop (a.length + 1 + (cutUp L L.length).at_) = L.drop (cutUp L L.length).at_ := by
    rw [show a ++ 46 :: L = (a ++ [46]) ++ L by simp, show a.length + 1 + (cutUp L L.length).at_ = (a ++ [46]).length + (cutUp L L.length).at_ by simp, List.drop_length_add_append]
  simp only [e, List.cons_append]
theorem nought_one (s : List UInt8) : partsB (49 :: 46 :: s) = partsB (48 :: 49 :: 46 :: s) := by
  unfold partsB
  have e1 : (49 :: 46 :: s).map lowB = [49] ++ 46 :: s.map lowB := rfl
  have e2 : (48 :: 49 :: 46 :: s).map lowB = [48, 49] ++ 46 :: s.map lowB := rfl
  rw [e1, e2, parts0_one [49] _ true (plain_of (by decide)), parts0_one [48, 49] _ true (plain_of (by decide))]
  rfl
end Go.Proofs.YtmfknlmjpfiajaaDoor
