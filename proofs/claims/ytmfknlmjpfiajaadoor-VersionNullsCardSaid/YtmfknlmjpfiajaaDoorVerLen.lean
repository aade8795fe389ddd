/-
  Layer 4: how long the text of a version's parts is: plain mathematics. Own work.
-/
import Derived.Test.YtmfknlmjpfiajaaDoorVerCan
namespace Go.Proofs.YtmfknlmjpfiajaaDoor
set_option linter.unusedVariables false
set_option linter.unusedSimpArgs false
open Go.RowKit

def wgt : List Pt → Nat
  | [] => 0
  | p :: ps => p.tx.length + 2 + wgt ps
theorem wgt_app : ∀ a b : List Pt, wgt (a ++ b) = wgt a + wgt b
  | [], b => by simp [wgt]
  | p :: a, b => by
    have := wgt_app a b
    simp only [List.cons_append, wgt, this]; omega
theorem mk_len (t : List UInt8) (hy j : Bool) : (mkPt t hy j).tx.length ≤ t.length + 9 := by
  unfold mkPt
  split
  · have := (List.dropWhile_sublist (l := t) (· == (48 : UInt8))).length_le
    show (Lib.trimLeftB t 48).length ≤ _
    unfold Lib.trimLeftB
    omega
  · show (wordP t j).length ≤ _
    unfold wordP
    repeat' split
    all_goals first | (simp; done) | (simp; omega) | omega
theorem cut_wgt (l : List UInt8) : ∀ k, k ≤ l.length → wgt (cutUp l k).out ≤ (cutUp l k).at_ + 11 * (cutUp l k).out.length
  | 0, _ => by simp [cutUp, wgt]
  | k + 1, hk => by
    have h1 := cut_wgt l k (by omega)
    have h2 := (cutUp_at l k).1
    show wgt (cut1 l (cutUp l k) k).out ≤ (cut1 l (cutUp l k) k).at_ + 11 * (cut1 l (cutUp l k) k).out.length
    generalize cutUp l k = s at h1 h2
    have hs : (sl l s.at_ k).length = k - s.at_ := by unfold sl; simp; omega
    unfold cut1
    split
    · have := mk_len (sl l s.at_ k) s.hy false
      simp only [wgt_app, wgt, List.length_append, List.length_singleton]
      omega
    · split
      · have := mk_len (sl l s.at_ k) s.hy true
        simp only [wgt_app, wgt, List.length_append, List.length_singleton]
        omega
      · exact h1
theorem parts0_wgt (l : List UInt8) : wgt (parts0 l) ≤ 12 * (l.length + 1) := by
  have h1 := cut_wgt l l.length (Nat.le_refl _)
  obtain ⟨h2, h3⟩ := cutUp_at l l.length
  unfold parts0
  have := mk_len (l.drop (cutUp l l.length).at_) (cutUp l l.length).hy false
  have hd : (l.drop (cutUp l l.length).at_).length = l.length - (cutUp l l.length).at_ := by simp
  simp only [wgt_app, wgt]
  omega
theorem wgt_drop (l : List Pt) (i : Nat) (h : i < l.length) : wgt (l.drop i) = (ptAt l i).tx.length + 2 + wgt (l.drop (i + 1)) := by
  rw [List.drop_eq_getElem_cons h]
  unfold ptAt
  rw [List.getD_eq_getElem?_getD, List.getElem?_eq_getElem h]; rfl
theorem backUp_wgt (l : List Pt) : ∀ k, k ≤ l.length → wgt (backUp l k) ≤ wgt (l.drop (l.length - k))
  | 0, _ => by simp [backUp, wgt]
  | k + 1, hk => by
    have h1 := backUp_wgt l k (by omega)
    have h2 := wgt_drop l (l.length - 1 - k) (by omega)
    rw [show l.length - 1 - k + 1 = l.length - k by omega] at h2
    rw [show l.length - (k + 1) = l.length - 1 - k by omega, h2]
    unfold backUp
    split
    · rw [wgt_app]
      simp only [wgt]
      omega
    · omega
theorem wgt_rev : ∀ l : List Pt, wgt l.reverse = wgt l
  | [] => rfl
  | p :: l => by
    rw [List.reverse_cons, wgt_app, wgt_rev l]
    simp only [wgt]; omega
theorem partsB_wgt (l : List UInt8) : wgt (partsB l) ≤ 12 * (l.length + 1) := by
  unfold partsB trimmedL
  rw [wgt_rev]
  have h1 := backUp_wgt (parts0 (l.map lowB)) _ (Nat.le_refl _)
  rw [Nat.sub_self, List.drop_zero] at h1
  have h2 := parts0_wgt (l.map lowB)
  rw [List.length_map] at h2
  omega
theorem can_wgt (P : List Pt) : ∀ k, k ≤ P.length → (canUp P k).length ≤ wgt (P.take k)
  | 0, _ => by simp [canUp]
  | k + 1, hk => by
    have h1 := can_wgt P k (by omega)
    have e : P.take (k + 1) = P.take k ++ [ptAt P k] := by
      rw [List.take_succ_eq_append_getElem (by omega)]
      unfold ptAt
      rw [List.getD_eq_getElem?_getD, List.getElem?_eq_getElem (by omega)]; rfl
    rw [e, wgt_app]
    show (canUp P k ++ canP k (ptAt P k)).length ≤ _
    rw [List.length_append]
    have h4 : (canP k (ptAt P k)).length ≤ 2 + (ptAt P k).tx.length := by
      unfold canP
      simp only [List.length_append]
      repeat' split
      all_goals simp <;> omega
    simp only [wgt]
    omega
theorem canon_len (l : List UInt8) : (canonB l).length ≤ 12 * (l.length + 1) := by
  unfold canonB
  have h1 := can_wgt (partsB l) _ (Nat.le_refl _)
  rw [List.take_length] at h1
  have := partsB_wgt l
  omega
end Go.Proofs.YtmfknlmjpfiajaaDoor
