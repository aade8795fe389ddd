/-
  Layer 8: the first reference of a text, by way of strings.Cut. Own work.
-/
import Derived.Test.YthfholnnkdoagaaPr8
import Derived.Lib.IndexMore
namespace Go.Proofs.Ythfholnnkdoagaa
set_option linter.unusedVariables false
set_option linter.unusedSimpArgs false

theorem index_cons8 (c : UInt8) (s sep : List UInt8) : Lib.index (c :: s) sep = if sep.isPrefixOf (c :: s) then 0 else if Lib.index s sep == -1 then -1 else Lib.index s sep + 1 := by
  rw [Lib.index]
theorem cut_cons8 (c : UInt8) (s sep : List UInt8) : Lib.cut (c :: s) sep = if sep.isPrefixOf (c :: s) then ([], (c :: s).drop sep.length, true) else if (Lib.cut s sep).2.2 then (c :: (Lib.cut s sep).1, (Lib.cut s sep).2.1, true) else (c :: s, [], false) := by
  have hge := Lib.index_ge s sep
  unfold Lib.cut
  rw [index_cons8]
  by_cases hp : sep.isPrefixOf (c :: s) = true
  · simp [hp]
  · simp only [hp]
    by_cases hi : Lib.index s sep = -1
    · simp [hi]
    · have h0 : 0 ≤ Lib.index s sep := by omega
      obtain ⟨i, hi2⟩ := Int.eq_ofNat_of_zero_le h0
      rw [hi2]
      have e1 : ((i : Int) == -1) = false := by simp
      have e2 : (0 : Int) ≤ (i : Int) + 1 := by omega
      have e3 : (0 : Int) ≤ (i : Int) := by omega
      have e4 : ((i : Int) + 1).toNat = i + 1 := by omega
      simp [e1, e2, e3, e4]
      rw [show i + 1 + sep.length = (i + sep.length) + 1 by omega]
      rfl
theorem close_cut : ∀ s : List UInt8, closeM s = if (Lib.cut s [125]).2.2 then some ((Lib.cut s [125]).1, (Lib.cut s [125]).2.1) else none
  | [] => rfl
  | c :: s => by
    rw [closeM, cut_cons8, close_cut s]
    by_cases hc : c = 125
    · subst hc; simp
    · have : ([125] : List UInt8).isPrefixOf (c :: s) = false := by simp [List.isPrefixOf]; exact fun h => hc h.symm
      rw [if_neg hc, this]
      by_cases h : (Lib.cut s [125]).2.2 = true
      · simp [h]
      · simp [h]
theorem ref_cut : ∀ s : List UInt8, refM8 s = if (Lib.cut s [36, 123]).2.2 then (closeM (Lib.cut s [36, 123]).2.1).map (fun q => ((Lib.cut s [36, 123]).1, q.1, q.2)) else none
  | [] => rfl
  | c :: s => by
    rw [refM8, cut_cons8, ref_cut s]
    by_cases hc : c = 36 ∧ s.head? = some 123
    · obtain ⟨rfl, h2⟩ := hc
      cases s with
      | nil => cases h2
      | cons d t =>
        have hd : d = 123 := by simpa using h2
        subst hd
        simp [List.isPrefixOf]
    · have : ([36, 123] : List UInt8).isPrefixOf (c :: s) = false := by
        rw [Bool.eq_false_iff]
        intro h
        apply hc
        cases s with
        | nil => simp [List.isPrefixOf] at h
        | cons d t =>
          simp [List.isPrefixOf] at h
          exact ⟨h.1.symm, by simp [h.2]⟩
      rw [if_neg hc, this]
      by_cases h : (Lib.cut s [36, 123]).2.2 = true
      · simp [h, Option.map_map]; rfl
      · simp [h]
end Go.Proofs.Ythfholnnkdoagaa
