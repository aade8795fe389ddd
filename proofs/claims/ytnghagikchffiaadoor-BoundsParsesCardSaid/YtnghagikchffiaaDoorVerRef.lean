/-
  Layer 4: the answer's parts are the parts: plain mathematics. Own work.
-/
import Derived.Test.YtnghagikchffiaaDoorVerCan
namespace Go.Proofs.YtnghagikchffiaaDoor
set_option linter.unusedVariables false
set_option linter.unusedSimpArgs false
open Go.RowKit

/-- a piece as the answer holds it: its hyphen, whether a joined one stands behind it, its text -/
structure Rw where
  hy : Bool
  near : Bool
  tx : List UInt8
def finR (r : Rw) : Pt := mkPt r.tx r.hy r.near
structure RawAt (L : List UInt8) (k : Nat) (R : List Rw) (t : List UInt8) (h : Bool) : Prop where
  fin : R.map finR = (cutUp L k).out
  tx : t = sl L (cutUp L k).at_ k
  hy : h = (cutUp L k).hy
theorem raw_zero (L : List UInt8) : RawAt L 0 [] [] false := ⟨rfl, by simp [cutUp, sl], rfl⟩
theorem cutUp_succ (L : List UInt8) (k : Nat) : cutUp L (k + 1) = cut1 L (cutUp L k) k := rfl
theorem raw_len {L : List UInt8} {k : Nat} {R : List Rw} {t : List UInt8} {h : Bool} (hr : RawAt L k R t h) (hk : k ≤ L.length) : t.length = k - (cutUp L k).at_ := by
  rw [hr.tx]; unfold sl; simp; omega
theorem raw_cut {L : List UInt8} {k : Nat} {R : List Rw} {t : List UInt8} {h : Bool} (hr : RawAt L k R t h) (hc : isCut (L.getD k 0) = true) :
    RawAt L (k + 1) (R ++ [⟨h, false, t⟩]) [] (L.getD k 0 == 45) := by
  have e : cutUp L (k + 1) = ⟨(cutUp L k).out ++ [mkPt (sl L (cutUp L k).at_ k) (cutUp L k).hy false], k + 1, L.getD k 0 == 45⟩ := by
    rw [cutUp_succ]; unfold cut1; rw [if_pos hc]
  refine ⟨?_, ?_, ?_⟩
  · rw [e, List.map_append, hr.fin]; simp [finR, hr.tx, hr.hy]
  · rw [e]; unfold sl; rw [List.drop_of_length_le (by simp; omega)]
  · rw [e]
theorem raw_joint {L : List UInt8} {k : Nat} {R : List Rw} {t : List UInt8} {h : Bool} (hr : RawAt L k R t h) (hk : k < L.length) (hc : isCut (L.getD k 0) = false) (ht : 0 < t.length) (hd : isDg (L.getD k 0) ≠ isDg (L.getD (k - 1) 0)) :
    RawAt L (k + 1) (R ++ [⟨h, true, t⟩]) [L.getD k 0] true := by
  have hl := raw_len hr (by omega)
  have e : cutUp L (k + 1) = ⟨(cutUp L k).out ++ [mkPt (sl L (cutUp L k).at_ k) (cutUp L k).hy true], k, true⟩ := by
    rw [cutUp_succ]; unfold cut1; rw [if_neg (by rw [hc]; simp), if_pos ⟨by omega, hd⟩]
  refine ⟨?_, ?_, ?_⟩
  · rw [e, List.map_append, hr.fin]; simp [finR, hr.tx, hr.hy]
  · rw [e]; unfold sl
    rw [List.drop_take, List.drop_eq_getElem_cons hk, show k + 1 - k = 1 by omega, List.getD_eq_getElem?_getD, List.getElem?_eq_getElem hk]
    rfl
  · rw [e]
theorem raw_same {L : List UInt8} {k : Nat} {R : List Rw} {t : List UInt8} {h : Bool} (hr : RawAt L k R t h) (hk : k < L.length) (hc : isCut (L.getD k 0) = false) (hd : t.length = 0 ∨ isDg (L.getD k 0) = isDg (L.getD (k - 1) 0)) :
    RawAt L (k + 1) R (t ++ [L.getD k 0]) h := by
  have hl := raw_len hr (by omega)
  have hat := (cutUp_at L k).1
  have e : cutUp L (k + 1) = cutUp L k := by
    rw [cutUp_succ]; unfold cut1
    rw [if_neg (by rw [hc]; simp), if_neg]
    rintro ⟨a, b⟩
    rcases hd with h | h
    · omega
    · exact b h
  refine ⟨?_, ?_, ?_⟩
  · rw [e, hr.fin]
  · rw [e, hr.tx]; unfold sl
    rw [List.take_succ_eq_append_getElem hk, List.drop_append_of_le_length (by simp; omega), List.getD_eq_getElem?_getD, List.getElem?_eq_getElem hk]
    rfl
  · rw [e, hr.hy]
theorem raw_end {L : List UInt8} {R : List Rw} {t : List UInt8} {h : Bool} (hr : RawAt L L.length R t h) : (R ++ [(⟨h, false, t⟩ : Rw)]).map finR = parts0 L := by
  unfold parts0
  rw [List.map_append, hr.fin]
  congr 1
  simp [finR, hr.tx, hr.hy, sl]
/-- how many digits a piece has -/
def digs (t : List UInt8) : Nat := t.countP isDg
theorem digs_snoc (t : List UInt8) (c : UInt8) : digs (t ++ [c]) = digs t + (if isDg c then 1 else 0) := by
  unfold digs; rw [List.countP_append]; simp [List.countP_cons]
theorem digs_word {t : List UInt8} (h : ∀ c ∈ t, isDg c = isDg (t.headD 0)) : decide (digs t < t.length) = !numP t := by
  cases t with
  | nil => rfl
  | cons c cs =>
    have hc : numP (c :: cs) = isDg c := rfl
    rw [hc]
    cases hd : isDg c
    · have : digs (c :: cs) = 0 := by
        unfold digs
        rw [List.countP_eq_zero]
        intro x hx
        rw [h x hx]
        simp [hd]
      rw [this]; simp
    · have : digs (c :: cs) = (c :: cs).length := by
        unfold digs
        rw [List.countP_eq_length]
        intro x hx
        rw [h x hx]
        simp [hd]
      rw [this]; simp
theorem raw_word {s : List UInt8} {k : Nat} {R : List Rw} {t : List UInt8} {h : Bool} (hr : RawAt (s.map lowB) k R t h) (hk : k ≤ s.length) : decide (digs t < t.length) = !numP t := by
  have hl : ∀ c ∈ s.map lowB, lowB c = c := by
    intro c hc
    obtain ⟨x, _, rfl⟩ := List.mem_map.1 hc
    exact lowB_lowB x
  have hk' : k ≤ (s.map lowB).length := by simpa using hk
  refine digs_word fun c hc => ?_
  rw [hr.tx] at hc ⊢
  exact (sl_all hl hk' (cutting _ hl k hk').run c hc).2.1
/-- how a lowered byte is told -/
theorem low_getD {s : List UInt8} {k : Nat} (hk : k < s.length) : (s.map lowB).getD k 0 = lowB (s.getD k 0) := by
  rw [List.getD_eq_getElem?_getD, List.getD_eq_getElem?_getD, List.getElem?_map, List.getElem?_eq_getElem hk]; rfl
theorem low_cut (c : UInt8) : isCut (lowB c) = isCut c ∧ isDg (lowB c) = isDg c ∧ (lowB c == 45) = (c == 45) := by
  unfold lowB
  split
  · rename_i h
    have h32 : (32 : UInt8).toNat = 32 := rfl
    have hn : (c + 32).toNat = c.toNat + 32 := by rw [UInt8.toNat_add, h32]; omega
    have n1 : ∀ x : UInt8, x.toNat < 65 → (c == x) = false := by
      intro x hx; rw [Bool.eq_false_iff]; intro h; rw [beq_iff_eq] at h; subst h; omega
    have n2 : ∀ x : UInt8, x.toNat < 65 → (c + 32 == x) = false := by
      intro x hx; rw [Bool.eq_false_iff]; intro h; rw [beq_iff_eq] at h; rw [h] at hn; omega
    refine ⟨?_, ?_, ?_⟩
    · unfold isCut; rw [n1 46 (by decide), n1 45 (by decide), n2 46 (by decide), n2 45 (by decide)]
    · unfold isDg; rw [hn]
      rw [Bool.eq_iff_iff]; simp only [Bool.and_eq_true, decide_eq_true_eq]; omega
    · rw [n1 45 (by decide), n2 45 (by decide)]
  · exact ⟨rfl, rfl, rfl⟩

/-- what stays behind the first part -/
def headHy : List Pt → Bool
  | [] => true
  | p :: _ => p.hy
def tr : List Pt → List Pt
  | [] => []
  | p :: r => if p.tx.isEmpty && headHy (tr r) then tr r else p :: tr r
theorem lastHy_rev (b : List Pt) : lastHy b = headHy b.reverse := by
  unfold lastHy
  rw [← List.head?_reverse]
  cases b.reverse <;> rfl
theorem backUp_tr (P : List Pt) : ∀ k, k + 1 ≤ P.length → (backUp P k).reverse = tr (P.drop (P.length - k))
  | 0, _ => by simp [backUp, tr]
  | k + 1, hk => by
    have ih := backUp_tr P k (by omega)
    have hi : P.length - 1 - k = P.length - (k + 1) := by omega
    have hd : P.drop (P.length - (k + 1)) = ptAt P (P.length - (k + 1)) :: P.drop (P.length - k) := by
      rw [List.drop_eq_getElem_cons (by omega), show P.length - (k + 1) + 1 = P.length - k by omega]
      congr 1
      unfold ptAt
      rw [List.getD_eq_getElem?_getD, List.getElem?_eq_getElem (by omega)]; rfl
    rw [hd]
    show (if keepB P (backUp P k) (P.length - 1 - k) then backUp P k ++ [ptAt P (P.length - 1 - k)] else backUp P k).reverse = _
    unfold keepB
    rw [hi, lastHy_rev, ih]
    have h0 : (P.length - (k + 1) == 0) = false := by simp; omega
    rw [h0, tr]
    by_cases hb : ((ptAt P (P.length - (k + 1))).tx.isEmpty && headHy (tr (P.drop (P.length - k)))) = true
    · rw [if_pos hb, if_neg, ih]
      simp only [Bool.and_eq_true] at hb
      rw [hb.1, hb.2]; simp
    · rw [if_neg hb, if_pos, List.reverse_append, ih]
      · rfl
      · revert hb
        cases (ptAt P (P.length - (k + 1))).tx.isEmpty <;> cases headHy (tr (P.drop (P.length - k))) <;> simp
theorem trimmed_tr (p : Pt) (r : List Pt) : trimmedL (p :: r) = p :: tr r := by
  unfold trimmedL
  have h := backUp_tr (p :: r) r.length (by simp)
  rw [show (p :: r).length - r.length = 1 by simp] at h
  show (if keepB (p :: r) (backUp (p :: r) r.length) ((p :: r).length - 1 - r.length) then _ else _ : List Pt).reverse = _
  have h0 : (p :: r).length - 1 - r.length = 0 := by simp
  rw [h0, if_pos (by unfold keepB; simp), List.reverse_append, h]
  rfl
theorem tr_app (x : List Pt) {y z : List Pt} (h : tr y = tr z) : tr (x ++ y) = tr (x ++ z) := by
  induction x with
  | nil => exact h
  | cons a x ih => simp only [List.cons_append, tr]; rw [ih]
theorem tr_gone {q : Pt} {y : List Pt} (hq : q.tx = []) (hy : headHy y = true) : tr (q :: y) = tr y := by
  have : headHy (tr y) = true := by
    cases y with
    | nil => rfl
    | cons c y =>
      unfold tr
      split
      · rename_i h; simp only [Bool.and_eq_true] at h; exact h.2
      · exact hy
  rw [tr, hq, this]; rfl
/-- a null part that is last, or ahead of one with a hyphen, may go -/
theorem trimmed_rm {P : List Pt} {i : Nat} (h1 : 1 ≤ i) (h2 : i < P.length) (h3 : (ptAt P i).tx = []) (h4 : i + 1 = P.length ∨ (ptAt P (i + 1)).hy = true) : trimmedL (P.take i ++ P.drop (i + 1)) = trimmedL P := by
  cases P with
  | nil => simp at h2
  | cons p r =>
    obtain ⟨j, rfl⟩ : ∃ j, i = j + 1 := ⟨i - 1, by omega⟩
    have hj : j < r.length := by simpa using h2
    have hd : r.drop j = ptAt r j :: r.drop (j + 1) := by
      rw [List.drop_eq_getElem_cons hj]
      congr 1
      unfold ptAt
      rw [List.getD_eq_getElem?_getD, List.getElem?_eq_getElem hj]; rfl
    show trimmedL (p :: (r.take j ++ r.drop (j + 1))) = _
    rw [trimmed_tr, trimmed_tr]
    congr 1
    conv => rhs; rw [← List.take_append_drop j r]
    apply tr_app
    rw [hd]
    have h3' : (ptAt r j).tx = [] := h3
    refine (tr_gone h3' ?_).symm
    rcases h4 with h | h
    · rw [List.drop_of_length_le (by simp at h; omega)]; rfl
    · by_cases hl : j + 1 < r.length
      · rw [List.drop_eq_getElem_cons hl]
        have e : ptAt (p :: r) (j + 1 + 1) = r[j + 1] := by
          unfold ptAt
          rw [List.getD_eq_getElem?_getD, List.getElem?_cons_succ, List.getElem?_eq_getElem hl]; rfl
        rw [e] at h
        exact h
      · rw [List.drop_of_length_le (by omega)]; rfl
/-- where none may go, it is trimmed -/
theorem trimmed_end {P : List Pt} (h : ∀ i, 1 ≤ i → i < P.length → ¬ ((ptAt P i).tx = [] ∧ (i + 1 = P.length ∨ (ptAt P (i + 1)).hy = true))) : trimmedL P = P := by
  apply trimmed_same
  intro i p h1 hp ht
  have hi := (List.getElem?_eq_some_iff.1 hp).1
  have hpa : ptAt P i = p := by unfold ptAt; rw [List.getD_eq_getElem?_getD, hp]; rfl
  have hn := h i h1 hi
  have h2 : i + 1 < P.length := by
    refine Decidable.byContradiction fun hh => hn ⟨by rw [hpa]; exact ht, .inl (by omega)⟩
  refine ⟨P[i + 1], List.getElem?_eq_getElem h2, ?_⟩
  have e : ptAt P (i + 1) = P[i + 1] := by unfold ptAt; rw [List.getD_eq_getElem?_getD, List.getElem?_eq_getElem h2]; rfl
  rw [Bool.eq_false_iff]
  intro hh
  exact hn ⟨by rw [hpa]; exact ht, .inr (by rw [e]; exact hh)⟩
end Go.Proofs.YtnghagikchffiaaDoor
