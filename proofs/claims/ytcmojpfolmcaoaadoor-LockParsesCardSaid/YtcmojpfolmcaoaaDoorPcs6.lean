/-
  Layer 6, plain: a text cut at its colons, as a recursion on its bytes; it is what strings.Split gives, and what the document's answer gathers byte by byte. Own work.
-/
import Derived.Lib.Split
import Derived.Lib.SplitLaws
import Derived.Lib.IndexBytes
import Derived.Test.YtcmojpfolmcaoaaDoorBase
namespace Go.Proofs.YtcmojpfolmcaoaaDoor
set_option linter.unusedVariables false
set_option linter.unusedSimpArgs false
open Go.Lib

/-- the pieces of a text between its colons -/
def pcs : List UInt8 → List (List UInt8)
  | [] => [[]]
  | c :: r => if c = 58 then [] :: pcs r else match pcs r with
    | [] => [[c]]
    | p :: q => (c :: p) :: q
theorem pcs_ne : ∀ l, pcs l ≠ []
  | [] => by simp [pcs]
  | c :: r => by
    unfold pcs
    split
    · simp
    · split <;> simp
theorem pcs_colon (r : List UInt8) : pcs (58 :: r) = [] :: pcs r := by simp [pcs]
theorem pcs_other (c : UInt8) (r : List UInt8) (hc : c ≠ 58) (p : List UInt8) (q : List (List UInt8)) (h : pcs r = p :: q) : pcs (c :: r) = (c :: p) :: q := by
  unfold pcs
  rw [if_neg hc, h]
theorem pcs_miss : ∀ (l : List UInt8), indexByte l 58 = -1 → pcs l = [l]
  | [], _ => rfl
  | c :: r, h => by
    unfold indexByte at h
    by_cases hc : c = 58
    · rw [if_pos (by simp [hc])] at h; omega
    · rw [if_neg (by simp [hc])] at h
      have hr : indexByte r 58 = -1 := by
        have hg := indexByte_ge r 58
        split at h
        · next h1 => exact beq_iff_eq.1 h1
        · omega
      exact pcs_other c r hc _ _ (pcs_miss r hr)
theorem pcs_hit : ∀ (l : List UInt8) (i : Nat), indexByte l 58 = i → pcs l = l.take i :: pcs (l.drop (i + 1))
  | [], i, h => by simp [indexByte] at h
  | c :: r, i, h => by
    unfold indexByte at h
    by_cases hc : c = 58
    · rw [if_pos (by simp [hc])] at h
      have hi : i = 0 := by omega
      subst hi; subst hc
      simp [pcs_colon]
    · rw [if_neg (by simp [hc])] at h
      have hg := indexByte_ge r 58
      split at h
      · omega
      · next h1 =>
        obtain ⟨k, rfl⟩ : ∃ k, i = k + 1 := ⟨i - 1, by
          have : indexByte r 58 ≠ -1 := fun e => h1 (beq_iff_eq.2 e)
          omega⟩
        have hk := pcs_hit r k (by omega)
        rw [pcs_other c r hc _ _ hk]
        simp
theorem splitK_pcs : ∀ (k : Nat) (l : List UInt8), count l [58] = k → splitK [58] 0 k l = pcs l
  | 0, l, h => by
    unfold splitK
    have : index l [58] = -1 := by
      by_cases hi : index l [58] = -1
      · exact hi
      · have hg := index_ge l [58]
        obtain ⟨i, hi'⟩ : ∃ i : Nat, index l [58] = i := ⟨(index l [58]).toNat, by omega⟩
        rw [count_hit (by simp) hi'] at h
        omega
    rw [index_one] at this
    rw [pcs_miss l this]
  | k + 1, l, h => by
    have hg := index_ge l [58]
    by_cases hi : index l [58] = -1
    · rw [count_miss hi] at h; omega
    · obtain ⟨i, hi'⟩ : ∃ i : Nat, index l [58] = i := ⟨(index l [58]).toNat, by omega⟩
      have hc := count_hit (sub := [58]) (by simp) hi'
      unfold splitK
      rw [if_neg (by simpa using hi), hi']
      have e1 : ((i : Int).toNat + 0) = i := by omega
      have e2 : ((i : Int).toNat + ([58] : List UInt8).length) = i + 1 := by simp
      rw [e1, e2]
      rw [splitK_pcs k _ (by have : ([58] : List UInt8).length = 1 := rfl
                             rw [this] at hc; omega)]
      rw [index_one] at hi'
      exact (pcs_hit l i hi').symm
/-- strings.Split at a colon -/
theorem splitB_pcs (s : ByteArray) : splitB ⟨#[58]⟩ 0 (countB s ⟨#[58]⟩) s = (pcs s.data.toList).map str := by
  have h := splitB_data ⟨#[58]⟩ 0 (countB s ⟨#[58]⟩) s
  rw [show (⟨#[58]⟩ : ByteArray).data.toList = [58] from rfl, splitK_pcs _ _ rfl] at h
  rw [← h, List.map_map]
  conv => lhs; rw [← List.map_id (splitB _ _ _ _)]
  apply List.map_congr_left
  intro x _
  exact (str_toList x).symm
theorem count_pcs (s : ByteArray) : (pcs s.data.toList).length = countB s ⟨#[58]⟩ + 1 := by
  have h := splitB_all ⟨#[58]⟩ (by decide) 0 _ s rfl
  rw [splitB_pcs] at h
  simpa using h
/-- one byte more -/
theorem pcs_snoc_colon : ∀ (l : List UInt8), pcs (l ++ [58]) = pcs l ++ [[]]
  | [] => rfl
  | c :: r => by
    rw [List.cons_append]
    by_cases hc : c = 58
    · subst hc; rw [pcs_colon, pcs_colon, pcs_snoc_colon r]; rfl
    · obtain ⟨p, q, hpq⟩ : ∃ p q, pcs r = p :: q := by
        cases h : pcs r with
        | nil => exact absurd h (pcs_ne r)
        | cons p q => exact ⟨p, q, rfl⟩
      have h2 := pcs_snoc_colon r
      rw [hpq] at h2
      rw [pcs_other c r hc _ _ hpq, pcs_other c _ hc _ _ h2]
      rfl
theorem pcs_snoc_other (x : UInt8) (hx : x ≠ 58) : ∀ (l : List UInt8), ∃ q p, pcs l = q ++ [p] ∧ pcs (l ++ [x]) = q ++ [p ++ [x]]
  | [] => ⟨[], [], rfl, by simp [pcs, hx]⟩
  | c :: r => by
    obtain ⟨q, p, h1, h2⟩ := pcs_snoc_other x hx r
    rw [List.cons_append]
    by_cases hc : c = 58
    · subst hc; exact ⟨[] :: q, p, by rw [pcs_colon, h1]; rfl, by rw [pcs_colon, h2]; rfl⟩
    · cases q with
      | nil => exact ⟨[], c :: p, by rw [pcs_other c r hc p [] h1]; rfl, by rw [pcs_other c _ hc (p ++ [x]) [] h2]; rfl⟩
      | cons y q => exact ⟨(c :: y) :: q, p, by rw [pcs_other c r hc y (q ++ [p]) h1]; rfl, by rw [pcs_other c _ hc y (q ++ [p ++ [x]]) h2]; rfl⟩
/-- the pieces joined by colons are the text -/
def joinC : List (List UInt8) → List UInt8
  | [] => []
  | [p] => p
  | p :: q => p ++ 58 :: joinC q
theorem joinC_cons (p : List UInt8) (q : List (List UInt8)) (h : q ≠ []) : joinC (p :: q) = p ++ 58 :: joinC q := by
  cases q with
  | nil => exact absurd rfl h
  | cons a b => rfl
theorem joinC_pcs : ∀ l, joinC (pcs l) = l
  | [] => rfl
  | c :: r => by
    have ih := joinC_pcs r
    by_cases hc : c = 58
    · subst hc; rw [pcs_colon, joinC_cons _ _ (pcs_ne r), ih]; rfl
    · obtain ⟨p, q, hpq⟩ : ∃ p q, pcs r = p :: q := by
        cases h : pcs r with
        | nil => exact absurd h (pcs_ne r)
        | cons p q => exact ⟨p, q, rfl⟩
      rw [pcs_other c r hc _ _ hpq]
      rw [hpq] at ih
      cases q with
      | nil => simp [joinC] at ih ⊢; exact ih
      | cons a b => rw [joinC_cons _ _ (by simp)] at ih ⊢; rw [List.cons_append, ih]
theorem pcs_plain (p : List UInt8) (h : ∀ c ∈ p, c ≠ 58) : pcs p = [p] := by
  induction p with
  | nil => rfl
  | cons c r ih => exact pcs_other c r (h c (by simp)) _ _ (ih fun x hx => h x (by simp [hx]))
theorem pcs_app (p r : List UInt8) (h : ∀ c ∈ p, c ≠ 58) : pcs (p ++ 58 :: r) = p :: pcs r := by
  induction p with
  | nil => exact pcs_colon r
  | cons c q ih => exact pcs_other c _ (h c (by simp)) _ _ (ih fun x hx => h x (by simp [hx]))
theorem pcs_len_le (l : List UInt8) : ∀ p ∈ pcs l, p.length ≤ l.length := by
  induction l with
  | nil => intro p hp; simp [pcs] at hp; simp [hp]
  | cons c r ih =>
    intro p hp
    by_cases hc : c = 58
    · subst hc
      rw [pcs_colon] at hp
      rcases List.mem_cons.1 hp with rfl | hp
      · simp
      · have := ih p hp; simp only [List.length_cons]; omega
    · obtain ⟨a, q, hpq⟩ : ∃ p q, pcs r = p :: q := by
        cases h : pcs r with
        | nil => exact absurd h (pcs_ne r)
        | cons p q => exact ⟨p, q, rfl⟩
      rw [pcs_other c r hc _ _ hpq] at hp
      rw [hpq] at ih
      rcases List.mem_cons.1 hp with rfl | hp
      · have := ih a (by simp); simp only [List.length_cons]; omega
      · have := ih p (by simp [hp]); simp only [List.length_cons]; omega
end Go.Proofs.YtcmojpfolmcaoaaDoor
