/-
  Layer 24, plain: a text cut at a byte d, as a recursion on its bytes; it is what strings.Split gives, and what the document's answer gathers byte by byte. Own work.
-/
import Derived.Lib.Split
import Derived.Lib.SplitLaws
import Derived.Lib.IndexBytes
import Derived.Test.YtcmojpfolmcaoaaDoorPcs6
namespace Go.Proofs.YtcmojpfolmcaoaaDoor
set_option linter.unusedVariables false
set_option linter.unusedSimpArgs false
open Go.Lib

/-- the pieces of a text between its colons -/
def pcd (d : UInt8) : List UInt8 → List (List UInt8)
  | [] => [[]]
  | c :: r => if c = d then [] :: pcd d r else match pcd d r with
    | [] => [[c]]
    | p :: q => (c :: p) :: q
theorem pcd_ne {d : UInt8} : ∀ l, pcd d l ≠ []
  | [] => by simp [pcd]
  | c :: r => by
    unfold pcd
    split
    · simp
    · split <;> simp
theorem pcd_colon {d : UInt8} (r : List UInt8) : pcd d (d :: r) = [] :: pcd d r := by simp [pcd]
theorem pcd_other {d : UInt8} (c : UInt8) (r : List UInt8) (hc : c ≠ d) (p : List UInt8) (q : List (List UInt8)) (h : pcd d r = p :: q) : pcd d (c :: r) = (c :: p) :: q := by
  unfold pcd
  rw [if_neg hc, h]
theorem pcd_miss {d : UInt8} : ∀ (l : List UInt8), indexByte l d = -1 → pcd d l = [l]
  | [], _ => rfl
  | c :: r, h => by
    unfold indexByte at h
    by_cases hc : c = d
    · rw [if_pos (by simp [hc])] at h; omega
    · rw [if_neg (by simp [hc])] at h
      have hr : indexByte r d = -1 := by
        have hg := indexByte_ge r d
        split at h
        · next h1 => exact beq_iff_eq.1 h1
        · omega
      exact pcd_other c r hc _ _ (pcd_miss r hr)
theorem pcd_hit {d : UInt8} : ∀ (l : List UInt8) (i : Nat), indexByte l d = i → pcd d l = l.take i :: pcd d (l.drop (i + 1))
  | [], i, h => by simp [indexByte] at h
  | c :: r, i, h => by
    unfold indexByte at h
    by_cases hc : c = d
    · rw [if_pos (by simp [hc])] at h
      have hi : i = 0 := by omega
      subst hi; rw [hc]
      simp [pcd_colon]
    · rw [if_neg (by simp [hc])] at h
      have hg := indexByte_ge r d
      split at h
      · omega
      · next h1 =>
        obtain ⟨k, rfl⟩ : ∃ k, i = k + 1 := ⟨i - 1, by
          have : indexByte r d ≠ -1 := fun e => h1 (beq_iff_eq.2 e)
          omega⟩
        have hk := pcd_hit (d := d) r k (by omega)
        rw [pcd_other c r hc _ _ hk]
        simp
theorem splitK_pcd {d : UInt8} : ∀ (k : Nat) (l : List UInt8), count l [d] = k → splitK [d] 0 k l = pcd d l
  | 0, l, h => by
    unfold splitK
    have : index l [d] = -1 := by
      by_cases hi : index l [d] = -1
      · exact hi
      · have hg := index_ge l [d]
        obtain ⟨i, hi'⟩ : ∃ i : Nat, index l [d] = i := ⟨(index l [d]).toNat, by omega⟩
        rw [count_hit (by simp) hi'] at h
        omega
    rw [index_one] at this
    rw [pcd_miss l this]
  | k + 1, l, h => by
    have hg := index_ge l [d]
    by_cases hi : index l [d] = -1
    · rw [count_miss hi] at h; omega
    · obtain ⟨i, hi'⟩ : ∃ i : Nat, index l [d] = i := ⟨(index l [d]).toNat, by omega⟩
      have hc := count_hit (sub := [d]) (by simp) hi'
      unfold splitK
      rw [if_neg (by simpa using hi), hi']
      have e1 : ((i : Int).toNat + 0) = i := by omega
      have e2 : ((i : Int).toNat + ([d] : List UInt8).length) = i + 1 := by simp
      rw [e1, e2]
      rw [splitK_pcd k _ (by have : ([d] : List UInt8).length = 1 := rfl
                             rw [this] at hc; omega)]
      rw [index_one] at hi'
      exact (pcd_hit l i hi').symm
/-- strings.Split at a colon -/
theorem splitB_pcd {d : UInt8} (s : ByteArray) : splitB ⟨#[d]⟩ 0 (countB s ⟨#[d]⟩) s = (pcd d s.data.toList).map str := by
  have h := splitB_data ⟨#[d]⟩ 0 (countB s ⟨#[d]⟩) s
  rw [show (⟨#[d]⟩ : ByteArray).data.toList = [d] from rfl, splitK_pcd _ _ rfl] at h
  rw [← h, List.map_map]
  conv => lhs; rw [← List.map_id (splitB _ _ _ _)]
  apply List.map_congr_left
  intro x _
  exact (str_toList x).symm
theorem count_pcd {d : UInt8} (s : ByteArray) : (pcd d s.data.toList).length = countB s ⟨#[d]⟩ + 1 := by
  have h := splitB_all ⟨#[d]⟩ (show 1 ≤ (⟨#[d]⟩ : ByteArray).size from Nat.le_refl 1) 0 _ s rfl
  rw [splitB_pcd] at h
  simpa using h
/-- one byte more -/
theorem pcd_snoc_colon {d : UInt8} : ∀ (l : List UInt8), pcd d (l ++ [d]) = pcd d l ++ [[]]
  | [] => by simp [pcd]
  | c :: r => by
    rw [List.cons_append]
    by_cases hc : c = d
    · rw [hc]; rw [pcd_colon, pcd_colon, pcd_snoc_colon r]; rfl
    · obtain ⟨p, q, hpq⟩ : ∃ p q, pcd d r = p :: q := by
        cases h : pcd d r with
        | nil => exact absurd h (pcd_ne r)
        | cons p q => exact ⟨p, q, rfl⟩
      have h2 := pcd_snoc_colon (d := d) r
      rw [hpq] at h2
      rw [pcd_other c r hc _ _ hpq, pcd_other c _ hc _ _ h2]
      rfl
theorem pcd_snoc_other {d : UInt8} (x : UInt8) (hx : x ≠ d) : ∀ (l : List UInt8), ∃ q p, pcd d l = q ++ [p] ∧ pcd d (l ++ [x]) = q ++ [p ++ [x]]
  | [] => ⟨[], [], rfl, by simp [pcd, hx]⟩
  | c :: r => by
    obtain ⟨q, p, h1, h2⟩ := pcd_snoc_other x hx r
    rw [List.cons_append]
    by_cases hc : c = d
    · rw [hc]; exact ⟨[] :: q, p, by rw [pcd_colon, h1]; rfl, by rw [pcd_colon, h2]; rfl⟩
    · cases q with
      | nil => exact ⟨[], c :: p, by rw [pcd_other c r hc p [] h1]; rfl, by rw [pcd_other c _ hc (p ++ [x]) [] h2]; rfl⟩
      | cons y q => exact ⟨(c :: y) :: q, p, by rw [pcd_other c r hc y (q ++ [p]) h1]; rfl, by rw [pcd_other c _ hc y (q ++ [p ++ [x]]) h2]; rfl⟩
/-- the pieces joined by colons are the text -/
def joinD (d : UInt8) : List (List UInt8) → List UInt8
  | [] => []
  | [p] => p
  | p :: q => p ++ d :: joinD d q
theorem joinD_cons {d : UInt8} (p : List UInt8) (q : List (List UInt8)) (h : q ≠ []) : joinD d (p :: q) = p ++ d :: joinD d q := by
  cases q with
  | nil => exact absurd rfl h
  | cons a b => rfl
theorem joinD_pcd {d : UInt8} : ∀ l, joinD d (pcd d l) = l
  | [] => rfl
  | c :: r => by
    have ih := joinD_pcd (d := d) r
    by_cases hc : c = d
    · rw [hc]; rw [pcd_colon, joinD_cons _ _ (pcd_ne r), ih]; rfl
    · obtain ⟨p, q, hpq⟩ : ∃ p q, pcd d r = p :: q := by
        cases h : pcd d r with
        | nil => exact absurd h (pcd_ne r)
        | cons p q => exact ⟨p, q, rfl⟩
      rw [pcd_other c r hc _ _ hpq]
      rw [hpq] at ih
      cases q with
      | nil => simp [joinD] at ih ⊢; exact ih
      | cons a b => rw [joinD_cons _ _ (by simp)] at ih ⊢; rw [List.cons_append, ih]
theorem pcd_plain {d : UInt8} (p : List UInt8) (h : ∀ c ∈ p, c ≠ d) : pcd d p = [p] := by
  induction p with
  | nil => rfl
  | cons c r ih => exact pcd_other c r (h c (by simp)) _ _ (ih fun x hx => h x (by simp [hx]))
theorem pcd_app {d : UInt8} (p r : List UInt8) (h : ∀ c ∈ p, c ≠ d) : pcd d (p ++ d :: r) = p :: pcd d r := by
  induction p with
  | nil => exact pcd_colon r
  | cons c q ih => exact pcd_other c _ (h c (by simp)) _ _ (ih fun x hx => h x (by simp [hx]))
theorem pcd_len_le {d : UInt8} (l : List UInt8) : ∀ p ∈ pcd d l, p.length ≤ l.length := by
  induction l with
  | nil => intro p hp; simp [pcd] at hp; simp [hp]
  | cons c r ih =>
    intro p hp
    by_cases hc : c = d
    · rw [hc] at hp
      rw [pcd_colon] at hp
      rcases List.mem_cons.1 hp with rfl | hp
      · simp
      · have := ih p hp; simp only [List.length_cons]; omega
    · obtain ⟨a, q, hpq⟩ : ∃ p q, pcd d r = p :: q := by
        cases h : pcd d r with
        | nil => exact absurd h (pcd_ne r)
        | cons p q => exact ⟨p, q, rfl⟩
      rw [pcd_other c r hc _ _ hpq] at hp
      rw [hpq] at ih
      rcases List.mem_cons.1 hp with rfl | hp
      · have := ih a (by simp); simp only [List.length_cons]; omega
      · have := ih p (by simp [hp]); simp only [List.length_cons]; omega
end Go.Proofs.YtcmojpfolmcaoaaDoor
