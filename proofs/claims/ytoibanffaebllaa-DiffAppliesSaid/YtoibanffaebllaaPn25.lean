/-
  Layer 25, plain: pins and locks as lists; which may be. Own work.
-/
import Derived.Test.YtoibanffaebllaaCmp6
namespace Go.Proofs.Ytoibanffaebllaa
set_option linter.unusedVariables false
set_option linter.unusedSimpArgs false
open Go.RowKit

/-- a pin -/
structure Pn where
  g : ByteArray
  a : ByteArray
  t : ByteArray
  c : ByteArray
  v : ByteArray
  sc : Int
deriving Inhabited
def Pn.key (p : Pn) : K4 := ⟨p.g, p.a, p.t, p.c⟩
def pnCells (p : Pn) : List Value := [.string p.g, .string p.a, .string p.t, .string p.c, .string p.v, .int .i64 p.sc]
def pnV (p : Pn) : Value := .agg #[.string p.g, .string p.a, .string p.t, .string p.c, .string p.v, .int .i64 p.sc]
def rowN (l : List Pn) : List Value := l.flatMap pnCells
theorem rowN_snoc (l : List Pn) (p : Pn) : rowN (l ++ [p]) = rowN l ++ pnCells p := by simp [rowN]
theorem rowN_len : ∀ l : List Pn, (rowN l).length = l.length * 6
  | [] => rfl
  | p :: l => by
    have := rowN_len l
    simp only [rowN, List.flatMap_cons, List.length_append, List.length_cons, pnCells, List.length_nil] at this ⊢
    omega
theorem rowN_at : ∀ (l : List Pn) (i c : Nat) (p : Pn), l[i]? = some p → c < 6 → (rowN l)[i * 6 + c]? = (pnCells p)[c]?
  | [], i, c, p, h, _ => by simp at h
  | q :: l, 0, c, p, h, hc => by
    simp only [List.getElem?_cons_zero, Option.some.injEq] at h
    subst h
    simp only [rowN, List.flatMap_cons]
    rw [List.getElem?_append_left (by simp [pnCells]; omega)]
    simp
  | q :: l, i + 1, c, p, h, hc => by
    have := rowN_at l i c p (by simpa using h) hc
    simp only [rowN, List.flatMap_cons] at this ⊢
    rw [List.getElem?_append_right (by simp [pnCells]; omega), ← this]
    congr 1
    simp [pnCells]; omega

/-- may the pin stand behind the one ahead of it? -/
def mayP (p : Pn) : Bool := mayKey p.g p.a p.t p.c && mayVer p.v && decide (1 ≤ p.sc) && decide (p.sc ≤ 5)
def prevB : Option Pn → Pn → Bool
  | none, _ => true
  | some q, p => decide (kcmp q.key p.key < 0)
def mayAt (l : List Pn) (i : Nat) : Bool :=
  match l[i]? with
  | none => true
  | some p => (decide (i = 0) || prevB l[i - 1]? p) && mayP p
def allMay (l : List Pn) : Bool := (List.range l.length).all (mayAt l)
def mayLock (g a v : ByteArray) (l : List Pn) : Bool := mayGav g a v && decide (l.length ≤ 4096) && allMay l
theorem allMay_iff {l : List Pn} : allMay l = true ↔ ∀ i, i < l.length → mayAt l i = true := by
  unfold allMay
  rw [List.all_eq_true]
  simp only [List.mem_range]
theorem allMay_no {l : List Pn} {i : Nat} (hi : i < l.length) (h : mayAt l i = false) : allMay l = false := by
  rw [Bool.eq_false_iff]
  intro ha
  rw [allMay_iff.1 ha i hi] at h; cases h
theorem mayAt_app (l m : List Pn) (i : Nat) (hi : i < l.length) : mayAt (l ++ m) i = mayAt l i := by
  unfold mayAt
  rw [List.getElem?_append_left hi, List.getElem?_append_left (by omega)]
theorem allMay_snoc {l : List Pn} {p : Pn} (h : allMay l = true) (hp : mayAt (l ++ [p]) l.length = true) : allMay (l ++ [p]) = true := by
  rw [allMay_iff] at h ⊢
  intro i hi
  simp only [List.length_append, List.length_cons, List.length_nil] at hi
  by_cases he : i < l.length
  · rw [mayAt_app _ _ _ he]; exact h i he
  · have : i = l.length := by omega
    subst this; exact hp
end Go.Proofs.Ytoibanffaebllaa
