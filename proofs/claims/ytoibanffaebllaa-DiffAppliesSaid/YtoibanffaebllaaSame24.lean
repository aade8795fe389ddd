/-
  Layer 24: whether two locks are the same: contracts of slices.Equal over pins, of lock.Same and of its answer. Own work.
-/
import Derived.Test.YtoibanffaebllaaMayL24
import Derived.Laws.StructEq
namespace Go.Proofs.Ytoibanffaebllaa
set_option linter.unusedVariables false
set_option linter.unusedSimpArgs false
open Go.RowKit

def sameP (p q : Pn) : Bool := (p.g.toList == q.g.toList) && ((p.a.toList == q.a.toList) && ((p.t.toList == q.t.toList) && ((p.c.toList == q.c.toList) && ((p.v.toList == q.v.toList) && (p.sc == q.sc)))))
theorem sameP_cases (p q : Pn) :
    (sameP p q = true ∧ (p.g.toList == q.g.toList) = true ∧ (p.a.toList == q.a.toList) = true ∧ (p.t.toList == q.t.toList) = true ∧ (p.c.toList == q.c.toList) = true ∧ (p.v.toList == q.v.toList) = true ∧ (p.sc == q.sc) = true) ∨
    (sameP p q = false ∧ (p.g.toList == q.g.toList) = false) ∨
    (sameP p q = false ∧ (p.g.toList == q.g.toList) = true ∧ (p.a.toList == q.a.toList) = false) ∨
    (sameP p q = false ∧ (p.g.toList == q.g.toList) = true ∧ (p.a.toList == q.a.toList) = true ∧ (p.t.toList == q.t.toList) = false) ∨
    (sameP p q = false ∧ (p.g.toList == q.g.toList) = true ∧ (p.a.toList == q.a.toList) = true ∧ (p.t.toList == q.t.toList) = true ∧ (p.c.toList == q.c.toList) = false) ∨
    (sameP p q = false ∧ (p.g.toList == q.g.toList) = true ∧ (p.a.toList == q.a.toList) = true ∧ (p.t.toList == q.t.toList) = true ∧ (p.c.toList == q.c.toList) = true ∧ (p.v.toList == q.v.toList) = false) ∨
    (sameP p q = false ∧ (p.g.toList == q.g.toList) = true ∧ (p.a.toList == q.a.toList) = true ∧ (p.t.toList == q.t.toList) = true ∧ (p.c.toList == q.c.toList) = true ∧ (p.v.toList == q.v.toList) = true ∧ (p.sc == q.sc) = false) := by
  unfold sameP
  generalize (p.g.toList == q.g.toList) = b0
  generalize (p.a.toList == q.a.toList) = b1
  generalize (p.t.toList == q.t.toList) = b2
  generalize (p.c.toList == q.c.toList) = b3
  generalize (p.v.toList == q.v.toList) = b4
  generalize (p.sc == q.sc) = b5
  cases b0 <;> cases b1 <;> cases b2 <;> cases b3 <;> cases b4 <;> cases b5 <;> simp
def sameAt (l m : List Pn) (i : Nat) : Bool := match l[i]?, m[i]? with | some p, some q => sameP p q | _, _ => true
def sameL (l m : List Pn) : Bool := decide (l.length = m.length) && (List.range l.length).all (sameAt l m)
theorem sameL_yes {l m : List Pn} (h : l.length = m.length) (ha : ∀ i, i < l.length → sameAt l m i = true) : sameL l m = true := by
  unfold sameL
  rw [decide_eq_true h, Bool.true_and, List.all_eq_true]
  intro i hi
  exact ha i (List.mem_range.1 hi)
theorem sameL_no {l m : List Pn} {i : Nat} (hi : i < l.length) (h : sameAt l m i = false) : sameL l m = false := by
  rw [Bool.eq_false_iff]
  intro ha
  unfold sameL at ha
  simp only [Bool.and_eq_true, List.all_eq_true] at ha
  rw [ha.2 i (List.mem_range.2 hi)] at h
  cases h
theorem sameAt_is {l m : List Pn} {i : Nat} {p q : Pn} (hp : l[i]? = some p) (hq : m[i]? = some q) : sameAt l m i = sameP p q := by unfold sameAt; rw [hp, hq]
def sameG (g a v g' a' v' : ByteArray) : Bool := (g.toList == g'.toList) && ((a.toList == a'.toList) && (v.toList == v'.toList))
theorem sameG_cases (g a v g' a' v' : ByteArray) :
    (sameG g a v g' a' v' = true ∧ (g.toList == g'.toList) = true ∧ (a.toList == a'.toList) = true ∧ (v.toList == v'.toList) = true) ∨
    (sameG g a v g' a' v' = false ∧ (g.toList == g'.toList) = false) ∨
    (sameG g a v g' a' v' = false ∧ (g.toList == g'.toList) = true ∧ (a.toList == a'.toList) = false) ∨
    (sameG g a v g' a' v' = false ∧ (g.toList == g'.toList) = true ∧ (a.toList == a'.toList) = true ∧ (v.toList == v'.toList) = false) := by
  unfold sameG
  generalize (g.toList == g'.toList) = b0
  generalize (a.toList == a'.toList) = b1
  generalize (v.toList == v'.toList) = b2
  cases b0 <;> cases b1 <;> cases b2 <;> simp
def sameLk (g a v : ByteArray) (l : List Pn) (g' a' v' : ByteArray) (m : List Pn) : Bool := sameG g a v g' a' v' && sameL l m
end Go.Proofs.Ytoibanffaebllaa
