/-
  Layer 5: versions that are the same are in the same ranges; what is between two that one interval has is in it: plain mathematics. Own work.
-/
import Derived.Test.YtnghagikchffiaaDoorEnd5
namespace Go.Proofs.YtnghagikchffiaaDoor
set_option linter.unusedVariables false
set_option linter.unusedSimpArgs false
open Go.RowKit

def hasB (hard : Bool) (l : List Iv) (v : ByteArray) : Bool := !hard || l.any fun p => inB p v
theorem some_left {e : En} {a b : ByteArray} (h : cmpB a.data.toList b.data.toList = 0) : someB e (atE a) = someB e (atE b) := by
  unfold someB cE atE
  simp only
  rw [cmpB_ord.right e.ver.data.toList h]
theorem some_right {e : En} {a b : ByteArray} (h : cmpB a.data.toList b.data.toList = 0) : someB (atE a) e = someB (atE b) e := by
  unfold someB cE atE
  simp only
  rw [cmpB_ord.left e.ver.data.toList h]
theorem in_same {p : Iv} {a b : ByteArray} (h : cmpB a.data.toList b.data.toList = 0) : inB p a = inB p b := by
  unfold inB
  rw [some_left h, some_right h]
theorem has_same {hard : Bool} {l : List Iv} {a b : ByteArray} (h : cmpB a.data.toList b.data.toList = 0) : hasB hard l a = hasB hard l b := by
  unfold hasB
  congr 2
  funext p
  exact in_same h
theorem some_up {e : En} {a b : ByteArray} (h : cmpB a.data.toList b.data.toList ≤ 0) (h1 : someB e (atE a) = true) : someB e (atE b) = true := by
  unfold someB cE atE at h1 ⊢
  simp only [Bool.or_eq_true, decide_eq_true_eq, Bool.and_eq_true, and_true] at h1 ⊢
  have r1 := cmpB_ord.rng e.ver.data.toList a.data.toList
  have r2 := cmpB_ord.rng e.ver.data.toList b.data.toList
  have t1 := cmpB_ord.trans e.ver.data.toList a.data.toList b.data.toList
  have t2 := cmpB_ord.trans a.data.toList b.data.toList e.ver.data.toList h
  have n1 := cmpB_ord.neg e.ver.data.toList a.data.toList
  have n2 := cmpB_ord.neg e.ver.data.toList b.data.toList
  rcases h1 with h1 | ⟨h1, h2⟩
  · by_cases hb : cmpB e.ver.data.toList b.data.toList < 0
    · exact .inl hb
    · have := t2 (by omega); omega
  · by_cases hb : cmpB e.ver.data.toList b.data.toList < 0
    · exact .inl hb
    · have := t1 (by omega) h
      exact .inr ⟨by omega, h2⟩
theorem some_down {e : En} {b c : ByteArray} (h : cmpB b.data.toList c.data.toList ≤ 0) (h1 : someB (atE c) e = true) : someB (atE b) e = true := by
  unfold someB cE atE at h1 ⊢
  simp only [Bool.or_eq_true, decide_eq_true_eq, Bool.and_eq_true, true_and] at h1 ⊢
  have t1 := cmpB_ord.trans b.data.toList c.data.toList e.ver.data.toList h
  have t2 := cmpB_ord.trans e.ver.data.toList b.data.toList c.data.toList
  have n1 := cmpB_ord.neg c.data.toList e.ver.data.toList
  have n2 := cmpB_ord.neg b.data.toList e.ver.data.toList
  rcases h1 with h1 | ⟨h1, h2⟩
  · by_cases hb : cmpB b.data.toList e.ver.data.toList < 0
    · exact .inl hb
    · have := t2 (by omega) h; omega
  · by_cases hb : cmpB b.data.toList e.ver.data.toList < 0
    · exact .inl hb
    · have := t1 (by omega)
      exact .inr ⟨by omega, h2⟩
theorem in_between {p : Iv} {a b c : ByteArray} (h1 : cmpB a.data.toList b.data.toList ≤ 0) (h2 : cmpB b.data.toList c.data.toList ≤ 0) (ha : inB p a = true) (hc : inB p c = true) : inB p b = true := by
  unfold inB at ha hc ⊢
  simp only [Bool.and_eq_true, Bool.or_eq_true] at ha hc ⊢
  refine ⟨?_, ?_⟩
  · rcases ha.1 with h | h
    · exact .inl h
    · exact .inr (some_up h1 h)
  · rcases hc.2 with h | h
    · exact .inl h
    · exact .inr (some_down h2 h)
/-- the range of the first interval alone -/
theorem one_between {l : List Iv} {a b c : ByteArray} (h1 : cmpB a.data.toList b.data.toList ≤ 0) (h2 : cmpB b.data.toList c.data.toList ≤ 0) (ha : hasB true (l.take 1) a = true) (hc : hasB true (l.take 1) c = true) : hasB true (l.take 1) b = true ∧ ∀ hard, hasB hard l b = true := by
  unfold hasB at ha hc ⊢
  cases l with
  | nil => simp at ha
  | cons p r =>
    simp at ha hc ⊢
    have hb := in_between h1 h2 ha hc
    exact ⟨hb, .inl hb⟩
end Go.Proofs.YtnghagikchffiaaDoor
