/-
  Layer 10: what a child says counts; on lists. Own work.
-/
import Derived.Test.YtjkmmmmbdfcnbaaTog10
namespace Go.Proofs.Ytjkmmmmbdfcnbaa
set_option linter.unusedVariables false
set_option linter.unusedSimpArgs false
open Go.RowKit

def getR : List Pr → ByteArray → Option ByteArray
  | [], _ => none
  | y :: l, n => if eqS y.n n = true then some y.v else getR l n
theorem getL_R : ∀ (l : List Pr) (n : ByteArray), getL l n = getR l n
  | [], n => rfl
  | y :: l, n => by
    have ih := getL_R l n
    unfold getL at ih ⊢
    unfold getR
    rw [List.findIdx?_cons]
    by_cases h : eqS y.n n = true
    · rw [if_pos h, if_pos h]; rfl
    · rw [if_neg h, if_neg h, ← ih]
      cases l.findIdx? (fun p => eqS p.n n) with
      | none => rfl
      | some i => simp
theorem getR_put (x : Pr) (n : ByteArray) : ∀ l : List Pr, getR (putR l x) n = if eqS x.n n = true then some x.v else getR l n
  | [] => rfl
  | z :: l => by
    by_cases hz : eqS z.n x.n = true
    · rw [putR_yes hz]
      have e := eqS_iff.1 hz
      unfold getR
      rw [e]
      by_cases hn : eqS x.n n = true
      · rw [if_pos hn, if_pos hn]
      · rw [if_neg hn, if_neg hn, if_neg hn]
    · rw [putR_no hz]
      unfold getR
      rw [getR_put x n l]
      by_cases hzn : eqS z.n n = true
      · have hn : ¬ eqS x.n n = true := fun h => hz (by rw [eqS_iff] at *; rw [hzn, h])
        rw [if_pos hzn, if_neg hn, if_pos hzn]
      · rw [if_neg hzn, if_neg hzn]
def optF (n : ByteArray) (o : Option ByteArray) (x : Pr) : Option ByteArray := if eqS x.n n = true then some x.v else o
def valF (n : ByteArray) (o : ByteArray) (x : Pr) : ByteArray := if eqS x.n n = true then x.v else o
theorem getR_over (n : ByteArray) : ∀ (m l : List Pr), getR (over l m) n = m.foldl (optF n) (getR l n)
  | [], l => rfl
  | x :: m, l => by rw [over_cons, getR_over n m, getR_put, List.foldl_cons]; rfl
theorem fold_some (n : ByteArray) : ∀ (m : List Pr) (v : ByteArray), m.foldl (optF n) (some v) = some (m.foldl (valF n) v)
  | [], v => rfl
  | x :: m, v => by
    rw [List.foldl_cons, List.foldl_cons]
    have : optF n (some v) x = some (valF n v x) := by
      unfold optF valF
      by_cases h : eqS x.n n = true
      · rw [if_pos h, if_pos h]
      · rw [if_neg h, if_neg h]
    rw [this, fold_some n m]
/-- the last value of a name -/
def lastF (l : List Pr) (y : Pr) : ByteArray := l.foldl (valF y.n) y.v
theorem child_counts {l m : List Pr} {i : Nat} {y : Pr} (hy : m[i]? = some y) : getL (over l m) y.n = some (lastF (m.drop i) y) := by
  have hi := (List.getElem?_eq_some_iff.1 hy).1
  have he := (List.getElem?_eq_some_iff.1 hy).2
  rw [getL_R, getR_over]
  conv => lhs; rw [← List.take_append_drop i m]
  rw [List.foldl_append, List.drop_eq_getElem_cons hi, he, List.foldl_cons]
  unfold lastF
  have h1 : ∀ o, optF y.n o y = some y.v := fun o => by unfold optF; rw [if_pos (eqS_self y.n)]
  rw [h1, fold_some, List.foldl_cons]
  have h2 : valF y.n y.v y = y.v := by unfold valF; rw [if_pos (eqS_self y.n)]
  rw [h2]
theorem parent_there {l m : List Pr} {y : Pr} (hy : y ∈ l) : (getL (over l m) y.n).isSome = true := by
  have h0 : ∃ v, getR l y.n = some v := by
    induction l with
    | nil => simp at hy
    | cons z l ih =>
      unfold getR
      by_cases hz : eqS z.n y.n = true
      · rw [if_pos hz]; exact ⟨_, rfl⟩
      · rw [if_neg hz]
        rcases List.mem_cons.1 hy with rfl | hy
        · exact absurd (eqS_self y.n) hz
        · exact ih hy
  obtain ⟨v, hv⟩ := h0
  rw [getL_R, getR_over, hv, fold_some]
  rfl
theorem last_step {l : List Pr} {y z : Pr} {k : Nat} (hz : l[k]? = some z) : lastF (l.take (k + 1)) y = valF y.n (lastF (l.take k) y) z := by
  unfold lastF
  rw [List.take_add_one, hz, List.foldl_append]
  rfl
theorem under_take (l m : List Dp) : (underL l m).take l.length = l := by unfold underL; simp
theorem under_drop (l m : List Dp) : (underL l m).drop l.length = m.filter fun d => !(hasK l (keyD d)) := by unfold underL; simp
theorem rest_is {l m : List Dp} {d : Dp} (hd : d ∈ (underL l m).drop l.length) : hasK l (keyD d) = false ∧ hasK m (keyD d) = true := by
  rw [under_drop] at hd
  have h := List.mem_filter.1 hd
  refine ⟨by simpa using h.2, ?_⟩
  unfold hasK
  exact List.any_eq_true.2 ⟨d, h.1, sameKy_iff.2 rfl⟩
theorem parents_in {l m : List Dp} {d : Dp} (hd : d ∈ m) : hasK (underL l m) (keyD d) = true := by
  rw [hasK_under]
  have : hasK m (keyD d) = true := by unfold hasK; exact List.any_eq_true.2 ⟨d, hd, sameKy_iff.2 rfl⟩
  rw [this, Bool.or_true]
/-- a slice's rest -/
theorem RdSl.from {α : Type} {sz : Nat} {R : Addr → α → Prop} {a : Addr} {n c k : Nat} {l : List α} (h : RdSl sz R (.slice (some a) n c) l) (hk : k ≤ l.length) : RdSl sz R (.slice (some (a.add (k * sz))) (n - k) (c - k)) (l.drop k) := by
  rcases h with ⟨h, _⟩ | ⟨b, cap, h, h1, h2, h3⟩
  · cases h
  · cases h
    refine .inr ⟨a.add (k * sz), c - k, by rw [List.length_drop], by rw [List.length_drop]; omega, by omega, fun i x hx => ?_⟩
    rw [List.getElem?_drop] at hx
    have := h3 (k + i) x hx
    rw [Go.Deep.add_add, ← Nat.add_mul]
    exact this
/-- a slice's beginning -/
theorem RdSl.upto {α : Type} {sz : Nat} {R : Addr → α → Prop} {a : Addr} {n c k : Nat} {l : List α} (h : RdSl sz R (.slice (some a) n c) l) (hk : k ≤ l.length) : RdSl sz R (.slice (some a) k c) (l.take k) := by
  rcases h with ⟨h, _⟩ | ⟨b, cap, h, h1, h2, h3⟩
  · cases h
  · cases h
    have hl : (l.take k).length = k := by rw [List.length_take]; omega
    refine .inr ⟨a, c, by rw [hl], by rw [hl]; omega, by omega, fun i x hx => ?_⟩
    rw [List.getElem?_take] at hx
    split at hx
    · exact h3 i x hx
    · cases hx
theorem RdDs.upto2 {w : World} {a : Option Addr} {n c k : Nat} {l : List Dp} (h : RdDs w (.slice a n c) l) (hk : k ≤ l.length) : ∃ a', sliced a 0 k c 8 = .slice a' k c ∧ RdDs w (.slice a' k c) (l.take k) ∧ k ≤ c := by
  have h0 := h
  rcases h with ⟨h, rfl⟩ | ⟨b, cap, h, h1, _⟩
  · cases h
    have : k = 0 := by simpa using hk
    subst this
    exact ⟨none, rfl, .inl ⟨rfl, rfl⟩, Nat.le_refl _⟩
  · cases h
    refine ⟨some b, ?_, RdSl.upto h0 hk, by omega⟩
    simp only [sliced, Nat.sub_zero, Nat.zero_mul, Option.map_some, add_zero10, ite_self]
theorem RdDs.from2 {w : World} {a : Option Addr} {n c k : Nat} {l : List Dp} (h : RdDs w (.slice a n c) l) (hk : k ≤ l.length) : ∃ a', sliced a k n c 8 = .slice a' (n - k) (c - k) ∧ RdDs w (.slice a' (n - k) (c - k)) (l.drop k) := by
  have h0 := h
  rcases h with ⟨h, rfl⟩ | ⟨b, cap, h, h1, h2, h3⟩
  · cases h
    have : k = 0 := by simpa using hk
    subst this
    exact ⟨none, rfl, .inl ⟨rfl, rfl⟩⟩
  · cases h
    by_cases hc : c = k
    · have hl : l.length = k := by omega
      refine ⟨some b, by simp only [sliced]; rw [if_pos hc], ?_⟩
      rw [List.drop_eq_nil_of_le (by omega)]
      exact .inr ⟨b, c - k, by simp [hl], by simp, by omega, fun i x hx => by simp at hx⟩
    · exact ⟨some (b.add (k * 8)), by simp only [sliced]; rw [if_neg hc]; rfl, RdSl.from h0 hk⟩
theorem yields_upD {ops : Array Oper} {S : World → Prop} {op : Oper} {a : Act} {v' : Value} {b : Option Addr} {n c k : Nat} (hv : sliced b 0 k c 8 = v') (hw : Region.wanted op (yielded ops a.tmps) = true) (x y : Operand) (ho : op.op = .slice 25 x none (some y) none) (hx : a.eval x = .slice b n c) (hy : a.eval y = .int .i64 k) (hk : k ≤ c) :
    YieldsIf Try.prog ops S op v' a :=
  .inl ⟨hw, fun w _ => by
    have ht := Try.underlying25
    have he : Try.prog.elem 25 = 34 := by kernel_rfl
    have hsz := Try.sizeOf34 (w := w)
    unfold execOp
    simp only [ho, Option.map_some, Option.map_none, hx, hy, Sem.run_bind]
    rw [run_sliceAt_slice _ _ _ _ _ _ (by rw [he]; exact ht), run_slice_h _ _ _ _ _ (by rw [he]; exact ht) _ _ (by omega) (by omega), he, hsz]
    simp only [Result.andThen_ok, Sem.run_pure, Int.toNat_natCast, hv]⟩
end Go.Proofs.Ytjkmmmmbdfcnbaa
