/-
  Layer 17: the clauses of a deal, as lists; keys, compared. Own work.
-/
import Derived.Test.YtgfgajekegfdgaaMay17
import Derived.Laws.StructEq
namespace Go.Proofs.Ytgfgajekegfdgaa
set_option linter.unusedVariables false
set_option linter.unusedSimpArgs false
open Go.RowKit

def sameK (x y : Ky) : Bool := (x.g.toList == y.g.toList) && ((x.a.toList == y.a.toList) && ((x.t.toList == y.t.toList) && (x.c.toList == y.c.toList)))
theorem bytes_eq {x y : ByteArray} (h : x.toList = y.toList) : x = y := by
  apply ByteArray.ext
  rw [ByteArray.toList_eq, ByteArray.toList_eq] at h
  exact Array.ext' h
theorem sameK_eq {x y : Ky} : sameK x y = true ↔ x = y := by
  constructor
  · intro h
    obtain ⟨x0, x1, x2, x3⟩ := x
    obtain ⟨y0, y1, y2, y3⟩ := y
    unfold sameK at h
    simp only [Bool.and_eq_true, beq_iff_eq] at h
    obtain ⟨h0, h1, h2, h3⟩ := h
    rw [bytes_eq h0, bytes_eq h1, bytes_eq h2, bytes_eq h3]
  · rintro rfl
    unfold sameK; simp
theorem sameK_self (x : Ky) : sameK x x = true := sameK_eq.2 rfl
theorem sameK_comm (x y : Ky) : sameK x y = sameK y x := by
  rw [Bool.eq_iff_iff, sameK_eq, sameK_eq]
  exact ⟨Eq.symm, Eq.symm⟩
theorem eqI_key (x y : Ky) (d : Nat) (w : World) : (Op.equalIn (d + 2) 47 (.agg #[.string x.g, .string x.a, .string x.t, .string x.c]) (.agg #[.string y.g, .string y.a, .string y.t, .string y.c])).run Try.prog w = .ok (sameK x y) w := by
  have u3 := Try.underlying9
  have a3 := Try.isAgg9
  have z3 := Try.sizeOf9
  have hS : Try.prog.underlying 47 = some (.struct (Try.prog.fieldsOf 47)) := by kernel_rfl
  have hp : Try.prog.stoodInHeld 47 = false := by kernel_rfl
  rw [run_equalIn_agg w (d + 1) 47 _ _ hS hp]
  simp only [Program.fieldsOf, Try.underlying47]
  go_simp
  unfold sameK
  by_cases h1 : x.g.toList = y.g.toList <;> by_cases h2 : x.a.toList = y.a.toList <;> by_cases h3 : x.t.toList = y.t.toList <;> by_cases h4 : x.c.toList = y.c.toList <;> simp [h1, h2, h3, h4]
theorem eq_key (x y : Ky) (w : World) : (binOp .eql 47 (.agg #[.string x.g, .string x.a, .string x.t, .string x.c]) (.agg #[.string y.g, .string y.a, .string y.t, .string y.c])).run Try.prog w = .ok (.bool (sameK x y)) w := by
  rw [run_eql_struct, show (10000 : Nat) = 9998 + 2 from rfl, eqI_key]; rfl

/-- the clause of one want -/
def clsW (i : Nat) (w : List Int) : List Int := -((i : Int) + 1) :: w.map (· + 1)
def clsI (i : Nat) (ws : List (List Int)) : List (List Int) := ws.map (clsW i)
def clsTo (W : List (List (List Int))) (k : Nat) : List (List Int) := (List.range k).flatMap fun i => clsI i (W.getD i [])
theorem clsTo_snoc (W : List (List (List Int))) (k : Nat) : clsTo W (k + 1) = clsTo W k ++ clsI k (W.getD k []) := by
  unfold clsTo; rw [List.range_succ, List.flatMap_append]; simp
theorem clsTo_at {W : List (List (List Int))} {k : Nat} {x : List (List Int)} (h : W[k]? = some x) : clsTo W (k + 1) = clsTo W k ++ clsI k x := by
  rw [clsTo_snoc, List.getD_eq_getElem?_getD, h]; rfl
theorem clsI_snoc {i q : Nat} {ws : List (List Int)} {x : List Int} (h : ws[q]? = some x) : clsI i (ws.take (q + 1)) = clsI i (ws.take q) ++ [clsW i x] := by
  unfold clsI; rw [List.take_add_one, h, List.map_append]; rfl
theorem clsW_snoc {i p : Nat} {w : List Int} {n : Int} (h : w[p]? = some n) : clsW i (w.take (p + 1)) = clsW i (w.take p) ++ [n + 1] := by
  unfold clsW; rw [List.take_add_one, h, List.map_append]; rfl
/-- are the i-th and the k-th of one key? -/
def sameAt (its : List It) (i k : Nat) : Bool := match its[i]?, its[k]? with
  | some x, some y => sameK y.k x.k
  | _, _ => false
theorem sameAt_is {its : List It} {i k : Nat} {x y : It} (hx : its[i]? = some x) (hy : its[k]? = some y) : sameAt its i k = sameK y.k x.k := by unfold sameAt; rw [hx, hy]
def pairC (i k : Nat) : List Int := [-((i : Int) + 1), -((k : Int) + 1)]
def alI (its : List It) (i m : Nat) : List (List Int) := (List.range m).flatMap fun k => if (decide (i < k) && sameAt its i k) = true then [pairC i k] else []
def alTo (its : List It) (i : Nat) : List (List Int) := (List.range i).flatMap fun i => alI its i its.length
theorem alI_snoc (its : List It) (i m : Nat) : alI its i (m + 1) = alI its i m ++ if (decide (i < m) && sameAt its i m) = true then [pairC i m] else [] := by
  unfold alI; rw [List.range_succ, List.flatMap_append]; simp
theorem alI_start (its : List It) (i : Nat) : ∀ m, m ≤ i + 1 → alI its i m = []
  | 0, _ => rfl
  | m + 1, h => by
    rw [alI_snoc, alI_start its i m (by omega), if_neg (by simp; omega)]; rfl
theorem alTo_snoc (its : List It) (i : Nat) : alTo its (i + 1) = alTo its i ++ alI its i its.length := by
  unfold alTo; rw [List.range_succ, List.flatMap_append]; simp
def encL (d : Dl) : List (List Int) := [d.root + 1] :: (clsTo d.ws d.ws.length ++ alTo d.its d.its.length)

/-! how many there are -/
def sumN (f : Nat → Nat) : Nat → Nat
  | 0 => 0
  | n + 1 => sumN f n + f n
theorem sumN_congr {f g : Nat → Nat} : ∀ n, (∀ i, i < n → f i = g i) → sumN f n = sumN g n
  | 0, _ => rfl
  | n + 1, h => by rw [sumN, sumN, sumN_congr n (fun i hi => h i (by omega)), h n (by omega)]
theorem sumN_add (f g : Nat → Nat) : ∀ n, sumN (fun i => f i + g i) n = sumN f n + sumN g n
  | 0 => rfl
  | n + 1 => by rw [sumN, sumN, sumN, sumN_add f g n]; omega
theorem sumN_le {f : Nat → Nat} {b : Nat} : ∀ n, (∀ i, i < n → f i ≤ b) → sumN f n ≤ n * b
  | 0, _ => by simp [sumN]
  | n + 1, h => by
    have h1 := sumN_le n (fun i hi => h i (by omega))
    have h2 := h n (by omega)
    rw [sumN, Nat.succ_mul]; omega
theorem flat_len {α : Type} (f : Nat → List α) : ∀ n, ((List.range n).flatMap f).length = sumN (fun i => (f i).length) n
  | 0 => rfl
  | n + 1 => by rw [List.range_succ, List.flatMap_append, List.length_append, flat_len f n, sumN]; simp
/-- how many ahead of the k-th are of its key -/
def cntB (its : List It) (k : Nat) : Nat := sumN (fun i => if sameAt its i k = true then 1 else 0) k
theorem al_len (its : List It) : ∀ n, sumN (fun i => (alI its i n).length) n = sumN (cntB its) n
  | 0 => rfl
  | n + 1 => by
    rw [sumN, sumN, ← al_len its n, alI_start its n (n + 1) (Nat.le_refl _)]
    have h : ∀ i, i < n → (alI its i (n + 1)).length = (alI its i n).length + (if sameAt its i n = true then 1 else 0) := fun i hi => by
      rw [alI_snoc, List.length_append]
      have hd : decide (i < n) = true := by simpa using hi
      rw [hd, Bool.true_and]
      split <;> rfl
    rw [sumN_congr n h, sumN_add]; rfl
def lenTo (W : List (List (List Int))) (k : Nat) : Nat := sumN (fun i => (W.getD i []).length) k
theorem lenTo_at {W : List (List (List Int))} {k : Nat} {x : List (List Int)} (h : W[k]? = some x) : lenTo W (k + 1) = lenTo W k + x.length := by
  unfold lenTo; rw [sumN, List.getD_eq_getElem?_getD, h]; rfl
def sizeD (d : Dl) : Nat := 1 + lenTo d.ws d.ws.length + sumN (cntB d.its) d.its.length
theorem encL_size (d : Dl) : (encL d).length = sizeD d := by
  unfold encL sizeD clsTo alTo lenTo
  rw [List.length_cons, List.length_append, flat_len, flat_len, al_len]
  have : sumN (fun i => (clsI i (d.ws.getD i [])).length) d.ws.length = sumN (fun i => (d.ws.getD i []).length) d.ws.length := sumN_congr _ fun i _ => by unfold clsI; rw [List.length_map]
  rw [this]; omega
theorem cls_len (W : List (List (List Int))) (k : Nat) : (clsTo W k).length = lenTo W k := by
  unfold clsTo lenTo
  rw [flat_len]
  exact sumN_congr _ fun i _ => by unfold clsI; rw [List.length_map]
theorem cntB_le (its : List It) (k : Nat) : cntB its k ≤ k := by
  have := sumN_le (f := fun i => if sameAt its i k = true then 1 else 0) (b := 1) k (fun i _ => by split <;> omega)
  unfold cntB; omega
/-- wants that are few, and of few each -/
def fewW (W : List (List (List Int))) : Prop := ∀ ws ∈ W, ws.length ≤ 10 ∧ ∀ w ∈ ws, w.length ≤ 40
theorem lenTo_le {W : List (List (List Int))} (h : fewW W) (k : Nat) : lenTo W k ≤ k * 10 := by
  refine sumN_le k fun i _ => ?_
  rw [List.getD_eq_getElem?_getD]
  cases hx : W[i]? with
  | none => simp
  | some x => simpa using (h x (List.mem_of_getElem? hx)).1
theorem sizeD_le {d : Dl} (h : fewW d.ws) (hi : d.its.length ≤ 40) (hw : d.ws.length ≤ 40) : sizeD d ≤ 2001 := by
  have h1 := lenTo_le h d.ws.length
  have h2 := sumN_le (f := cntB d.its) (b := 40) d.its.length (fun i hi2 => by have := cntB_le d.its i; omega)
  unfold sizeD
  omega
theorem alI_len_le (its : List It) (i m : Nat) : (alI its i m).length ≤ m := by
  unfold alI
  rw [flat_len]
  have := sumN_le (f := fun k => (if (decide (i < k) && sameAt its i k) = true then [pairC i k] else []).length) (b := 1) m (fun k _ => by split <;> simp)
  omega
theorem alTo_len_le (its : List It) (i : Nat) : (alTo its i).length ≤ i * its.length := by
  unfold alTo
  rw [flat_len]
  exact sumN_le i fun k _ => alI_len_le its k its.length
theorem al_part_le (d : Dl) {j m : Nat} (hj : j < d.its.length) (hm : m ≤ d.its.length) : j * d.its.length + m ≤ d.its.length * d.its.length := by
  have h := Nat.mul_le_mul_right d.its.length (show j + 1 ≤ d.its.length by omega)
  rw [Nat.succ_mul] at h
  omega
/-! what stands in the clauses -/
theorem mem_clsTo {W : List (List (List Int))} {c : List Int} : ∀ {k : Nat}, c ∈ clsTo W k → ∃ i ws w, i < k ∧ W[i]? = some ws ∧ w ∈ ws ∧ c = clsW i w := by
  intro k h
  unfold clsTo at h
  obtain ⟨i, hi, h2⟩ := List.mem_flatMap.1 h
  unfold clsI at h2
  obtain ⟨w, hw, rfl⟩ := List.mem_map.1 h2
  rw [List.getD_eq_getElem?_getD] at hw
  cases hx : W[i]? with
  | none => rw [hx] at hw; simp at hw
  | some x => rw [hx] at hw; exact ⟨i, x, w, List.mem_range.1 hi, hx, hw, rfl⟩
theorem mem_alTo {its : List It} {c : List Int} {k : Nat} (h : c ∈ alTo its k) : ∃ i j, i < k ∧ i < j ∧ j < its.length ∧ sameAt its i j = true ∧ c = pairC i j := by
  unfold alTo at h
  obtain ⟨i, hi, h2⟩ := List.mem_flatMap.1 h
  unfold alI at h2
  obtain ⟨j, hj, h3⟩ := List.mem_flatMap.1 h2
  split at h3
  · rename_i h4
    simp only [Bool.and_eq_true, decide_eq_true_eq] at h4
    exact ⟨i, j, List.mem_range.1 hi, h4.1, List.mem_range.1 hj, h4.2, by simpa using h3⟩
  · simp at h3
theorem encL_lits {d : Dl} (hm : mayD d = 0) : ∀ c ∈ encL d, ∀ n ∈ c, n ≠ 0 ∧ -(d.its.length : Int) ≤ n ∧ n ≤ d.its.length := by
  obtain ⟨h1, h2, h3, h4⟩ := mayD_zero hm
  intro c hc n hn
  unfold encL at hc
  rcases List.mem_cons.1 hc with rfl | hc
  · simp only [List.mem_singleton] at hn
    subst hn; omega
  rcases List.mem_append.1 hc with hc | hc
  · obtain ⟨i, ws, w, hi, hx, hw, rfl⟩ := mem_clsTo hc
    unfold clsW at hn
    rcases List.mem_cons.1 hn with rfl | hn
    · omega
    · obtain ⟨m, hm2, rfl⟩ := List.mem_map.1 hn
      have a1 := List.all_eq_true.1 h4 ws (List.mem_of_getElem? hx)
      have a2 := List.all_eq_true.1 a1 w hw
      have a3 := inB_iff.1 (List.all_eq_true.1 a2 m hm2)
      omega
  · obtain ⟨i, j, hi, hij, hj, _, rfl⟩ := mem_alTo hc
    unfold pairC at hn
    simp only [List.mem_cons, List.not_mem_nil, or_false] at hn
    omega
theorem encL_lens {d : Dl} (hf : fewW d.ws) : ∀ c ∈ encL d, c.length ≤ 41 := by
  intro c hc
  unfold encL at hc
  rcases List.mem_cons.1 hc with rfl | hc
  · simp
  rcases List.mem_append.1 hc with hc | hc
  · obtain ⟨i, ws, w, hi, hx, hw, rfl⟩ := mem_clsTo hc
    have := (hf ws (List.mem_of_getElem? hx)).2 w hw
    unfold clsW
    simp; omega
  · obtain ⟨i, j, hi, hij, hj, _, rfl⟩ := mem_alTo hc
    simp [pairC]
end Go.Proofs.Ytgfgajekegfdgaa
