/-
  Layer 21: what the walks of weigh.AtMost need: its clauses, as a list of rows; the closures in that memory. Own work.
-/
import Derived.Test.YtfgoalgfpcalgaaClauses
import Derived.Deep.CutRange
import Derived.Deep.DeepCutAuto
import Derived.Deep.RegionWith
import Derived.Deep.RegionHeld3
import Derived.IntWalk
namespace Go.Proofs.Ytfgoalgfpcalgaa
set_option linter.unusedVariables false
set_option linter.unusedSimpArgs false
open Go.RowKit

/-- the further variable that says that at least j of the first i are true -/
def sv (next k i j : Int) : Int := next + (i - 1) * k + j - 1
/-- what the walk of AtMost keeps: its two boxes, its literals, its clauses -/
def AM (w : World) (lb loff : Nat) (x : List Int) (k next : Int) (cs : List (List Int)) (wr : World) : Prop :=
  Below w.heap.size w wr ∧ wr.cell? ⟨w.heap.size, 0, none⟩ = some (.int .i64 k) ∧ wr.cell? ⟨w.heap.size + 1, 0, none⟩ = some (.int .i64 next) ∧ Cls wr (w.heap.size + 1 + 1) cs ∧
    (∀ (j : Nat) (n : Int), x[j]? = some n → wr.cell? ⟨lb, loff + j, none⟩ = some (.int .i64 n)) ∧ lb < w.heap.size ∧ w.heap.size + 3 ≤ wr.heap.size
section
variable {w wr w' : World} {lb loff : Nat} {x : List Int} {k next : Int} {cs : List (List Int)}
theorem AM.drew (h : AM w lb loff x k next cs wr) : AM w lb loff x k next cs wr.drew := by
  obtain ⟨h1, h2, h3, h4, h5, h6, h7⟩ := h
  exact ⟨h1.drew, h2, h3, h4, h5, h6, h7⟩
theorem Cls.alloc {B : Nat} (h : Cls wr B cs) (o : Obj) : Cls (wr.alloc o) B cs := by
  obtain ⟨v, h1, rows, h2, h3⟩ := h
  have hk : ∀ (b : Nat) (cur : Array Value), wr.heap[b]? = some (Obj.cells cur 3 (0, 0)) → (wr.alloc o).heap[b]? = wr.heap[b]? := fun b cur hb => Below.heap_alloc _ _ _ (Array.getElem?_eq_some_iff.1 hb).1
  refine ⟨v, (Below.heap_alloc _ _ _ (Array.getElem?_eq_some_iff.1 h1).1).trans h1, rows, h2.alloc _, fun j c hj => ?_⟩
  obtain ⟨r, a, b⟩ := h3 j c hj
  exact ⟨r, a, b.keep hk⟩
theorem AM.add (h : AM w lb loff x k next cs wr) {cs' : List (List Int)} (hb : Below (w.heap.size + 1 + 1) wr w') (hc : Cls w' (w.heap.size + 1 + 1) cs') : AM w lb loff x k next cs' w' := by
  obtain ⟨h1, h2, h3, h4, h5, h6, h7⟩ := h
  refine ⟨h1.trans (hb.mono (by omega)), (hb.cell (by simp only; omega)).trans h2, (hb.cell (by simp only; omega)).trans h3, hc, fun j n hj => (hb.cell (by simp only; omega)).trans (h5 j n hj), h6, Nat.le_trans h7 hb.size⟩
theorem AM_add (h : AM w lb loff x k next cs wr) (c : List Int) (hc : c.length ≤ 1000) (hcs : cs.length ≤ 1000000) :
    Calls Try.prog 16 #[.slice (some ⟨wr.heap.size, 0, none⟩) c.length c.length, .pointer (some ⟨w.heap.size + 1 + 1, 0, none⟩)] (wr.alloc (.cells (c.map iV).toArray 3))
      fun e w' => e = .returned (.tuple #[]) ∧ AM w lb loff x k next (cs ++ [c]) w' := by
  have hsz : w.heap.size + 3 ≤ wr.heap.size := h.2.2.2.2.2.2
  refine (add_any _ cs _ c _ (h.2.2.2.1.alloc _) (RowAt.made wr (w.heap.size + 1 + 1 + 1) c (by omega) (by omega)) hcs).mono fun e w' ⟨he, hcl, hb⟩ => ⟨he, h.add (Below.trans ?_ hb) hcl⟩
  exact (Below.refl _ _).alloc (by omega) _
theorem AM_add1 (h : AM w lb loff x k next cs wr) (a : Int) (hcs : cs.length ≤ 1000000) :
    Calls Try.prog 16 #[.slice (some ⟨wr.heap.size, 0, none⟩) 1 1, .pointer (some ⟨w.heap.size + 1 + 1, 0, none⟩)] (wr.alloc (.cells #[.int .i64 a] 3))
      fun e w' => e = .returned (.tuple #[]) ∧ AM w lb loff x k next (cs ++ [[a]]) w' := AM_add h [a] (by simp) hcs
theorem AM_add2 (h : AM w lb loff x k next cs wr) (a b : Int) (hcs : cs.length ≤ 1000000) :
    Calls Try.prog 16 #[.slice (some ⟨wr.heap.size, 0, none⟩) 2 2, .pointer (some ⟨w.heap.size + 1 + 1, 0, none⟩)] (wr.alloc (.cells #[.int .i64 a, .int .i64 b] 3))
      fun e w' => e = .returned (.tuple #[]) ∧ AM w lb loff x k next (cs ++ [[a, b]]) w' := AM_add h [a, b] (by simp) hcs
theorem AM_add3 (h : AM w lb loff x k next cs wr) (a b c : Int) (hcs : cs.length ≤ 1000000) :
    Calls Try.prog 16 #[.slice (some ⟨wr.heap.size, 0, none⟩) 3 3, .pointer (some ⟨w.heap.size + 1 + 1, 0, none⟩)] (wr.alloc (.cells #[.int .i64 a, .int .i64 b, .int .i64 c] 3))
      fun e w' => e = .returned (.tuple #[]) ∧ AM w lb loff x k next (cs ++ [[a, b, c]]) w' := AM_add h [a, b, c] (by simp) hcs
theorem AM_add2d (h : AM w lb loff x k next cs wr) (a b : Int) (hcs : cs.length ≤ 1000000) :
    Calls Try.prog 16 #[.slice (some ⟨wr.heap.size, 0, none⟩) 2 2, .pointer (some ⟨w.heap.size + 1 + 1, 0, none⟩)] (wr.alloc (.cells #[.int .i64 a, .int .i64 b] 3)).drew
      fun e w' => e = .returned (.tuple #[]) ∧ AM w lb loff x k next (cs ++ [[a, b]]) w' := by
  have hsz : w.heap.size + 3 ≤ wr.heap.size := h.2.2.2.2.2.2
  have h1 : Cls (wr.alloc (.cells #[.int .i64 a, .int .i64 b] 3)).drew (w.heap.size + 1 + 1) cs := h.2.2.2.1.alloc _
  have h2 : RowAt (wr.alloc (.cells #[.int .i64 a, .int .i64 b] 3)).drew (w.heap.size + 1 + 1 + 1) (.slice (some ⟨wr.heap.size, 0, none⟩) 2 2) [a, b] := RowAt.made wr (w.heap.size + 1 + 1 + 1) [a, b] (by omega) (by simp)
  refine (add_any _ cs _ [a, b] _ h1 h2 hcs).mono fun e w' ⟨he, hcl, hb⟩ => ⟨he, h.add (Below.trans ?_ hb) hcl⟩
  exact ((Below.refl _ _).alloc (by omega) _).drew
theorem AM_num (h : AM w lb loff x k next cs wr) (i j : Int) (hi : 1 ≤ i) (hi2 : i ≤ 1000000) (hj : 0 ≤ j) (hj2 : j ≤ 1000000) (hk : 0 ≤ k) (hk2 : k ≤ 1000000) (hn : 0 ≤ next) (hn2 : next ≤ 1000000) :
    Calls Try.prog 17 #[.int .i64 i, .int .i64 j, .pointer (some ⟨w.heap.size + 1, 0, none⟩), .pointer (some ⟨w.heap.size, 0, none⟩)] wr fun e w' => e = .returned (.int .i64 (sv next k i j)) ∧ wr = w' :=
  num_any i j next k _ _ wr h.2.2.1 h.2.1 hi hi2 hj hj2 hk hk2 hn hn2
theorem AM_start (hlb : lb < w.heap.size) (hx : ∀ (j : Nat) (n : Int), x[j]? = some n → w.cell? ⟨lb, loff + j, none⟩ = some (.int .i64 n)) :
    AM w lb loff x k next [] (((w.alloc (.cells #[.int .i64 k] 3)).alloc (.cells #[.int .i64 next] 3)).alloc (.cells #[.slice none 0 0] 25)) := by
  have hb : Below w.heap.size w (((w.alloc (.cells #[.int .i64 k] 3)).alloc (.cells #[.int .i64 next] 3)).alloc (.cells #[.slice none 0 0] 25)) :=
    (((Below.refl _ _).alloc (Nat.le_refl _) _).alloc (by simp) _).alloc (by simp; omega) _
  refine ⟨hb, by simp [go_sem], by simp [go_sem], ⟨_, ?_, [], World.ownsRow_nil _ _ _ _, fun j c h => by simp at h⟩, fun j n hj => (hb.cell hlb).trans (hx j n hj), hlb, by simp⟩
  have := heap_alloc_new ((w.alloc (.cells #[.int .i64 k] 3)).alloc (.cells #[.int .i64 next] 3)) (.cells #[.slice none 0 0] 25)
  simpa using this
end
theorem sv_bd (next k i j : Int) (hi : 1 ≤ i) (hi2 : i ≤ 1000) (hj : 0 ≤ j) (hj2 : j ≤ 1000) (hk : 0 ≤ k) (hk2 : k ≤ 1000) (hn : 0 ≤ next) (hn2 : next ≤ 200000) : -1 ≤ sv next k i j ∧ sv next k i j ≤ 2000000 := by
  have h1 : 0 ≤ (i - 1) * k := Int.mul_nonneg (by omega) hk
  have h2 : (i - 1) * k ≤ 1000 * 1000 := Int.mul_le_mul (by omega) hk2 hk (by decide)
  unfold sv
  omega
/-- the rows of the first literal -/
def r1 (next k : Int) (m : Nat) : List (List Int) := (List.range m).map fun (t : Nat) => [-(sv next k 1 ((t : Int) + 2))]
theorem r1_succ (next k : Int) (m : Nat) : r1 next k (m + 1) = r1 next k m ++ [[-(sv next k 1 ((m : Int) + 2))]] := by
  unfold r1
  rw [List.range_succ, List.map_append]; rfl
/-- the rows of one literal between, but for the first two and the last -/
def rin (next k xi h i : Int) (m : Nat) : List (List Int) := (List.range m).flatMap fun (t : Nat) => [[-xi, -(sv next k h ((t : Int) + 1)), sv next k i ((t : Int) + 2)], [-(sv next k h ((t : Int) + 2)), sv next k i ((t : Int) + 2)]]
theorem rin_succ (next k xi h i : Int) (m : Nat) : rin next k xi h i (m + 1) = rin next k xi h i m ++ [[-xi, -(sv next k h ((m : Int) + 1)), sv next k i ((m : Int) + 2)]] ++ [[-(sv next k h ((m : Int) + 2)), sv next k i ((m : Int) + 2)]] := by
  unfold rin
  rw [List.range_succ, List.flatMap_append]
  simp
/-- the rows of one literal between -/
def blk (next k xi h i : Int) : List (List Int) := [[-xi, sv next k i 1]] ++ [[-(sv next k h 1), sv next k i 1]] ++ rin next k xi h i (k - 1).toNat ++ [[-xi, -(sv next k h k)]]
/-- the rows of the literals between -/
def r2 (x : List Int) (next k : Int) (m : Nat) : List (List Int) := (List.range m).flatMap fun (t : Nat) => blk next k (x.getD (t + 1) 0) ((t : Int) + 1) ((t : Int) + 2)
theorem r2_succ (x : List Int) (next k : Int) (m : Nat) : r2 x next k (m + 1) = r2 x next k m ++ blk next k (x.getD (m + 1) 0) ((m : Int) + 1) ((m : Int) + 2) := by
  unfold r2
  rw [List.range_succ, List.flatMap_append]
  simp
/-- the clauses where 1 ≤ k and k is below the number of literals -/
def most (x : List Int) (k next : Int) : List (List Int) :=
  [[-(x.getD 0 0), sv next k 1 1]] ++ r1 next k (k - 1).toNat ++ r2 x next k (x.length - 2) ++ [[-(x.getD (x.length - 1) 0), -(sv next k ((x.length : Int) - 1) k)]]
def Rel1 (w : World) (lb loff : Nat) (x : List Int) (k next x0 : Int) (j : Value) (wr : World) : Prop :=
  ∃ (m : Nat) (cs : List (List Int)), (m : Int) + 1 ≤ k ∧ j = .int .i64 ((m : Int) + 2) ∧ cs = [[-x0, sv next k 1 1]] ++ r1 next k m ∧ cs.length ≤ m + 1 ∧ AM w lb loff x k next cs wr
def Rel3 (w : World) (lb loff : Nat) (x : List Int) (k next : Int) (c0 : List (List Int)) (i : Value) (wr : World) : Prop :=
  ∃ (m : Nat) (cs : List (List Int)), m + 2 ≤ x.length ∧ i = .int .i64 ((m : Int) + 2) ∧ cs = c0 ++ r2 x next k m ∧ cs.length ≤ 100 + m * 200 ∧ AM w lb loff x k next cs wr
def Rel4 (w : World) (lb loff : Nat) (x : List Int) (k next xi h i : Int) (c0 : List (List Int)) (L : Nat) (j : Value) (wr : World) : Prop :=
  ∃ (m : Nat) (cs : List (List Int)), (m : Int) + 1 ≤ k ∧ j = .int .i64 ((m : Int) + 2) ∧ cs = c0 ++ rin next k xi h i m ∧ cs.length ≤ L + 2 * m ∧ AM w lb loff x k next cs wr
def AmPost (x : List Int) (k next : Int) (w : World) (e : Ending) (w' : World) : Prop :=
  ∃ v, e = .returned (.tuple #[v, .int .i64 (sv next k (x.length : Int) 1)]) ∧ RowsAt w' w.heap.size v (most x k next) ∧ Below w.heap.size w w'
theorem RowAt.lo {w : World} {lo lo' : Nat} {v : Value} {c : List Int} (h : RowAt w lo v c) (hl : lo' ≤ lo) : RowAt w lo' v c := by
  obtain ⟨b, cap, cur, hv, h1, h2⟩ := h
  exact ⟨b, cap, cur, hv, Nat.le_trans hl h1, h2⟩
theorem RowsAt.lo {w : World} {lo lo' : Nat} {v : Value} {cs : List (List Int)} (h : RowsAt w lo v cs) (hl : lo' ≤ lo) : RowsAt w lo' v cs := by
  obtain ⟨rows, h1, h2⟩ := h
  refine ⟨rows, ⟨h1.1, ?_⟩, fun j c hj => ?_⟩
  · rcases h1.2 with h | ⟨g, cap, cur, a, b, rest⟩
    · exact .inl h
    · exact .inr ⟨g, cap, cur, a, Nat.le_trans hl b, rest⟩
  · obtain ⟨r, a, b⟩ := h2 j c hj
    exact ⟨r, a, b.lo hl⟩
theorem rows_slice {w : World} {lo : Nat} {v : Value} {cs : List (List Int)} (h : RowsAt w lo v cs) : ∃ a n c, v = .slice a n c := by
  obtain ⟨rows, ho, -⟩ := h
  rcases ho.2 with ⟨h, h0⟩ | ⟨g, cap, cur, h, _⟩
  · exact ⟨_, _, _, h⟩
  · exact ⟨_, _, _, h⟩
theorem fin_most {w wc : World} {lb loff : Nat} {x : List Int} {k next : Int} {cs : List (List Int)} {v : Value} (h : AM w lb loff x k next cs wc) (hv : wc.heap[w.heap.size + 1 + 1]? = some (Obj.cells #[v] 25 (0, 0)))
    (hr : RowsAt wc (w.heap.size + 1 + 1 + 1) v cs) : RowsAt (wc.setCell ⟨w.heap.size + 1 + 1, 0, none⟩ v).drew w.heap.size v cs ∧ Below w.heap.size w (wc.setCell ⟨w.heap.size + 1 + 1, 0, none⟩ v).drew := by
  refine ⟨RowsAt.lo (lo := w.heap.size + 1 + 1 + 1) ?_ (by omega), (h.1.setCell (p := ⟨w.heap.size + 1 + 1, 0, none⟩) (by simp only; omega) _).drew⟩
  have hg : wc.grownBy (wc.setCell ⟨w.heap.size + 1 + 1, 0, none⟩ v) (some (w.heap.size + 1 + 1)) := ⟨rfl, rfl, rfl, by simp, fun k _ hk => heap_setCell_other wc ⟨w.heap.size + 1 + 1, 0, none⟩ k v (fun e => hk (by simp [e]))⟩
  obtain ⟨rows, h1, h2⟩ := hr
  have h1' := h1.kept hg (.inr (fun e => by have := (h1.lt _ e).1; omega))
  refine ⟨rows, h1', fun j c hj => ?_⟩
  obtain ⟨r, a, b⟩ := h2 j c hj
  refine ⟨r, a, ?_⟩
  have b' : RowAt (wc.setCell ⟨w.heap.size + 1 + 1, 0, none⟩ v) (w.heap.size + 1 + 1 + 1) r c := b.keep fun b0 cur hb0 => hg.block b0 (Array.getElem?_eq_some_iff.1 hb0).1 (fun e => by
    simp only [Option.some.injEq] at e
    subst e
    rw [hv] at hb0
    simp at hb0)
  exact b'
end Go.Proofs.Ytfgoalgfpcalgaa
