/-
  Layer 16: the document's examples. Own work.
-/
import Derived.Test.YtmiiclhhenepiaaCh16
namespace Go.Proofs.Ytmiiclhhenepiaa
set_option linter.unusedVariables false
set_option linter.unusedSimpArgs false
open Go.RowKit

theorem lit_reads {w : World} {b : Nat} {c : List Int} {cur : Array Value} (h : w.heap[b]? = some (.cells cur 3 (0, 0))) (hc : cur = (c.map iV).toArray) (hl : c.length ≤ 1000) : Reads w iV (.slice (some ⟨b, 0, none⟩) c.length c.length) c := by
  subst hc
  refine .inr ⟨⟨b, 0, none⟩, c.length, rfl, Nat.le_refl _, by omega, fun j n hj => ?_⟩
  have e : (⟨b, 0, none⟩ : Addr).add j = ⟨b, j, none⟩ := by unfold Addr.add; split <;> simp_all
  rw [e, cell_of_row w b j _ _ (0, 0) h]
  simp [hj]
theorem lit_reads2 {w : World} {b : Nat} {cs : List (List Int)} {rows : List Value} (h : w.heap[b]? = some (.cells rows.toArray 31 (0, 0))) (hl : cs.length ≤ 1000) (hr : ∀ (j : Nat) d, cs[j]? = some d → ∃ r, rows[j]? = some r ∧ Reads w iV r d) : Reads2 w (.slice (some ⟨b, 0, none⟩) cs.length cs.length) cs := by
  refine ⟨some ⟨b, 0, none⟩, cs.length, rfl, by omega, fun j d hj => ?_⟩
  obtain ⟨r, h1, h2⟩ := hr j d hj
  refine ⟨⟨b, 0, none⟩, r, rfl, ?_, h2⟩
  have e : (⟨b, 0, none⟩ : Addr).add j = ⟨b, j, none⟩ := by unfold Addr.add; split <;> simp_all
  rw [e, cell_of_row w b j _ _ (0, 0) h]
  simp [h1]
def allocs (w : World) (l : List Obj) : World := l.foldl World.alloc w
theorem allocs_old : ∀ (l : List Obj) (w : World) (k : Nat), k < w.heap.size → (allocs w l).heap[k]? = w.heap[k]?
  | [], w, k, _ => rfl
  | o :: l, w, k, h => (allocs_old l (w.alloc o) k (by simp; omega)).trans (Below.heap_alloc _ _ _ h)
theorem allocs_get : ∀ (l : List Obj) (w : World) (i : Nat) (o : Obj), l[i]? = some o → (allocs w l).heap[w.heap.size + i]? = some o
  | [], w, i, o, h => by simp at h
  | o :: l, w, 0, o', h => by
    simp at h
    rw [← h]
    exact (allocs_old l (w.alloc o) w.heap.size (by simp)).trans (heap_alloc_new w o)
  | o :: l, w, i + 1, o', h => by
    have := allocs_get l (w.alloc o) i o' (by simpa using h)
    rw [show (w.alloc o).heap.size = w.heap.size + 1 by simp, show w.heap.size + 1 + i = w.heap.size + (i + 1) by omega] at this
    exact this
def exL : List (List Int) := [[1, 2], [-1, 2]]
def exQ : List (List Int) := [[1, 2], [-1, 2], [-2]]
theorem nz12 : nz [1, 2] = [1, 2] := by decide
theorem nzm12 : nz [-1, 2] = [-1, 2] := by decide
theorem nzm2 : nz [-2] = [-2] := by decide
theorem nz2 : nz [2] = [2] := by decide
theorem ex_fol2 {l : List (List Int)} {c : List Int} (h1 : [1, 2] ∈ l) (h2 : [-1, 2] ∈ l) (hb : Der (fun n : Int => -n) (l.map nz) (Neg c) (-2)) : Fol l c := by
  have d1 : Der (fun n : Int => -n) (l.map nz) (Neg c) 1 := .unit (c := [1, 2]) (List.mem_map.2 ⟨_, h1, nz12⟩) (by simp) (fun m hm hne => by
    have : m = 2 := by simp at hm; omega
    rw [this]; exact hb)
  refine .inr ⟨[-1, 2], List.mem_map.2 ⟨_, h2, nzm12⟩, fun m hm => ?_⟩
  have : m = -1 ∨ m = 2 := by simpa using hm
  rcases this with rfl | rfl
  · exact d1
  · exact hb
theorem ex1 : Fol exL [2] := ex_fol2 (by simp [exL]) (by simp [exL]) (.base ⟨2, by rw [nz2]; simp, rfl⟩)
theorem ex2 : ¬ Fol exL [1] := by
  refine no_conf (T := fun n => n = -1 ∨ n = 2) ⟨fun n hn => ?_, fun c hc n hn h => ?_⟩ (fun n hn => ?_) (fun c hc => ?_)
  · obtain ⟨m, hm, rfl⟩ := hn
    have : m = 1 := by simpa [nz] using hm
    omega
  · have hc2 : c = [1, 2] ∨ c = [-1, 2] := by simpa [exL, nz] using hc
    rcases hc2 with rfl | rfl
    · have hn2 : n = 1 ∨ n = 2 := by simpa using hn
      rcases hn2 with rfl | rfl
      · have h9 : (-2 : Int) = -1 ∨ (-2 : Int) = 2 := h 2 (by simp) (by omega)
        omega
      · exact .inr rfl
    · have hn2 : n = -1 ∨ n = 2 := by simpa using hn
      exact hn2
  · show ¬ (-n = -1 ∨ -n = 2)
    omega
  · have hc2 : c = [1, 2] ∨ c = [-1, 2] := by simpa [exL, nz] using hc
    rcases hc2 with rfl | rfl
    · exact ⟨2, by simp, by show ¬ ((-2 : Int) = -1 ∨ (-2 : Int) = 2); omega⟩
    · exact ⟨2, by simp, by show ¬ ((-2 : Int) = -1 ∨ (-2 : Int) = 2); omega⟩
theorem ex3 : CheckR exQ [[2], []] (-1) := by
  refine .inr ⟨fun j d hj => ?_, rfl⟩
  match j, hj with
  | 0, hj =>
    cases hj
    exact ex_fol2 (by simp [exQ]) (by simp [exQ]) (.base ⟨2, by rw [nz2]; simp, rfl⟩)
  | 1, hj =>
    cases hj
    refine .inl ⟨2, .unit (c := [2]) (List.mem_map.2 ⟨[2], by simp [exQ], nz2⟩) (by simp) (fun m hm hne => absurd (List.mem_singleton.1 hm) hne), .unit (c := [-2]) (List.mem_map.2 ⟨[-2], by simp [exQ], nzm2⟩) (by simp) (fun m hm hne => absurd (List.mem_singleton.1 hm) hne)⟩
theorem ex4 : CheckR exQ [[]] (-1) := by
  refine .inr ⟨fun j d hj => ?_, rfl⟩
  match j, hj with
  | 0, hj =>
    cases hj
    exact ex_fol2 (by simp [exQ]) (by simp [exQ]) (.unit (c := [-2]) (List.mem_map.2 ⟨[-2], by simp [exQ], nzm2⟩) (by simp) (fun m hm hne => absurd (List.mem_singleton.1 hm) hne))
theorem ex5 : CheckR exQ [] 0 := .inr ⟨fun j d hj => by simp at hj, rfl⟩
theorem exL_fit : Fit64 exL := fun c hc n hn => by
  have hc2 : c = [1, 2] ∨ c = [-1, 2] := by simpa [exL] using hc
  rcases hc2 with rfl | rfl
  · have : n = 1 ∨ n = 2 := by simpa using hn
    omega
  · have : n = -1 ∨ n = 2 := by simpa using hn
    omega
theorem exQ_fit : Fit64 exQ := fun c hc n hn => by
  have hc2 : c = [1, 2] ∨ c = [-1, 2] ∨ c = [-2] := by simpa [exQ] using hc
  rcases hc2 with rfl | rfl | rfl
  · have : n = 1 ∨ n = 2 := by simpa using hn
    omega
  · have : n = -1 ∨ n = 2 := by simpa using hn
    omega
  · have : n = -2 := by simpa using hn
    omega
theorem ex_world (w : World) (w8 : World) (hw : w8 = ((((((((w.alloc (.cells #[.int .i64 1, .int .i64 2] 3)).alloc (.cells #[.int .i64 (-1), .int .i64 2] 3)).alloc (.cells #[.slice (some ⟨w.heap.size, 0, none⟩) 2 2, .slice (some ⟨w.heap.size + 1, 0, none⟩) 2 2] 31)).alloc (.cells #[.int .i64 1, .int .i64 2] 3)).alloc (.cells #[.int .i64 (-1), .int .i64 2] 3)).alloc (.cells #[.int .i64 (-2)] 3)).alloc (.cells #[.slice (some ⟨w.heap.size + 1 + 1 + 1, 0, none⟩) 2 2, .slice (some ⟨w.heap.size + 1 + 1 + 1 + 1, 0, none⟩) 2 2, .slice (some ⟨w.heap.size + 1 + 1 + 1 + 1 + 1, 0, none⟩) 1 1] 31)).alloc (.cells #[.int .i64 2, .slice (some ⟨w.heap.size + 1 + 1 + 1 + 1 + 1 + 1, 0, none⟩) 3 3] 28))) :
    Reads2 w8 (.slice (some ⟨w.heap.size + 1 + 1, 0, none⟩) 2 2) exL ∧ Reads2 w8 (.slice (some ⟨w.heap.size + 1 + 1 + 1 + 1 + 1 + 1, 0, none⟩) 3 3) exQ ∧
    w8.heap[w.heap.size + 1 + 1 + 1 + 1 + 1 + 1 + 1]? = some (.cells #[.int .i64 2, .slice (some ⟨w.heap.size + 1 + 1 + 1 + 1 + 1 + 1, 0, none⟩) 3 3] 28 (0, 0)) ∧ Below w.heap.size w w8 := by
  have hs : w8.heap.size = w.heap.size + 8 := by rw [hw]; simp
  have hget : ∀ k : Nat, w8.heap[k]? = (((((((((w.alloc (.cells #[.int .i64 1, .int .i64 2] 3)).alloc (.cells #[.int .i64 (-1), .int .i64 2] 3)).alloc (.cells #[.slice (some ⟨w.heap.size, 0, none⟩) 2 2, .slice (some ⟨w.heap.size + 1, 0, none⟩) 2 2] 31)).alloc (.cells #[.int .i64 1, .int .i64 2] 3)).alloc (.cells #[.int .i64 (-1), .int .i64 2] 3)).alloc (.cells #[.int .i64 (-2)] 3)).alloc (.cells #[.slice (some ⟨w.heap.size + 1 + 1 + 1, 0, none⟩) 2 2, .slice (some ⟨w.heap.size + 1 + 1 + 1 + 1, 0, none⟩) 2 2, .slice (some ⟨w.heap.size + 1 + 1 + 1 + 1 + 1, 0, none⟩) 1 1] 31)).alloc (.cells #[.int .i64 2, .slice (some ⟨w.heap.size + 1 + 1 + 1 + 1 + 1 + 1, 0, none⟩) 3 3] 28))).heap[k]? := fun k => by rw [hw]
  have g0 : w8.heap[w.heap.size]? = some (.cells #[.int .i64 1, .int .i64 2] 3 (0, 0)) := by rw [hget]; exact allocs_get [.cells #[.int .i64 1, .int .i64 2] 3, .cells #[.int .i64 (-1), .int .i64 2] 3, .cells #[.slice (some ⟨w.heap.size, 0, none⟩) 2 2, .slice (some ⟨w.heap.size + 1, 0, none⟩) 2 2] 31, .cells #[.int .i64 1, .int .i64 2] 3, .cells #[.int .i64 (-1), .int .i64 2] 3, .cells #[.int .i64 (-2)] 3, .cells #[.slice (some ⟨w.heap.size + 1 + 1 + 1, 0, none⟩) 2 2, .slice (some ⟨w.heap.size + 1 + 1 + 1 + 1, 0, none⟩) 2 2, .slice (some ⟨w.heap.size + 1 + 1 + 1 + 1 + 1, 0, none⟩) 1 1] 31, .cells #[.int .i64 2, .slice (some ⟨w.heap.size + 1 + 1 + 1 + 1 + 1 + 1, 0, none⟩) 3 3] 28] w 0 _ rfl
  have g1 : w8.heap[w.heap.size + 1]? = some (.cells #[.int .i64 (-1), .int .i64 2] 3 (0, 0)) := by rw [hget]; exact allocs_get [.cells #[.int .i64 1, .int .i64 2] 3, .cells #[.int .i64 (-1), .int .i64 2] 3, .cells #[.slice (some ⟨w.heap.size, 0, none⟩) 2 2, .slice (some ⟨w.heap.size + 1, 0, none⟩) 2 2] 31, .cells #[.int .i64 1, .int .i64 2] 3, .cells #[.int .i64 (-1), .int .i64 2] 3, .cells #[.int .i64 (-2)] 3, .cells #[.slice (some ⟨w.heap.size + 1 + 1 + 1, 0, none⟩) 2 2, .slice (some ⟨w.heap.size + 1 + 1 + 1 + 1, 0, none⟩) 2 2, .slice (some ⟨w.heap.size + 1 + 1 + 1 + 1 + 1, 0, none⟩) 1 1] 31, .cells #[.int .i64 2, .slice (some ⟨w.heap.size + 1 + 1 + 1 + 1 + 1 + 1, 0, none⟩) 3 3] 28] w 1 _ rfl
  have g2 : w8.heap[w.heap.size + 1 + 1]? = some (.cells #[.slice (some ⟨w.heap.size, 0, none⟩) 2 2, .slice (some ⟨w.heap.size + 1, 0, none⟩) 2 2] 31 (0, 0)) := by rw [hget]; exact allocs_get [.cells #[.int .i64 1, .int .i64 2] 3, .cells #[.int .i64 (-1), .int .i64 2] 3, .cells #[.slice (some ⟨w.heap.size, 0, none⟩) 2 2, .slice (some ⟨w.heap.size + 1, 0, none⟩) 2 2] 31, .cells #[.int .i64 1, .int .i64 2] 3, .cells #[.int .i64 (-1), .int .i64 2] 3, .cells #[.int .i64 (-2)] 3, .cells #[.slice (some ⟨w.heap.size + 1 + 1 + 1, 0, none⟩) 2 2, .slice (some ⟨w.heap.size + 1 + 1 + 1 + 1, 0, none⟩) 2 2, .slice (some ⟨w.heap.size + 1 + 1 + 1 + 1 + 1, 0, none⟩) 1 1] 31, .cells #[.int .i64 2, .slice (some ⟨w.heap.size + 1 + 1 + 1 + 1 + 1 + 1, 0, none⟩) 3 3] 28] w 2 _ rfl
  have g3 : w8.heap[w.heap.size + 1 + 1 + 1]? = some (.cells #[.int .i64 1, .int .i64 2] 3 (0, 0)) := by rw [hget]; exact allocs_get [.cells #[.int .i64 1, .int .i64 2] 3, .cells #[.int .i64 (-1), .int .i64 2] 3, .cells #[.slice (some ⟨w.heap.size, 0, none⟩) 2 2, .slice (some ⟨w.heap.size + 1, 0, none⟩) 2 2] 31, .cells #[.int .i64 1, .int .i64 2] 3, .cells #[.int .i64 (-1), .int .i64 2] 3, .cells #[.int .i64 (-2)] 3, .cells #[.slice (some ⟨w.heap.size + 1 + 1 + 1, 0, none⟩) 2 2, .slice (some ⟨w.heap.size + 1 + 1 + 1 + 1, 0, none⟩) 2 2, .slice (some ⟨w.heap.size + 1 + 1 + 1 + 1 + 1, 0, none⟩) 1 1] 31, .cells #[.int .i64 2, .slice (some ⟨w.heap.size + 1 + 1 + 1 + 1 + 1 + 1, 0, none⟩) 3 3] 28] w 3 _ rfl
  have g4 : w8.heap[w.heap.size + 1 + 1 + 1 + 1]? = some (.cells #[.int .i64 (-1), .int .i64 2] 3 (0, 0)) := by rw [hget]; exact allocs_get [.cells #[.int .i64 1, .int .i64 2] 3, .cells #[.int .i64 (-1), .int .i64 2] 3, .cells #[.slice (some ⟨w.heap.size, 0, none⟩) 2 2, .slice (some ⟨w.heap.size + 1, 0, none⟩) 2 2] 31, .cells #[.int .i64 1, .int .i64 2] 3, .cells #[.int .i64 (-1), .int .i64 2] 3, .cells #[.int .i64 (-2)] 3, .cells #[.slice (some ⟨w.heap.size + 1 + 1 + 1, 0, none⟩) 2 2, .slice (some ⟨w.heap.size + 1 + 1 + 1 + 1, 0, none⟩) 2 2, .slice (some ⟨w.heap.size + 1 + 1 + 1 + 1 + 1, 0, none⟩) 1 1] 31, .cells #[.int .i64 2, .slice (some ⟨w.heap.size + 1 + 1 + 1 + 1 + 1 + 1, 0, none⟩) 3 3] 28] w 4 _ rfl
  have g5 : w8.heap[w.heap.size + 1 + 1 + 1 + 1 + 1]? = some (.cells #[.int .i64 (-2)] 3 (0, 0)) := by rw [hget]; exact allocs_get [.cells #[.int .i64 1, .int .i64 2] 3, .cells #[.int .i64 (-1), .int .i64 2] 3, .cells #[.slice (some ⟨w.heap.size, 0, none⟩) 2 2, .slice (some ⟨w.heap.size + 1, 0, none⟩) 2 2] 31, .cells #[.int .i64 1, .int .i64 2] 3, .cells #[.int .i64 (-1), .int .i64 2] 3, .cells #[.int .i64 (-2)] 3, .cells #[.slice (some ⟨w.heap.size + 1 + 1 + 1, 0, none⟩) 2 2, .slice (some ⟨w.heap.size + 1 + 1 + 1 + 1, 0, none⟩) 2 2, .slice (some ⟨w.heap.size + 1 + 1 + 1 + 1 + 1, 0, none⟩) 1 1] 31, .cells #[.int .i64 2, .slice (some ⟨w.heap.size + 1 + 1 + 1 + 1 + 1 + 1, 0, none⟩) 3 3] 28] w 5 _ rfl
  have g6 : w8.heap[w.heap.size + 1 + 1 + 1 + 1 + 1 + 1]? = some (.cells #[.slice (some ⟨w.heap.size + 1 + 1 + 1, 0, none⟩) 2 2, .slice (some ⟨w.heap.size + 1 + 1 + 1 + 1, 0, none⟩) 2 2, .slice (some ⟨w.heap.size + 1 + 1 + 1 + 1 + 1, 0, none⟩) 1 1] 31 (0, 0)) := by rw [hget]; exact allocs_get [.cells #[.int .i64 1, .int .i64 2] 3, .cells #[.int .i64 (-1), .int .i64 2] 3, .cells #[.slice (some ⟨w.heap.size, 0, none⟩) 2 2, .slice (some ⟨w.heap.size + 1, 0, none⟩) 2 2] 31, .cells #[.int .i64 1, .int .i64 2] 3, .cells #[.int .i64 (-1), .int .i64 2] 3, .cells #[.int .i64 (-2)] 3, .cells #[.slice (some ⟨w.heap.size + 1 + 1 + 1, 0, none⟩) 2 2, .slice (some ⟨w.heap.size + 1 + 1 + 1 + 1, 0, none⟩) 2 2, .slice (some ⟨w.heap.size + 1 + 1 + 1 + 1 + 1, 0, none⟩) 1 1] 31, .cells #[.int .i64 2, .slice (some ⟨w.heap.size + 1 + 1 + 1 + 1 + 1 + 1, 0, none⟩) 3 3] 28] w 6 _ rfl
  have g7 : w8.heap[w.heap.size + 1 + 1 + 1 + 1 + 1 + 1 + 1]? = some (.cells #[.int .i64 2, .slice (some ⟨w.heap.size + 1 + 1 + 1 + 1 + 1 + 1, 0, none⟩) 3 3] 28 (0, 0)) := by rw [hget]; exact allocs_get [.cells #[.int .i64 1, .int .i64 2] 3, .cells #[.int .i64 (-1), .int .i64 2] 3, .cells #[.slice (some ⟨w.heap.size, 0, none⟩) 2 2, .slice (some ⟨w.heap.size + 1, 0, none⟩) 2 2] 31, .cells #[.int .i64 1, .int .i64 2] 3, .cells #[.int .i64 (-1), .int .i64 2] 3, .cells #[.int .i64 (-2)] 3, .cells #[.slice (some ⟨w.heap.size + 1 + 1 + 1, 0, none⟩) 2 2, .slice (some ⟨w.heap.size + 1 + 1 + 1 + 1, 0, none⟩) 2 2, .slice (some ⟨w.heap.size + 1 + 1 + 1 + 1 + 1, 0, none⟩) 1 1] 31, .cells #[.int .i64 2, .slice (some ⟨w.heap.size + 1 + 1 + 1 + 1 + 1 + 1, 0, none⟩) 3 3] 28] w 7 _ rfl
  have r0 := lit_reads (c := [1, 2]) g0 rfl (by simp)
  have r1 := lit_reads (c := [-1, 2]) g1 rfl (by simp)
  have r3 := lit_reads (c := [1, 2]) g3 rfl (by simp)
  have r4 := lit_reads (c := [-1, 2]) g4 rfl (by simp)
  have r5 := lit_reads (c := [-2]) g5 rfl (by simp)
  refine ⟨lit_reads2 (cs := exL) (rows := [_, _]) g2 (by simp [exL]) (fun j d hj => ?_), lit_reads2 (cs := exQ) (rows := [_, _, _]) g6 (by simp [exQ]) (fun j d hj => ?_), g7, ?_⟩
  · match j, hj with
    | 0, hj => cases hj; exact ⟨_, rfl, r0⟩
    | 1, hj => cases hj; exact ⟨_, rfl, r1⟩
  · match j, hj with
    | 0, hj => cases hj; exact ⟨_, rfl, r3⟩
    | 1, hj => cases hj; exact ⟨_, rfl, r4⟩
    | 2, hj => cases hj; exact ⟨_, rfl, r5⟩
  · rw [hw]
    repeat (first | exact Below.refl _ _ | refine Below.alloc ?_ (by simp; try omega) _)
set_option maxRecDepth 100000 in
set_option maxHeartbeats 4000000 in
theorem lives_any (w : World) : Calls Try.prog 11 #[] w fun e w' => e = .returned (.bool true) ∧ Below w.heap.size w w' := by
  have HX := Lib.hid (ex_world w _ rfl)
  go_enter Try.func11, Try.ntmps11
  go_upto_region 3 with fail
  generalize ((((((((w.alloc (.cells #[.int .i64 1, .int .i64 2] 3)).alloc (.cells #[.int .i64 (-1), .int .i64 2] 3)).alloc (.cells #[.slice (some ⟨w.heap.size, 0, none⟩) 2 2, .slice (some ⟨w.heap.size + 1, 0, none⟩) 2 2] 31)).alloc (.cells #[.int .i64 1, .int .i64 2] 3)).alloc (.cells #[.int .i64 (-1), .int .i64 2] 3)).alloc (.cells #[.int .i64 (-2)] 3)).alloc (.cells #[.slice (some ⟨w.heap.size + 1 + 1 + 1, 0, none⟩) 2 2, .slice (some ⟨w.heap.size + 1 + 1 + 1 + 1, 0, none⟩) 2 2, .slice (some ⟨w.heap.size + 1 + 1 + 1 + 1 + 1, 0, none⟩) 1 1] 31)).alloc (.cells #[.int .i64 2, .slice (some ⟨w.heap.size + 1 + 1 + 1 + 1 + 1 + 1, 0, none⟩) 3 3] 28)) = w8 at HX ⊢
  obtain ⟨bP, hP⟩ : ∃ b, b = w.heap.size + 1 + 1 + 1 + 1 + 1 + 1 + 1 := ⟨_, rfl⟩
  obtain ⟨bQ, hQ⟩ : ∃ b, b = w.heap.size + 1 + 1 + 1 + 1 + 1 + 1 := ⟨_, rfl⟩
  obtain ⟨bL, hL⟩ : ∃ b, b = w.heap.size + 1 + 1 := ⟨_, rfl⟩
  rw [← hP, ← hQ, ← hL] at HX ⊢
  clear hP hQ hL
  have HR := Lib.hid (show ∀ w', Below w8.heap.size w8 w' → Reads2 w' (.slice (some ⟨bL, 0, none⟩) 2 2) exL ∧ Reads2 w' (.slice (some ⟨bQ, 0, none⟩) 3 3) exQ ∧ w'.cell? ⟨bP, 0, none⟩ = some (.int .i64 2) ∧ w'.cell? ⟨bP, 1, none⟩ = some (.slice (some ⟨bQ, 0, none⟩) 3 3) ∧ Below w.heap.size w w' from fun w' hb => by
    obtain ⟨h1, h2, h3, h4⟩ := HX.out
    have hg := (hb.block bP (Array.getElem?_eq_some_iff.1 h3).1).trans h3
    refine ⟨h1.below hb (Nat.le_refl _), h2.below hb (Nat.le_refl _), by rw [cell_of_row w' bP 0 _ _ (0, 0) hg]; rfl, by rw [cell_of_row w' bP 1 _ _ (0, 0) hg]; rfl, h4.trans ⟨hb.os, hb.tape, hb.output, hb.size, fun k hk => hb.block k (Nat.lt_of_lt_of_le hk h4.size)⟩⟩)
  clear HX
  have hbA : Below w8.heap.size w8 (w8.alloc (.cells #[.int .i64 2] 3)) := (Below.refl _ _).alloc (Nat.le_refl _) _
  have HC1 := Lib.hid (Follows_any _ _ exL [2] _ (HR.out _ hbA).1 exL_fit (by simp [exL]) (by simp [exL]) (lit_reads (c := [2]) (heap_alloc_new w8 (.cells #[.int .i64 2] 3)) rfl (by simp)) (by simp) (by simp))
  have HBA := Lib.hid hbA
  clear hbA
  go_wp2_with fail
  refine HC1.out.mono ?_
  rintro e w9 ⟨⟨b, rfl, hb⟩, hb9⟩
  obtain rfl : b = true := hb.2 ex1
  have HB9 := Lib.hid (show Below w8.heap.size w8 w9 from HBA.out.trans ⟨hb9.os, hb9.tape, hb9.output, hb9.size, fun k hk => hb9.block k (Nat.lt_of_lt_of_le hk HBA.out.size)⟩)
  clear hb hb9 HC1 HBA
  have hbB : Below w8.heap.size w8 (w9.alloc (.cells #[.int .i64 1] 3)) := HB9.out.alloc HB9.out.size _
  have HC2 := Lib.hid (Follows_any _ _ exL [1] _ (HR.out _ hbB).1 exL_fit (by simp [exL]) (by simp [exL]) (lit_reads (c := [1]) (heap_alloc_new w9 (.cells #[.int .i64 1] 3)) rfl (by simp)) (by simp) (by simp))
  have HBB := Lib.hid hbB
  clear hbB
  go_wp2_with fail
  refine HC2.out.mono ?_
  rintro e w10 ⟨⟨b, rfl, hb⟩, hb10⟩
  obtain rfl : b = false := by
    cases b with
    | false => rfl
    | true => exact absurd (hb.1 rfl) ex2
  have HB10 := Lib.hid (show Below w8.heap.size w8 w10 from HBB.out.trans ⟨hb10.os, hb10.tape, hb10.output, hb10.size, fun k hk => hb10.block k (Nat.lt_of_lt_of_le hk HBB.out.size)⟩)
  clear hb hb10 HC2 HBB
  have hbC : Below w8.heap.size w8 (((w10.alloc (.cells #[.int .i64 2] 3)).alloc (.cells #[] 3)).alloc (.cells #[.slice (some ⟨w10.heap.size, 0, none⟩) 1 1, .slice (some ⟨w10.heap.size + 1, 0, none⟩) 0 0] 31)) := ((HB10.out.alloc HB10.out.size _).alloc (by have := HB10.out.size; simp; omega) _).alloc (by have := HB10.out.size; simp; omega) _
  have hp3 : Reads2 (((w10.alloc (.cells #[.int .i64 2] 3)).alloc (.cells #[] 3)).alloc (.cells #[.slice (some ⟨w10.heap.size, 0, none⟩) 1 1, .slice (some ⟨w10.heap.size + 1, 0, none⟩) 0 0] 31)) (.slice (some ⟨w10.heap.size + 1 + 1, 0, none⟩) 2 2) [[2], []] := by
    have g0 : (((w10.alloc (.cells #[.int .i64 2] 3)).alloc (.cells #[] 3)).alloc (.cells #[.slice (some ⟨w10.heap.size, 0, none⟩) 1 1, .slice (some ⟨w10.heap.size + 1, 0, none⟩) 0 0] 31)).heap[w10.heap.size]? = some (.cells #[.int .i64 2] 3 (0, 0)) := allocs_get [.cells #[.int .i64 2] 3, .cells #[] 3, .cells #[.slice (some ⟨w10.heap.size, 0, none⟩) 1 1, .slice (some ⟨w10.heap.size + 1, 0, none⟩) 0 0] 31] w10 0 _ rfl
    have g1 : (((w10.alloc (.cells #[.int .i64 2] 3)).alloc (.cells #[] 3)).alloc (.cells #[.slice (some ⟨w10.heap.size, 0, none⟩) 1 1, .slice (some ⟨w10.heap.size + 1, 0, none⟩) 0 0] 31)).heap[w10.heap.size + 1]? = some (.cells #[] 3 (0, 0)) := allocs_get [.cells #[.int .i64 2] 3, .cells #[] 3, .cells #[.slice (some ⟨w10.heap.size, 0, none⟩) 1 1, .slice (some ⟨w10.heap.size + 1, 0, none⟩) 0 0] 31] w10 1 _ rfl
    have g2 : (((w10.alloc (.cells #[.int .i64 2] 3)).alloc (.cells #[] 3)).alloc (.cells #[.slice (some ⟨w10.heap.size, 0, none⟩) 1 1, .slice (some ⟨w10.heap.size + 1, 0, none⟩) 0 0] 31)).heap[w10.heap.size + 1 + 1]? = some (.cells #[.slice (some ⟨w10.heap.size, 0, none⟩) 1 1, .slice (some ⟨w10.heap.size + 1, 0, none⟩) 0 0] 31 (0, 0)) := allocs_get [.cells #[.int .i64 2] 3, .cells #[] 3, .cells #[.slice (some ⟨w10.heap.size, 0, none⟩) 1 1, .slice (some ⟨w10.heap.size + 1, 0, none⟩) 0 0] 31] w10 2 _ rfl
    refine lit_reads2 (cs := [[2], []]) (rows := [_, _]) g2 (by simp) (fun j d hj => ?_)
    match j, hj with
    | 0, hj => cases hj; exact ⟨_, rfl, lit_reads (c := [2]) g0 rfl (by simp)⟩
    | 1, hj => cases hj; exact ⟨_, rfl, lit_reads (c := []) g1 rfl (by simp)⟩
  have HC3 := Lib.hid (Check_any 2 _ _ exQ [[2], []] _ (HR.out _ hbC).2.1 exQ_fit (by simp [exQ]) (by simp [exQ]) hp3 (fun c hc n hn => by
    have hc2 : c = [2] ∨ c = [] := by simpa using hc
    rcases hc2 with rfl | rfl
    · have : n = 2 := by simpa using hn
      omega
    · cases hn) (by simp) (by simp))
  have HBC := Lib.hid hbC
  have hq0 := (HR.out _ HB10.out).2.2.1
  have hq1 := (HR.out _ HB10.out).2.2.2.1
  clear hbC hp3
  go_wp2_with fail
  refine HC3.out.mono ?_
  rintro e w11 ⟨⟨z, rfl, hz⟩, hb11⟩
  obtain rfl : z = -1 := hz.uniq ex3
  have HB11 := Lib.hid (show Below w8.heap.size w8 w11 from HBC.out.trans ⟨hb11.os, hb11.tape, hb11.output, hb11.size, fun k hk => hb11.block k (Nat.lt_of_lt_of_le hk HBC.out.size)⟩)
  clear hz hb11 HC3 HBC hq0 hq1
  have hbD : Below w8.heap.size w8 (w11.alloc (.cells #[.slice none 0 0] 31)) := HB11.out.alloc HB11.out.size _
  have HC4 := Lib.hid (Check_any 2 _ _ exQ [[]] _ (HR.out _ hbD).2.1 exQ_fit (by simp [exQ]) (by simp [exQ]) (lit_reads2 (cs := [[]]) (rows := [.slice none 0 0]) (heap_alloc_new w11 (.cells #[.slice none 0 0] 31)) (by simp) (fun j d hj => by
    match j, hj with
    | 0, hj => cases hj; exact ⟨_, rfl, .inl ⟨rfl, rfl⟩⟩)) (fun c hc n hn => by
    have hc2 : c = [] := by simpa using hc
    rw [hc2] at hn
    cases hn) (by simp) (by simp))
  have HBD := Lib.hid hbD
  have hq0 := (HR.out _ HB11.out).2.2.1
  have hq1 := (HR.out _ HB11.out).2.2.2.1
  clear hbD
  go_wp2_with fail
  refine HC4.out.mono ?_
  rintro e w12 ⟨⟨z, rfl, hz⟩, hb12⟩
  obtain rfl : z = -1 := hz.uniq ex4
  have HB12 := Lib.hid (show Below w8.heap.size w8 w12 from HBD.out.trans ⟨hb12.os, hb12.tape, hb12.output, hb12.size, fun k hk => hb12.block k (Nat.lt_of_lt_of_le hk HBD.out.size)⟩)
  clear hz hb12 HC4 HBD hq0 hq1
  have HC5 := Lib.hid (Check_any 2 _ (.slice none 0 0) exQ [] _ (HR.out _ HB12.out).2.1 exQ_fit (by simp [exQ]) (by simp [exQ]) ⟨none, 0, rfl, by simp, fun j d hj => by simp at hj⟩ (fun c hc => by cases hc) (by simp) (by simp))
  have hq0 := (HR.out _ HB12.out).2.2.1
  have hq1 := (HR.out _ HB12.out).2.2.2.1
  go_wp2_with fail
  refine HC5.out.mono ?_
  rintro e w13 ⟨⟨z, rfl, hz⟩, hb13⟩
  obtain rfl : z = 0 := hz.uniq ex5
  have HE := Lib.hid (show Below w.heap.size w w13 from (HR.out _ HB12.out).2.2.2.2.trans ⟨hb13.os, hb13.tape, hb13.output, hb13.size, fun k hk => hb13.block k (Nat.lt_of_lt_of_le hk (HR.out _ HB12.out).2.2.2.2.size)⟩)
  clear hz hb13 HC5 hq0 hq1
  go_wp2
  go_ret
  exact ⟨rfl, HE.out⟩
end Go.Proofs.Ytmiiclhhenepiaa
