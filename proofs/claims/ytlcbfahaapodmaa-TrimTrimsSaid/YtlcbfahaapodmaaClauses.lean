/-
  Rows of whole numbers in memory, and a row of such rows that a captured variable holds: the contract of the closure that adds a row. Own work.
-/
import Derived.Test.YtlcbfahaapodmaaBase
import Derived.Test.YtlcbfahaapodmaaLaw
import Derived.Laws.OwnMore
import Derived.OwnWalk
import Derived.OneCell
namespace Go.Proofs.Ytlcbfahaapodmaa
set_option linter.unusedVariables false
set_option linter.unusedSimpArgs false
open Go.RowKit

theorem row_info : (Try.prog.info? 27).map (fun i => (i.zero, i.size, i.bytes)) = some (some (.slice none 0 0), 1, 24) := by kernel_rfl
theorem int_info : (Try.prog.info? 3).map (fun i => (i.zero, i.size, i.bytes)) = some (some (.int .i64 0), 1, 8) := by kernel_rfl
def iV (n : Int) : Value := .int .i64 n
/-- v is a slice at the front of a block of its own, from lo on, that reads as the numbers c -/
def RowAt (w : World) (lo : Nat) (v : Value) (c : List Int) : Prop :=
  ∃ b cap cur, v = .slice (some ⟨b, 0, none⟩) c.length cap ∧ lo ≤ b ∧ w.heap[b]? = some (Obj.cells cur 3 (0, 0)) ∧ c.length ≤ cap ∧ cap ≤ 9223372036854775807 ∧ ∀ (j : Nat) n, c[j]? = some n → cur[j]? = some (iV n)
/-- v is a slice of such rows -/
def RowsAt (w : World) (lo : Nat) (v : Value) (cs : List (List Int)) : Prop :=
  ∃ rows, w.ownsRow lo 27 1 v cs.length rows ∧ ∀ (j : Nat) c, cs[j]? = some c → ∃ r, rows[j]? = some r ∧ RowAt w lo r c
/-- block B is a variable that holds such a slice -/
def Cls (w : World) (B : Nat) (cs : List (List Int)) : Prop :=
  ∃ v, w.heap[B]? = some (Obj.cells #[v] 22 (0, 0)) ∧ RowsAt w (B + 1) v cs

theorem RowAt.keep {w w' : World} {lo : Nat} {v : Value} {c : List Int} (h : RowAt w lo v c) (hk : ∀ (b : Nat) (cur : Array Value), w.heap[b]? = some (Obj.cells cur 3 (0, 0)) → w'.heap[b]? = w.heap[b]?) : RowAt w' lo v c := by
  obtain ⟨b, cap, cur, hv, h1, h2, h3⟩ := h
  exact ⟨b, cap, cur, hv, h1, (hk b cur h2).trans h2, h3⟩
theorem RowAt.cells {w : World} {lo : Nat} {v : Value} {c : List Int} (h : RowAt w lo v c) : ∃ b cap, v = .slice (some ⟨b, 0, none⟩) c.length cap ∧ lo ≤ b ∧ b < w.heap.size ∧ c.length ≤ cap ∧ cap ≤ 9223372036854775807 ∧
    ∀ (j : Nat) n, c[j]? = some n → w.cell? ⟨b, j, none⟩ = some (iV n) := by
  obtain ⟨b, cap, cur, hv, h1, h2, h3, h4, h5⟩ := h
  exact ⟨b, cap, hv, h1, (Array.getElem?_eq_some_iff.1 h2).1, h3, h4, fun j n hj => by rw [cell_of_row w b j cur 3 (0, 0) h2]; exact h5 j n hj⟩

/-- a row made by the walk's buildSlice -/
theorem RowAt.made (w : World) (lo : Nat) (c : List Int) (hlo : lo ≤ w.heap.size) (hc : c.length ≤ 1000000) : RowAt (w.alloc (.cells (c.map iV).toArray 3)) lo (.slice (some ⟨w.heap.size, 0, none⟩) c.length c.length) c :=
  ⟨w.heap.size, c.length, (c.map iV).toArray, rfl, hlo, heap_alloc_new w _, Nat.le_refl _, by omega, fun j n hj => by simp [hj]⟩

theorem rows_add {w w1 : World} {B : Nat} {v v' r : Value} {cs : List (List Int)} {c : List Int} {rows : List Value} (hv : w.heap[B]? = some (Obj.cells #[v] 22 (0, 0)))
    (hown : w.ownsRow (B + 1) 27 1 v cs.length rows) (hrows : ∀ (j : Nat) c, cs[j]? = some c → ∃ r, rows[j]? = some r ∧ RowAt w (B + 1) r c) (hr : RowAt w (B + 1) r c)
    (ho : w1.ownsRow (B + 1) 27 1 v' (cs.length + 1) (rows ++ [r])) (hg : w.grownBy w1 v.ownBlock) : Cls (w1.setCell ⟨B, 0, none⟩ v') B (cs ++ [c]) := by
  have hBlt : B < w.heap.size := (Array.getElem?_eq_some_iff.1 hv).1
  have hBown : some B ≠ v.ownBlock := fun e => by have := (hown.lt B e.symm).1; omega
  have hB1 : w1.heap[B]? = some (Obj.cells #[v] 22 (0, 0)) := (hg.block B hBlt hBown).trans hv
  have hB2 : (w1.setCell ⟨B, 0, none⟩ v').heap[B]? = some (Obj.cells #[v'] 22 (0, 0)) := by
    have := heap_setCell_same w1 B 0 #[v] 22 v' hB1
    simpa using this
  have hsg : w1.grownBy (w1.setCell ⟨B, 0, none⟩ v') (some B) := ⟨rfl, rfl, rfl, by simp, fun k _ hk => heap_setCell_other w1 ⟨B, 0, none⟩ k v' (fun e => hk (by simp [e]))⟩
  have hne' : v'.ownBlock = none ∨ v'.ownBlock ≠ some B := .inr (fun e => by have := (ho.lt B e).1; omega)
  have hkeep : ∀ (b : Nat) (cur : Array Value), w.heap[b]? = some (Obj.cells cur 3 (0, 0)) → (w1.setCell ⟨B, 0, none⟩ v').heap[b]? = w.heap[b]? := by
    intro b cur hb
    have hblt : b < w.heap.size := (Array.getElem?_eq_some_iff.1 hb).1
    have hbB : b ≠ B := fun e => by
      subst e
      rw [hv] at hb
      simp at hb
    have hbo : some b ≠ v.ownBlock := fun e => by
      rcases hown.2 with ⟨rfl, _⟩ | ⟨g, cap, cur2, rfl, _, hg2, _⟩
      · simp [Value.ownBlock] at e
      · simp [Value.ownBlock] at e
        subst e
        rw [hg2] at hb
        simp at hb
    rw [hsg.block b (Nat.lt_of_lt_of_le hblt hg.size) (by simpa using hbB), hg.block b hblt hbo]
  refine ⟨v', hB2, rows ++ [r], by simpa using ho.kept hsg hne', fun j d hj => ?_⟩
  have hlen : rows.length = cs.length := by have := hown.1; omega
  by_cases hlt : j < cs.length
  · rw [List.getElem?_append_left hlt] at hj
    obtain ⟨r0, h1, h2⟩ := hrows j d hj
    exact ⟨r0, by rw [List.getElem?_append_left (by omega)]; exact h1, h2.keep hkeep⟩
  · rw [List.getElem?_append_right (by omega)] at hj
    have hj0 : j - cs.length = 0 := by
      have := (List.getElem?_eq_some_iff.1 hj).1
      simp at this; omega
    rw [hj0] at hj
    simp at hj
    subst hj
    exact ⟨r, by rw [List.getElem?_append_right (by omega), hlen, hj0]; rfl, hr.keep hkeep⟩

end Go.Proofs.Ytlcbfahaapodmaa
