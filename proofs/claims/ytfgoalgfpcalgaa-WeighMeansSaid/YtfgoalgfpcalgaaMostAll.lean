/-
  Layer 21: the contracts of weigh.AtMost and of its answer for every k, in one form. Own work.
-/
import Derived.Test.YtfgoalgfpcalgaaAtMost
import Derived.Test.YtfgoalgfpcalgaaAtMost0
import Derived.Test.YtfgoalgfpcalgaaRefMost2
namespace Go.Proofs.Ytfgoalgfpcalgaa
set_option linter.unusedVariables false
set_option linter.unusedSimpArgs false
open Go.RowKit

def AmP (cs : List (List Int)) (after : Int) (w : World) (e : Ending) (w' : World) : Prop :=
  ∃ v, e = .returned (.tuple #[v, .int .i64 after]) ∧ RowsAt w' w.heap.size v cs ∧ Below w.heap.size w w'
theorem lit_row (wr : World) (lo : Nat) (hlo : lo ≤ wr.heap.size) : RowsAt ((wr.alloc (.cells #[] 3)).alloc (.cells #[.slice (some ⟨wr.heap.size, 0, none⟩) 0 0] 22)) lo (.slice (some ⟨wr.heap.size + 1, 0, none⟩) 1 1) [[]] := by
  have h := World.ownsRow_lit (base := lo) (e := 22) (size := 1) (wr.alloc (.cells #[] 3)) #[.slice (some ⟨wr.heap.size, 0, none⟩) 0 0] 1 (by simp; omega) (by decide) rfl
  have hr : RowAt (wr.alloc (.cells #[] 3)) lo (.slice (some ⟨wr.heap.size, 0, none⟩) 0 0) [] := RowAt.made wr lo [] hlo (by simp)
  refine ⟨[.slice (some ⟨wr.heap.size, 0, none⟩) 0 0], by simpa using h, fun j c hj => ?_⟩
  match j with
  | 0 => simp at hj; subst hj; exact ⟨_, rfl, hr.alloc _⟩
  | j + 1 => simp at hj
theorem RowsAt.setB {w : World} {lo B : Nat} {v u : Value} {cs : List (List Int)} {cur : Array Value} (h : RowsAt w lo v cs) (hB : w.heap[B]? = some (Obj.cells cur 25 (0, 0))) : RowsAt (w.setCell ⟨B, 0, none⟩ u) lo v cs := by
  have hg : w.grownBy (w.setCell ⟨B, 0, none⟩ u) (some B) := ⟨rfl, rfl, rfl, by simp, fun k _ hk => heap_setCell_other w ⟨B, 0, none⟩ k u (fun e => hk (by simp [e]))⟩
  obtain ⟨rows, h1, h2⟩ := h
  refine ⟨rows, h1.kept hg (.inr (fun e => ?_)), fun j c hj => ?_⟩
  · rcases h1.2 with ⟨rfl, _⟩ | ⟨g, cap, cur2, rfl, _, hg2, _⟩
    · simp [Value.ownBlock] at e
    · simp [Value.ownBlock] at e
      subst e
      rw [hg2] at hB
      simp at hB
  · obtain ⟨r, a, b⟩ := h2 j c hj
    exact ⟨r, a, b.keep fun b0 cur0 hb0 => hg.block b0 (Array.getElem?_eq_some_iff.1 hb0).1 (fun e => by
      simp only [Option.some.injEq] at e
      subst e
      rw [hB] at hb0
      simp at hb0)⟩
set_option maxRecDepth 100000 in
set_option maxHeartbeats 2000000 in
theorem ref_neg (lv : Value) (x : List Int) (k next : Int) (hk : k < 0) (w : World) (hl : SlOf w iV lv x) :
    Calls Try.prog 9 #[lv, .int .i64 k, .int .i64 next] w (AmP [[]] next w) := by
  obtain ⟨la, lcap, rfl, -⟩ := hl
  go_enter Try.func9, Try.ntmps9
  go_wp2
  go_ret2
  exact ⟨_, rfl, lit_row w w.heap.size (Nat.le_refl _), ((Below.refl _ _).alloc (Nat.le_refl _) _).alloc (by simp) _⟩
set_option maxRecDepth 100000 in
set_option maxHeartbeats 2000000 in
theorem ref_ge (lv : Value) (x : List Int) (k next : Int) (hk : 0 ≤ k) (hkn : x.length ≤ k) (w : World) (hl : SlOf w iV lv x) :
    Calls Try.prog 9 #[lv, .int .i64 k, .int .i64 next] w (AmP [] next w) := by
  obtain ⟨la, lcap, rfl, -⟩ := hl
  go_enter Try.func9, Try.ntmps9
  go_wp2
  go_ret2
  exact ⟨_, rfl, ⟨[], World.ownsRow_nil _ _ _ _, fun j c h => by simp at h⟩, Below.refl _ _⟩
set_option maxRecDepth 100000 in
set_option maxHeartbeats 2000000 in
theorem most_neg (lv : Value) (x : List Int) (k next : Int) (hk : k < 0) (w : World) (hl : SlOf w iV lv x) :
    Calls Try.prog 8 #[lv, .int .i64 k, .int .i64 next] w (AmP [[]] next w) := by
  obtain ⟨la, lcap, rfl, -⟩ := hl
  go_enter Try.func8, Try.ntmps8
  go_wp2_with fail
  go_region
  all_goals go_wp2
  all_goals
    refine bodyPost_ret (v := .tuple #[.slice (some ⟨w.heap.size + 1 + 1 + 1 + 1, 0, none⟩) 1 1, .int .i64 next]) (by simp [results, Try.results8, go_sem, *]) rfl ?_
    have h := lit_row (((w.alloc (.cells #[.int .i64 k] 3)).alloc (.cells #[.int .i64 next] 3)).alloc (.cells #[.slice (some ⟨w.heap.size + 1 + 1 + 1 + 1, 0, none⟩) 1 1] 25)) w.heap.size (by simp; omega)
    have hs : ((((w.alloc (.cells #[.int .i64 k] 3)).alloc (.cells #[.int .i64 next] 3)).alloc (.cells #[.slice (some ⟨w.heap.size + 1 + 1 + 1 + 1, 0, none⟩) 1 1] 25)) : World).heap.size = w.heap.size + 1 + 1 + 1 := by simp
    rw [hs] at h
    refine ⟨_, rfl, h, ?_⟩
    exact ((((((Below.refl _ _).alloc (Nat.le_refl _) _).alloc (by simp) _).alloc (by simp; omega) _).alloc (by simp; omega) _).alloc (by simp; omega) _).drew
set_option maxRecDepth 100000 in
set_option maxHeartbeats 2000000 in
theorem most_ge (lv : Value) (x : List Int) (k next : Int) (hk : 0 ≤ k) (hkn : x.length ≤ k) (w : World) (hl : SlOf w iV lv x) :
    Calls Try.prog 8 #[lv, .int .i64 k, .int .i64 next] w (AmP [] next w) := by
  obtain ⟨la, lcap, rfl, -⟩ := hl
  go_enter Try.func8, Try.ntmps8
  go_wp2_with fail
  go_region
  all_goals go_wp2
  all_goals
    refine bodyPost_ret (v := .tuple #[.slice none 0 0, .int .i64 next]) (by simp [results, Try.results8, go_sem, *]) rfl ?_
    refine ⟨_, rfl, ⟨[], World.ownsRow_nil _ _ _ _, fun j c h => by simp at h⟩, ?_⟩
    first
      | exact (((((Below.refl _ _).alloc (Nat.le_refl _) _).alloc (by simp) _).alloc (by simp; omega) _).setCell (by simp only; omega) _).drew
      | exact (((((Below.refl _ _).alloc (Nat.le_refl _) _).alloc (by simp) _).alloc (by simp; omega) _).drew).setCell (by simp only; omega) _
      | exact ((((Below.refl _ _).alloc (Nat.le_refl _) _).alloc (by simp) _).alloc (by simp; omega) _).drew
end Go.Proofs.Ytfgoalgfpcalgaa
