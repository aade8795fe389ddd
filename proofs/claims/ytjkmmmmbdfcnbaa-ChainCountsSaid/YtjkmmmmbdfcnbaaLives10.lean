/-
  Layer 10: the document's example. Own work.
-/
import Derived.Test.YtjkmmmmbdfcnbaaMerge10
import Derived.Test.YtjkmmmmbdfcnbaaGet10
namespace Go.Proofs.Ytjkmmmmbdfcnbaa
set_option linter.unusedVariables false
set_option linter.unusedSimpArgs false
open Go.RowKit

def exC : Pm := ⟨true, ⟨#[103]⟩, ⟨#[112]⟩, ⟨#[49]⟩, ⟨#[]⟩, ⟨#[97]⟩, ⟨#[]⟩, ⟨#[]⟩, [⟨⟨#[112]⟩, ⟨#[50]⟩⟩], [], []⟩
def exP : Pm := ⟨false, ⟨#[]⟩, ⟨#[]⟩, ⟨#[]⟩, ⟨#[]⟩, ⟨#[112]⟩, ⟨#[]⟩, ⟨#[]⟩, [⟨⟨#[112]⟩, ⟨#[49]⟩⟩, ⟨⟨#[113]⟩, ⟨#[49]⟩⟩], [], []⟩
theorem exC_ok : OkP exC := ⟨by decide, by decide, by decide, fun p hp => by simp [exC] at hp; subst hp; decide, fun d hd => by simp [exC] at hd, fun d hd => by simp [exC] at hd⟩
theorem exP_ok : OkP exP := ⟨by decide, by decide, by decide, fun p hp => by simp [exP] at hp; rcases hp with rfl | rfl <;> decide, fun d hd => by simp [exP] at hd, fun d hd => by simp [exP] at hd⟩
theorem ex_g : (mergeM exC exP).g = ⟨#[103]⟩ := by decide +kernel
theorem ex_v : (mergeM exC exP).v = ⟨#[49]⟩ := by decide +kernel
theorem ex_p : getL (mergeM exC exP).ps ⟨#[112]⟩ = some ⟨#[50]⟩ := by decide +kernel
theorem ex_q : getL (mergeM exC exP).ps ⟨#[113]⟩ = some ⟨#[49]⟩ := by decide +kernel
theorem ex_val {a b d : Value} : pmV a b d (mergeM exC exP) = .agg #[.bool true, .string ⟨#[103]⟩, .string ⟨#[112]⟩, .string ⟨#[49]⟩, .string ⟨#[103]⟩, .string ⟨#[97]⟩, .string ⟨#[49]⟩, .string ⟨#[]⟩, a, b, d] := by
  unfold pmV
  rw [ex_g, ex_v]
  rfl
set_option maxRecDepth 100000 in
set_option maxHeartbeats 8000000 in
theorem lives10 (w : World) : Calls Try.prog 7 #[] w (BoolQ2 true w) := by
  have hb5 : Below w.heap.size w (((((w.alloc (.cells #[.string ⟨#[103]⟩, .string ⟨#[112]⟩, .string ⟨#[49]⟩] 23)).alloc (.cells #[.string ⟨#[112]⟩, .string ⟨#[50]⟩] 36)).alloc (.cells #[.bool true, .string ⟨#[103]⟩, .string ⟨#[112]⟩, .string ⟨#[49]⟩, .string ⟨#[]⟩, .string ⟨#[97]⟩, .string ⟨#[]⟩, .string ⟨#[]⟩, .slice (some ⟨w.heap.size + 1, 0, none⟩) 1 1, .slice none 0 0, .slice none 0 0] 27)).alloc (.cells #[.string ⟨#[112]⟩, .string ⟨#[49]⟩, .string ⟨#[113]⟩, .string ⟨#[49]⟩] 36)).alloc (.cells #[.bool false, .string ⟨#[]⟩, .string ⟨#[]⟩, .string ⟨#[]⟩, .string ⟨#[]⟩, .string ⟨#[112]⟩, .string ⟨#[]⟩, .string ⟨#[]⟩, .slice (some ⟨w.heap.size + 1 + 1 + 1, 0, none⟩) 2 2, .slice none 0 0, .slice none 0 0] 27)) := (((((Below.refl w.heap.size w).alloc (Nat.le_refl _) _).alloc (by simp) _).alloc (by simp <;> omega) _).alloc (by simp <;> omega) _).alloc (by simp <;> omega) _
  have h1 : (((((w.alloc (.cells #[.string ⟨#[103]⟩, .string ⟨#[112]⟩, .string ⟨#[49]⟩] 23)).alloc (.cells #[.string ⟨#[112]⟩, .string ⟨#[50]⟩] 36)).alloc (.cells #[.bool true, .string ⟨#[103]⟩, .string ⟨#[112]⟩, .string ⟨#[49]⟩, .string ⟨#[]⟩, .string ⟨#[97]⟩, .string ⟨#[]⟩, .string ⟨#[]⟩, .slice (some ⟨w.heap.size + 1, 0, none⟩) 1 1, .slice none 0 0, .slice none 0 0] 27)).alloc (.cells #[.string ⟨#[112]⟩, .string ⟨#[49]⟩, .string ⟨#[113]⟩, .string ⟨#[49]⟩] 36)).alloc (.cells #[.bool false, .string ⟨#[]⟩, .string ⟨#[]⟩, .string ⟨#[]⟩, .string ⟨#[]⟩, .string ⟨#[112]⟩, .string ⟨#[]⟩, .string ⟨#[]⟩, .slice (some ⟨w.heap.size + 1 + 1 + 1, 0, none⟩) 2 2, .slice none 0 0, .slice none 0 0] 27)).heap[w.heap.size + 1]? = some (.cells #[.string ⟨#[112]⟩, .string ⟨#[50]⟩] 36 (0, 0)) := by
    have := heap_alloc_new (w.alloc (.cells #[.string ⟨#[103]⟩, .string ⟨#[112]⟩, .string ⟨#[49]⟩] 23)) (.cells #[.string ⟨#[112]⟩, .string ⟨#[50]⟩] 36)
    refine (Below.heap_alloc _ _ _ (by simp <;> omega)).trans ((Below.heap_alloc _ _ _ (by simp <;> omega)).trans ((Below.heap_alloc _ _ _ (by simp)).trans ?_))
    simpa using this
  have h2 : (((((w.alloc (.cells #[.string ⟨#[103]⟩, .string ⟨#[112]⟩, .string ⟨#[49]⟩] 23)).alloc (.cells #[.string ⟨#[112]⟩, .string ⟨#[50]⟩] 36)).alloc (.cells #[.bool true, .string ⟨#[103]⟩, .string ⟨#[112]⟩, .string ⟨#[49]⟩, .string ⟨#[]⟩, .string ⟨#[97]⟩, .string ⟨#[]⟩, .string ⟨#[]⟩, .slice (some ⟨w.heap.size + 1, 0, none⟩) 1 1, .slice none 0 0, .slice none 0 0] 27)).alloc (.cells #[.string ⟨#[112]⟩, .string ⟨#[49]⟩, .string ⟨#[113]⟩, .string ⟨#[49]⟩] 36)).alloc (.cells #[.bool false, .string ⟨#[]⟩, .string ⟨#[]⟩, .string ⟨#[]⟩, .string ⟨#[]⟩, .string ⟨#[112]⟩, .string ⟨#[]⟩, .string ⟨#[]⟩, .slice (some ⟨w.heap.size + 1 + 1 + 1, 0, none⟩) 2 2, .slice none 0 0, .slice none 0 0] 27)).heap[w.heap.size + 1 + 1]? = some (.cells #[.bool true, .string ⟨#[103]⟩, .string ⟨#[112]⟩, .string ⟨#[49]⟩, .string ⟨#[]⟩, .string ⟨#[97]⟩, .string ⟨#[]⟩, .string ⟨#[]⟩, .slice (some ⟨w.heap.size + 1, 0, none⟩) 1 1, .slice none 0 0, .slice none 0 0] 27 (0, 0)) := by
    have := heap_alloc_new ((w.alloc (.cells #[.string ⟨#[103]⟩, .string ⟨#[112]⟩, .string ⟨#[49]⟩] 23)).alloc (.cells #[.string ⟨#[112]⟩, .string ⟨#[50]⟩] 36)) (.cells #[.bool true, .string ⟨#[103]⟩, .string ⟨#[112]⟩, .string ⟨#[49]⟩, .string ⟨#[]⟩, .string ⟨#[97]⟩, .string ⟨#[]⟩, .string ⟨#[]⟩, .slice (some ⟨w.heap.size + 1, 0, none⟩) 1 1, .slice none 0 0, .slice none 0 0] 27)
    refine (Below.heap_alloc _ _ _ (by simp <;> omega)).trans ((Below.heap_alloc _ _ _ (by simp)).trans ?_)
    simpa using this
  have h3 : (((((w.alloc (.cells #[.string ⟨#[103]⟩, .string ⟨#[112]⟩, .string ⟨#[49]⟩] 23)).alloc (.cells #[.string ⟨#[112]⟩, .string ⟨#[50]⟩] 36)).alloc (.cells #[.bool true, .string ⟨#[103]⟩, .string ⟨#[112]⟩, .string ⟨#[49]⟩, .string ⟨#[]⟩, .string ⟨#[97]⟩, .string ⟨#[]⟩, .string ⟨#[]⟩, .slice (some ⟨w.heap.size + 1, 0, none⟩) 1 1, .slice none 0 0, .slice none 0 0] 27)).alloc (.cells #[.string ⟨#[112]⟩, .string ⟨#[49]⟩, .string ⟨#[113]⟩, .string ⟨#[49]⟩] 36)).alloc (.cells #[.bool false, .string ⟨#[]⟩, .string ⟨#[]⟩, .string ⟨#[]⟩, .string ⟨#[]⟩, .string ⟨#[112]⟩, .string ⟨#[]⟩, .string ⟨#[]⟩, .slice (some ⟨w.heap.size + 1 + 1 + 1, 0, none⟩) 2 2, .slice none 0 0, .slice none 0 0] 27)).heap[w.heap.size + 1 + 1 + 1]? = some (.cells #[.string ⟨#[112]⟩, .string ⟨#[49]⟩, .string ⟨#[113]⟩, .string ⟨#[49]⟩] 36 (0, 0)) := by
    have := heap_alloc_new (((w.alloc (.cells #[.string ⟨#[103]⟩, .string ⟨#[112]⟩, .string ⟨#[49]⟩] 23)).alloc (.cells #[.string ⟨#[112]⟩, .string ⟨#[50]⟩] 36)).alloc (.cells #[.bool true, .string ⟨#[103]⟩, .string ⟨#[112]⟩, .string ⟨#[49]⟩, .string ⟨#[]⟩, .string ⟨#[97]⟩, .string ⟨#[]⟩, .string ⟨#[]⟩, .slice (some ⟨w.heap.size + 1, 0, none⟩) 1 1, .slice none 0 0, .slice none 0 0] 27)) (.cells #[.string ⟨#[112]⟩, .string ⟨#[49]⟩, .string ⟨#[113]⟩, .string ⟨#[49]⟩] 36)
    refine (Below.heap_alloc _ _ _ (by simp)).trans ?_
    simpa using this
  have h4 : (((((w.alloc (.cells #[.string ⟨#[103]⟩, .string ⟨#[112]⟩, .string ⟨#[49]⟩] 23)).alloc (.cells #[.string ⟨#[112]⟩, .string ⟨#[50]⟩] 36)).alloc (.cells #[.bool true, .string ⟨#[103]⟩, .string ⟨#[112]⟩, .string ⟨#[49]⟩, .string ⟨#[]⟩, .string ⟨#[97]⟩, .string ⟨#[]⟩, .string ⟨#[]⟩, .slice (some ⟨w.heap.size + 1, 0, none⟩) 1 1, .slice none 0 0, .slice none 0 0] 27)).alloc (.cells #[.string ⟨#[112]⟩, .string ⟨#[49]⟩, .string ⟨#[113]⟩, .string ⟨#[49]⟩] 36)).alloc (.cells #[.bool false, .string ⟨#[]⟩, .string ⟨#[]⟩, .string ⟨#[]⟩, .string ⟨#[]⟩, .string ⟨#[112]⟩, .string ⟨#[]⟩, .string ⟨#[]⟩, .slice (some ⟨w.heap.size + 1 + 1 + 1, 0, none⟩) 2 2, .slice none 0 0, .slice none 0 0] 27)).heap[w.heap.size + 1 + 1 + 1 + 1]? = some (.cells #[.bool false, .string ⟨#[]⟩, .string ⟨#[]⟩, .string ⟨#[]⟩, .string ⟨#[]⟩, .string ⟨#[112]⟩, .string ⟨#[]⟩, .string ⟨#[]⟩, .slice (some ⟨w.heap.size + 1 + 1 + 1, 0, none⟩) 2 2, .slice none 0 0, .slice none 0 0] 27 (0, 0)) := by
    have := heap_alloc_new ((((w.alloc (.cells #[.string ⟨#[103]⟩, .string ⟨#[112]⟩, .string ⟨#[49]⟩] 23)).alloc (.cells #[.string ⟨#[112]⟩, .string ⟨#[50]⟩] 36)).alloc (.cells #[.bool true, .string ⟨#[103]⟩, .string ⟨#[112]⟩, .string ⟨#[49]⟩, .string ⟨#[]⟩, .string ⟨#[97]⟩, .string ⟨#[]⟩, .string ⟨#[]⟩, .slice (some ⟨w.heap.size + 1, 0, none⟩) 1 1, .slice none 0 0, .slice none 0 0] 27)).alloc (.cells #[.string ⟨#[112]⟩, .string ⟨#[49]⟩, .string ⟨#[113]⟩, .string ⟨#[49]⟩] 36)) (.cells #[.bool false, .string ⟨#[]⟩, .string ⟨#[]⟩, .string ⟨#[]⟩, .string ⟨#[]⟩, .string ⟨#[112]⟩, .string ⟨#[]⟩, .string ⟨#[]⟩, .slice (some ⟨w.heap.size + 1 + 1 + 1, 0, none⟩) 2 2, .slice none 0 0, .slice none 0 0] 27)
    simpa using this
  have HB5 := Lib.hid hb5
  clear hb5
  go_enter Try.func7, Try.ntmps7
  go_upto_region 4 with fail
  generalize (((((w.alloc (.cells #[.string ⟨#[103]⟩, .string ⟨#[112]⟩, .string ⟨#[49]⟩] 23)).alloc (.cells #[.string ⟨#[112]⟩, .string ⟨#[50]⟩] 36)).alloc (.cells #[.bool true, .string ⟨#[103]⟩, .string ⟨#[112]⟩, .string ⟨#[49]⟩, .string ⟨#[]⟩, .string ⟨#[97]⟩, .string ⟨#[]⟩, .string ⟨#[]⟩, .slice (some ⟨w.heap.size + 1, 0, none⟩) 1 1, .slice none 0 0, .slice none 0 0] 27)).alloc (.cells #[.string ⟨#[112]⟩, .string ⟨#[49]⟩, .string ⟨#[113]⟩, .string ⟨#[49]⟩] 36)).alloc (.cells #[.bool false, .string ⟨#[]⟩, .string ⟨#[]⟩, .string ⟨#[]⟩, .string ⟨#[]⟩, .string ⟨#[112]⟩, .string ⟨#[]⟩, .string ⟨#[]⟩, .slice (some ⟨w.heap.size + 1 + 1 + 1, 0, none⟩) 2 2, .slice none 0 0, .slice none 0 0] 27)) = w5 at h1 h2 h3 h4 HB5 ⊢
  have c0 : w5.cell? ⟨(w.heap.size + 1 + 1), 0, none⟩ = some (.bool true) := by rw [cell_of_row w5 (w.heap.size + 1 + 1) 0 _ _ (0, 0) h2]; rfl
  have c1 : w5.cell? ⟨(w.heap.size + 1 + 1), 1, none⟩ = some (.string ⟨#[103]⟩) := by rw [cell_of_row w5 (w.heap.size + 1 + 1) 1 _ _ (0, 0) h2]; rfl
  have c2 : w5.cell? ⟨(w.heap.size + 1 + 1), 2, none⟩ = some (.string ⟨#[112]⟩) := by rw [cell_of_row w5 (w.heap.size + 1 + 1) 2 _ _ (0, 0) h2]; rfl
  have c3 : w5.cell? ⟨(w.heap.size + 1 + 1), 3, none⟩ = some (.string ⟨#[49]⟩) := by rw [cell_of_row w5 (w.heap.size + 1 + 1) 3 _ _ (0, 0) h2]; rfl
  have c4 : w5.cell? ⟨(w.heap.size + 1 + 1), 4, none⟩ = some (.string ⟨#[]⟩) := by rw [cell_of_row w5 (w.heap.size + 1 + 1) 4 _ _ (0, 0) h2]; rfl
  have c5 : w5.cell? ⟨(w.heap.size + 1 + 1), 5, none⟩ = some (.string ⟨#[97]⟩) := by rw [cell_of_row w5 (w.heap.size + 1 + 1) 5 _ _ (0, 0) h2]; rfl
  have c6 : w5.cell? ⟨(w.heap.size + 1 + 1), 6, none⟩ = some (.string ⟨#[]⟩) := by rw [cell_of_row w5 (w.heap.size + 1 + 1) 6 _ _ (0, 0) h2]; rfl
  have c7 : w5.cell? ⟨(w.heap.size + 1 + 1), 7, none⟩ = some (.string ⟨#[]⟩) := by rw [cell_of_row w5 (w.heap.size + 1 + 1) 7 _ _ (0, 0) h2]; rfl
  have c8 : w5.cell? ⟨(w.heap.size + 1 + 1), 8, none⟩ = some (.slice (some ⟨w.heap.size + 1, 0, none⟩) 1 1) := by rw [cell_of_row w5 (w.heap.size + 1 + 1) 8 _ _ (0, 0) h2]; rfl
  have c9 : w5.cell? ⟨(w.heap.size + 1 + 1), 9, none⟩ = some (.slice none 0 0) := by rw [cell_of_row w5 (w.heap.size + 1 + 1) 9 _ _ (0, 0) h2]; rfl
  have c10 : w5.cell? ⟨(w.heap.size + 1 + 1), 10, none⟩ = some (.slice none 0 0) := by rw [cell_of_row w5 (w.heap.size + 1 + 1) 10 _ _ (0, 0) h2]; rfl
  have p0 : w5.cell? ⟨(w.heap.size + 1 + 1 + 1 + 1), 0, none⟩ = some (.bool false) := by rw [cell_of_row w5 (w.heap.size + 1 + 1 + 1 + 1) 0 _ _ (0, 0) h4]; rfl
  have p1 : w5.cell? ⟨(w.heap.size + 1 + 1 + 1 + 1), 1, none⟩ = some (.string ⟨#[]⟩) := by rw [cell_of_row w5 (w.heap.size + 1 + 1 + 1 + 1) 1 _ _ (0, 0) h4]; rfl
  have p2 : w5.cell? ⟨(w.heap.size + 1 + 1 + 1 + 1), 2, none⟩ = some (.string ⟨#[]⟩) := by rw [cell_of_row w5 (w.heap.size + 1 + 1 + 1 + 1) 2 _ _ (0, 0) h4]; rfl
  have p3 : w5.cell? ⟨(w.heap.size + 1 + 1 + 1 + 1), 3, none⟩ = some (.string ⟨#[]⟩) := by rw [cell_of_row w5 (w.heap.size + 1 + 1 + 1 + 1) 3 _ _ (0, 0) h4]; rfl
  have p4 : w5.cell? ⟨(w.heap.size + 1 + 1 + 1 + 1), 4, none⟩ = some (.string ⟨#[]⟩) := by rw [cell_of_row w5 (w.heap.size + 1 + 1 + 1 + 1) 4 _ _ (0, 0) h4]; rfl
  have p5 : w5.cell? ⟨(w.heap.size + 1 + 1 + 1 + 1), 5, none⟩ = some (.string ⟨#[112]⟩) := by rw [cell_of_row w5 (w.heap.size + 1 + 1 + 1 + 1) 5 _ _ (0, 0) h4]; rfl
  have p6 : w5.cell? ⟨(w.heap.size + 1 + 1 + 1 + 1), 6, none⟩ = some (.string ⟨#[]⟩) := by rw [cell_of_row w5 (w.heap.size + 1 + 1 + 1 + 1) 6 _ _ (0, 0) h4]; rfl
  have p7 : w5.cell? ⟨(w.heap.size + 1 + 1 + 1 + 1), 7, none⟩ = some (.string ⟨#[]⟩) := by rw [cell_of_row w5 (w.heap.size + 1 + 1 + 1 + 1) 7 _ _ (0, 0) h4]; rfl
  have p8 : w5.cell? ⟨(w.heap.size + 1 + 1 + 1 + 1), 8, none⟩ = some (.slice (some ⟨w.heap.size + 1 + 1 + 1, 0, none⟩) 2 2) := by rw [cell_of_row w5 (w.heap.size + 1 + 1 + 1 + 1) 8 _ _ (0, 0) h4]; rfl
  have p9 : w5.cell? ⟨(w.heap.size + 1 + 1 + 1 + 1), 9, none⟩ = some (.slice none 0 0) := by rw [cell_of_row w5 (w.heap.size + 1 + 1 + 1 + 1) 9 _ _ (0, 0) h4]; rfl
  have p10 : w5.cell? ⟨(w.heap.size + 1 + 1 + 1 + 1), 10, none⟩ = some (.slice none 0 0) := by rw [cell_of_row w5 (w.heap.size + 1 + 1 + 1 + 1) 10 _ _ (0, 0) h4]; rfl
  have hrc : RdP w5 (.slice (some ⟨w.heap.size + 1, 0, none⟩) 1 1) (.slice none 0 0) (.slice none 0 0) exC := ⟨.inr ⟨⟨w.heap.size + 1, 0, none⟩, 1, rfl, by decide, by decide, fun i x hx => by
    match i with
    | 0 =>
      simp [exC] at hx; subst hx
      exact ⟨by show w5.cell? ⟨w.heap.size + 1, 0, none⟩ = _; rw [cell_of_row w5 _ 0 _ _ (0, 0) h1]; rfl, by show w5.cell? ⟨w.heap.size + 1, 0 + 1, none⟩ = _; rw [cell_of_row w5 _ (0 + 1) _ _ (0, 0) h1]; rfl⟩
    | i + 1 => simp [exC] at hx⟩, .inl ⟨rfl, rfl⟩, .inl ⟨rfl, rfl⟩⟩
  have hrp : RdP w5 (.slice (some ⟨w.heap.size + 1 + 1 + 1, 0, none⟩) 2 2) (.slice none 0 0) (.slice none 0 0) exP := ⟨.inr ⟨⟨w.heap.size + 1 + 1 + 1, 0, none⟩, 2, rfl, by decide, by decide, fun i x hx => by
    match i with
    | 0 =>
      simp [exP] at hx; subst hx
      exact ⟨by show w5.cell? ⟨w.heap.size + 1 + 1 + 1, 0, none⟩ = _; rw [cell_of_row w5 _ 0 _ _ (0, 0) h3]; rfl, by show w5.cell? ⟨w.heap.size + 1 + 1 + 1, 0 + 1, none⟩ = _; rw [cell_of_row w5 _ (0 + 1) _ _ (0, 0) h3]; rfl⟩
    | 1 =>
      simp [exP] at hx; subst hx
      exact ⟨by show w5.cell? ⟨w.heap.size + 1 + 1 + 1, 0 + 2, none⟩ = _; rw [cell_of_row w5 _ (0 + 2) _ _ (0, 0) h3]; rfl, by show w5.cell? ⟨w.heap.size + 1 + 1 + 1, 0 + 2 + 1, none⟩ = _; rw [cell_of_row w5 _ (0 + 2 + 1) _ _ (0, 0) h3]; rfl⟩
    | i + 2 => simp [exP] at hx⟩, .inl ⟨rfl, rfl⟩, .inl ⟨rfl, rfl⟩⟩
  have hop : Calls Try.prog 8 #[.agg #[.bool true, .string ⟨#[103]⟩, .string ⟨#[112]⟩, .string ⟨#[49]⟩, .string ⟨#[]⟩, .string ⟨#[97]⟩, .string ⟨#[]⟩, .string ⟨#[]⟩, .slice (some ⟨w.heap.size + 1, 0, none⟩) 1 1, .slice none 0 0, .slice none 0 0], .agg #[.bool false, .string ⟨#[]⟩, .string ⟨#[]⟩, .string ⟨#[]⟩, .string ⟨#[]⟩, .string ⟨#[112]⟩, .string ⟨#[]⟩, .string ⟨#[]⟩, .slice (some ⟨w.heap.size + 1 + 1 + 1, 0, none⟩) 2 2, .slice none 0 0, .slice none 0 0]] w5 (MgO exC exP w5) := Merge_any exC exP _ _ _ _ _ _ w5 hrc hrp exC_ok exP_ok
  have HOP := Lib.hid hop
  clear hop hrc hrp h1 h2 h3 h4
  go_wp2_with fail
  refine HOP.out.mono ?_
  rintro e w6 ⟨va, vb, vd, he, hown, hm, hd, hb6⟩
  have he2 := he.trans (congrArg Ending.returned ex_val)
  subst he2
  have hrd : RdPs w6 va (mergeM exC exP).ps := RdPs.of_own hown
  obtain ⟨ua, uc, hva⟩ := RdSl.shape hrd
  obtain ⟨ba, bc, hvb⟩ := hm.shape
  obtain ⟨da, dc, hvd⟩ := hd.shape
  generalize hn : (mergeM exC exP).ps.length = un at hva
  generalize (mergeM exC exP).ms.length = bn at hvb
  generalize (mergeM exC exP).ds.length = dn at hvd
  subst hva hvb hvd
  have HRD := Lib.hid hrd
  have HB6 := Lib.hid (HB5.out.trans (hb6.mono HB5.out.size))
  clear he hown hm hd hb6 hn hrd HOP c0 c1 c2 c3 c4 c5 c6 c7 c8 c9 c10 p0 p1 p2 p3 p4 p5 p6 p7 p8 p9 p10
  have hbb : Below w6.heap.size w6 (w6.alloc (.cells #[.bool true, .string ⟨#[103]⟩, .string ⟨#[112]⟩, .string ⟨#[49]⟩, .string ⟨#[103]⟩, .string ⟨#[97]⟩, .string ⟨#[49]⟩, .string ⟨#[]⟩, .slice ua un uc, .slice ba bn bc, .slice da dn dc] 27)) := (Below.refl _ _).alloc (Nat.le_refl _) _
  have hnew := heap_alloc_new w6 (.cells #[.bool true, .string ⟨#[103]⟩, .string ⟨#[112]⟩, .string ⟨#[49]⟩, .string ⟨#[103]⟩, .string ⟨#[97]⟩, .string ⟨#[49]⟩, .string ⟨#[]⟩, .slice ua un uc, .slice ba bn bc, .slice da dn dc] 27)
  have HBB := Lib.hid hbb
  clear hbb
  go_upto_region 5 with fail
  generalize w6.alloc (.cells #[.bool true, .string ⟨#[103]⟩, .string ⟨#[112]⟩, .string ⟨#[49]⟩, .string ⟨#[103]⟩, .string ⟨#[97]⟩, .string ⟨#[49]⟩, .string ⟨#[]⟩, .slice ua un uc, .slice ba bn bc, .slice da dn dc] 27) = w7 at hnew HBB ⊢
  obtain ⟨M, hM⟩ : ∃ b, b = w6.heap.size := ⟨_, rfl⟩
  rw [← hM] at hnew ⊢
  clear hM
  have HN := Lib.hid hnew
  have HR7 := Lib.hid (HRD.out.below HBB.out (Nat.le_refl _))
  have HB7 := Lib.hid (HB6.out.trans (HBB.out.mono HB6.out.size))
  have m8 : w7.cell? ⟨M, 8, none⟩ = some (.slice ua un uc) := by rw [cell_of_row w7 M 8 _ _ (0, 0) hnew]; rfl
  have hop := Get_any (mergeM exC exP).ps ⟨#[112]⟩ _ w7 HR7.out
  unfold GetP at hop
  rw [ex_p] at hop
  have HOP := Lib.hid hop
  clear hnew hop
  go_wp2_with fail
  refine HOP.out.mono ?_
  rintro e w8 ⟨rfl, hb8⟩
  have HN8 := Lib.hid ((hb8.block M (Array.getElem?_eq_some_iff.1 HN.out).1).trans HN.out)
  have HB8 := Lib.hid (HB7.out.trans (hb8.mono HB7.out.size))
  have n8 : w8.cell? ⟨M, 8, none⟩ = some (.slice ua un uc) := by rw [cell_of_row w8 M 8 _ _ (0, 0) HN8.out]; rfl
  have hop := Get_any (mergeM exC exP).ps ⟨#[113]⟩ _ w8 (HR7.out.below hb8 (Nat.le_refl _))
  unfold GetP at hop
  rw [ex_q] at hop
  have HOP2 := Lib.hid hop
  clear hop hb8 m8 HOP
  go_wp2_with fail
  refine HOP2.out.mono ?_
  rintro e w9 ⟨rfl, hb9⟩
  have HN9 := Lib.hid ((hb9.block M (Array.getElem?_eq_some_iff.1 HN8.out).1).trans HN8.out)
  have HB9 := Lib.hid (HB8.out.trans (hb9.mono HB8.out.size))
  have q4 : w9.cell? ⟨M, 4, none⟩ = some (.string ⟨#[103]⟩) := by rw [cell_of_row w9 M 4 _ _ (0, 0) HN9.out]; rfl
  have q6 : w9.cell? ⟨M, 6, none⟩ = some (.string ⟨#[49]⟩) := by rw [cell_of_row w9 M 6 _ _ (0, 0) HN9.out]; rfl
  clear n8 hb9 HOP2
  dsimp only [Option.getD, Option.isSome]
  go_wp2
  go_ret
  exact ⟨rfl, HB9.out⟩
end Go.Proofs.Ytjkmmmmbdfcnbaa
