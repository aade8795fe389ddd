/-
  Layer 29: lives: the document's example. Own work.
-/
import Derived.Test.YtlcbfahaapodmaaTm29
namespace Go.Proofs.Ytlcbfahaapodmaa
set_option linter.unusedVariables false
set_option linter.unusedSimpArgs false
open Go.RowKit

def exC : List (List Int) := [[1, 2], [-1], [2, 3], [2, 3, 4]]
theorem ex_may : mayQ 4 exC = 0 := by decide +kernel
theorem ex_size : sizeC exC ≤ 1000000 := by decide +kernel
theorem ex_C : (trimM (4 : Int).toNat exC).C = [] := by decide +kernel
theorem ex_fx : (trimM (4 : Int).toNat exC).fx = [-1, 2] := by decide +kernel
/-- a row that was just made -/
theorem reads_new {wx : World} {b : Nat} {t : TypeId} {l : List Int} (hb : wx.heap[b]? = some (.cells (l.map iV).toArray t (0, 0))) (hl : l.length ≤ 1000) : Reads wx iV (.slice (some ⟨b, 0, none⟩) l.length l.length) l := by
  refine .inr ⟨⟨b, 0, none⟩, l.length, rfl, Nat.le_refl _, by omega, fun j x hj => ?_⟩
  have e : (⟨b, 0, none⟩ : Addr).add j = ⟨b, j, none⟩ := by unfold Addr.add; split <;> simp_all
  rw [e, cell_of_row wx b j _ _ (0, 0) hb]
  simp [hj]
theorem upw_alloc (n : Nat) (w : World) (o : Obj) : UpW n w (w.alloc o) := fun b _ hb => Below.heap_alloc _ _ _ hb
/-- the example in memory -/
def exW (w : World) : World := ((((w.alloc (.cells #[.int .i64 1, .int .i64 2] 3)).alloc (.cells #[.int .i64 (-1)] 3)).alloc (.cells #[.int .i64 2, .int .i64 3] 3)).alloc (.cells #[.int .i64 2, .int .i64 3, .int .i64 4] 3)).alloc
  (.cells #[.slice (some ⟨w.heap.size, 0, none⟩) 2 2, .slice (some ⟨w.heap.size + 1, 0, none⟩) 1 1, .slice (some ⟨w.heap.size + 1 + 1, 0, none⟩) 2 2, .slice (some ⟨w.heap.size + 1 + 1 + 1, 0, none⟩) 3 3] 27)
theorem exW_below (w : World) : Below w.heap.size w (exW w) :=
  (((((Below.refl w.heap.size w).alloc (Nat.le_refl _) _).alloc (by simp) _).alloc (by simp; omega) _).alloc (by simp; omega) _).alloc (by simp; omega) _
theorem exW_reads (w : World) : Reads2 (exW w) (.slice (some ⟨w.heap.size + 1 + 1 + 1 + 1, 0, none⟩) 4 4) exC := by
  have h0 : (exW w).heap[w.heap.size]? = some (.cells (([1, 2] : List Int).map iV).toArray 3 (0, 0)) := by
    unfold exW
    rw [Below.heap_alloc _ _ _ (by first | (simp; done) | (simp; omega)), Below.heap_alloc _ _ _ (by first | (simp; done) | (simp; omega)), Below.heap_alloc _ _ _ (by first | (simp; done) | (simp; omega)), Below.heap_alloc _ _ _ (by simp)]
    exact heap_alloc_new _ _
  have h1 : (exW w).heap[w.heap.size + 1]? = some (.cells (([-1] : List Int).map iV).toArray 3 (0, 0)) := by
    unfold exW
    rw [Below.heap_alloc _ _ _ (by first | (simp; done) | (simp; omega)), Below.heap_alloc _ _ _ (by first | (simp; done) | (simp; omega)), Below.heap_alloc _ _ _ (by simp)]
    exact heap_alloc2_new _ _ _
  have h2 : (exW w).heap[w.heap.size + 1 + 1]? = some (.cells (([2, 3] : List Int).map iV).toArray 3 (0, 0)) := by
    unfold exW
    rw [Below.heap_alloc _ _ _ (by first | (simp; done) | (simp; omega)), Below.heap_alloc _ _ _ (by simp)]
    have := heap_alloc2_new (w.alloc (.cells #[.int .i64 1, .int .i64 2] 3)) (.cells #[.int .i64 (-1)] 3) (.cells #[.int .i64 2, .int .i64 3] 3)
    have e : (w.alloc (.cells #[.int .i64 1, .int .i64 2] 3)).heap.size = w.heap.size + 1 := by simp
    rw [e] at this
    exact this
  have h3 : (exW w).heap[w.heap.size + 1 + 1 + 1]? = some (.cells (([2, 3, 4] : List Int).map iV).toArray 3 (0, 0)) := by
    unfold exW
    rw [Below.heap_alloc _ _ _ (by simp)]
    have := heap_alloc2_new ((w.alloc (.cells #[.int .i64 1, .int .i64 2] 3)).alloc (.cells #[.int .i64 (-1)] 3)) (.cells #[.int .i64 2, .int .i64 3] 3) (.cells #[.int .i64 2, .int .i64 3, .int .i64 4] 3)
    have e : ((w.alloc (.cells #[.int .i64 1, .int .i64 2] 3)).alloc (.cells #[.int .i64 (-1)] 3)).heap.size = w.heap.size + 1 + 1 := by simp
    rw [e] at this
    exact this
  have h4 : (exW w).heap[w.heap.size + 1 + 1 + 1 + 1]? = some (.cells #[.slice (some ⟨w.heap.size, 0, none⟩) 2 2, .slice (some ⟨w.heap.size + 1, 0, none⟩) 1 1, .slice (some ⟨w.heap.size + 1 + 1, 0, none⟩) 2 2, .slice (some ⟨w.heap.size + 1 + 1 + 1, 0, none⟩) 3 3] 27 (0, 0)) := by
    unfold exW
    have := heap_alloc_new ((((w.alloc (.cells #[.int .i64 1, .int .i64 2] 3)).alloc (.cells #[.int .i64 (-1)] 3)).alloc (.cells #[.int .i64 2, .int .i64 3] 3)).alloc (.cells #[.int .i64 2, .int .i64 3, .int .i64 4] 3)) (.cells #[.slice (some ⟨w.heap.size, 0, none⟩) 2 2, .slice (some ⟨w.heap.size + 1, 0, none⟩) 1 1, .slice (some ⟨w.heap.size + 1 + 1, 0, none⟩) 2 2, .slice (some ⟨w.heap.size + 1 + 1 + 1, 0, none⟩) 3 3] 27)
    have e : ((((w.alloc (.cells #[.int .i64 1, .int .i64 2] 3)).alloc (.cells #[.int .i64 (-1)] 3)).alloc (.cells #[.int .i64 2, .int .i64 3] 3)).alloc (.cells #[.int .i64 2, .int .i64 3, .int .i64 4] 3)).heap.size = w.heap.size + 1 + 1 + 1 + 1 := by simp
    rw [e] at this
    exact this
  have hc : ∀ j : Nat, (exW w).cell? ((⟨w.heap.size + 1 + 1 + 1 + 1, 0, none⟩ : Addr).add j) = (#[Value.slice (some ⟨w.heap.size, 0, none⟩) 2 2, .slice (some ⟨w.heap.size + 1, 0, none⟩) 1 1, .slice (some ⟨w.heap.size + 1 + 1, 0, none⟩) 2 2, .slice (some ⟨w.heap.size + 1 + 1 + 1, 0, none⟩) 3 3] : Array Value)[j]? := fun j => by
    have e : (⟨w.heap.size + 1 + 1 + 1 + 1, 0, none⟩ : Addr).add j = ⟨w.heap.size + 1 + 1 + 1 + 1, j, none⟩ := by unfold Addr.add; split <;> simp_all
    rw [e, cell_of_row _ _ j _ _ (0, 0) h4]
  refine ⟨_, 4, rfl, by decide, fun j d hj => ?_⟩
  match j, hj with
  | 0, hj => cases hj; exact ⟨_, _, rfl, hc 0, reads_new h0 (by decide)⟩
  | 1, hj => cases hj; exact ⟨_, _, rfl, hc 1, reads_new h1 (by decide)⟩
  | 2, hj => cases hj; exact ⟨_, _, rfl, hc 2, reads_new h2 (by decide)⟩
  | 3, hj => cases hj; exact ⟨_, _, rfl, hc 3, reads_new h3 (by decide)⟩
  | j + 4, hj => simp [exC] at hj
section
variable (w : World)
set_option maxHeartbeats 2000000 in
set_option maxRecDepth 100000 in
theorem lives29_any : Calls Try.prog 8 #[] w fun e w' => e = .returned (.bool true) ∧ Below w.heap.size w w' := by
  have HT := Lib.hid (Trim29_any (vars := 4) (.slice (some ⟨w.heap.size + 1 + 1 + 1 + 1, 0, none⟩) 4 4) (exW w) (by omega) (exW_reads w) ex_size)
  have HB := Lib.hid (exW_below w)
  have hW : exW w = exW w := rfl
  conv at hW => lhs; unfold exW
  go_enter Try.func8, Try.ntmps8
  go_wp2_with fail
  refine HT.out.mono ?_
  rintro e w3 ⟨hb, h⟩
  rcases h with ⟨_, dv, fv, rfl, _, hu⟩ | ⟨h, _⟩
  · have hu : ∀ wx, UpW (exW w).heap.size w3 wx → Reads2 wx dv [] ∧ Reads wx iV fv [-1, 2] := fun wx h => by
      have h2 := hu wx h
      rw [ex_C, ex_fx] at h2
      exact h2
    obtain ⟨⟨da, dc, hdd, _⟩, hff⟩ := hu w3 (UpW.refl _ _)
    obtain ⟨fa, fc, hff, _⟩ := reads_shape hff
    have hdd : dv = .slice da 0 dc := hdd
    have hff : fv = .slice fa 2 fc := hff
    subst hdd hff
    have hc : ∀ o, ∃ b, fa = some b ∧ (w3.alloc o).cell? b = some (.int .i64 (-1)) ∧ (w3.alloc o).cell? ⟨b.block, b.off + 1, none⟩ = some (.int .i64 2) := fun o => by
      obtain ⟨_, hff⟩ := hu (w3.alloc o) (upw_alloc _ _ _)
      obtain ⟨_, _, h1, _, h2⟩ := reads_shape hff
      cases h1
      obtain ⟨b, e1, e2⟩ := h2 0 (-1) rfl
      obtain ⟨b', e3, e4⟩ := h2 1 2 rfl
      rw [e1] at e3
      cases e3
      have e2 : (w3.alloc o).cell? (b.add 0) = some (.int .i64 (-1)) := e2
      have e4 : (w3.alloc o).cell? (b.add 1) = some (.int .i64 2) := e4
      exact ⟨b, e1, by simpa [Addr.add] using e2, by simpa [Addr.add] using e4⟩
    obtain ⟨b, rfl, _⟩ := hc (.cells #[.int .i64 0] 3)
    have hc0 : ∀ o, (w3.alloc o).cell? b = some (.int .i64 (-1)) := fun o => by
      obtain ⟨b', e1, e2, _⟩ := hc o
      cases e1; exact e2
    have hc1 : ∀ o, (w3.alloc o).cell? ⟨b.block, b.off + 1, none⟩ = some (.int .i64 2) := fun o => by
      obtain ⟨b', e1, _, e2⟩ := hc o
      cases e1; exact e2
    have HBF := Lib.hid (HB.out.trans (hb.mono HB.out.size))
    clear hc hu hb hW
    have hb3 := HBF.out.size
    go_wp2
    go_ret
    exact ⟨rfl, HBF.out.alloc hb3 _⟩
  · exact absurd ex_may h
end
end Go.Proofs.Ytlcbfahaapodmaa
