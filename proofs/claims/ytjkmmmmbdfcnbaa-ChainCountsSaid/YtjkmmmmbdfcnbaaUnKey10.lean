/-
  Layer 10: the closure that Under hands to laid. Own work.
-/
import Derived.Test.YtjkmmmmbdfcnbaaKey10
namespace Go.Proofs.Ytjkmmmmbdfcnbaa
set_option linter.unusedVariables false
set_option linter.unusedSimpArgs false
open Go.RowKit

theorem unkey_results (tmps : Array Value) (w : World) (R : Nat) (cs : Array Value) (hs : cs.size = 4) (h2 : tmps.getD 2 undef = .pointer (some ⟨R, 0, none⟩))
    (hR : w.heap[R]? = some (.cells cs 45 (0, 0))) :
    (results Try.f27 tmps).run Try.prog w = .ok (.agg cs) w := by
  have h2' : tmps[2]?.getD undef = .pointer (some ⟨R, 0, none⟩) := by simpa using h2
  have l1 := run_loadVar_row w R 45 45 cs (0, 0) _ hR Try.underlying45 rfl (by rw [hs]; kernel_rfl)
  simp [results, Try.results27, h2', asAddr, l1]
set_option maxRecDepth 100000 in
set_option maxHeartbeats 4000000 in
theorem UnderKey_any (d : Dp) (va : Value) (w : World) (ha : ∃ a c, va = .slice a d.ex.length c) :
    Calls Try.prog 27 #[dpV d va] w (KeyP (keyD d) w) := by
  obtain ⟨ea, ec, rfl⟩ := ha
  obtain ⟨g, a, v, t, c, sc, op, ex⟩ := d
  simp only
  unfold dpV
  simp only
  have hb0 : Below w.heap.size w ((w.alloc (.cells #[.string g, .string a, .string v, .string t, .string c, .int .i64 sc, .int .i64 op, .slice ea ex.length ec] 34)).alloc (.cells #[.string ⟨#[]⟩, .string ⟨#[]⟩, .string ⟨#[]⟩, .string ⟨#[]⟩] 45)) := ((Below.refl w.heap.size w).alloc (Nat.le_refl _) _).alloc (by simp) _
  have h1 : ((w.alloc (.cells #[.string g, .string a, .string v, .string t, .string c, .int .i64 sc, .int .i64 op, .slice ea ex.length ec] 34)).alloc (.cells #[.string ⟨#[]⟩, .string ⟨#[]⟩, .string ⟨#[]⟩, .string ⟨#[]⟩] 45)).heap[w.heap.size]? = some (.cells #[.string g, .string a, .string v, .string t, .string c, .int .i64 sc, .int .i64 op, .slice ea ex.length ec] 34 (0, 0)) := (Below.heap_alloc _ _ _ (by simp)).trans (heap_alloc_new w _)
  have h2 : ((w.alloc (.cells #[.string g, .string a, .string v, .string t, .string c, .int .i64 sc, .int .i64 op, .slice ea ex.length ec] 34)).alloc (.cells #[.string ⟨#[]⟩, .string ⟨#[]⟩, .string ⟨#[]⟩, .string ⟨#[]⟩] 45)).heap[w.heap.size + 1]? = some (.cells #[.string ⟨#[]⟩, .string ⟨#[]⟩, .string ⟨#[]⟩, .string ⟨#[]⟩] 45 (0, 0)) := by
    have := heap_alloc_new (w.alloc (.cells #[.string g, .string a, .string v, .string t, .string c, .int .i64 sc, .int .i64 op, .slice ea ex.length ec] 34)) (.cells #[.string ⟨#[]⟩, .string ⟨#[]⟩, .string ⟨#[]⟩, .string ⟨#[]⟩] 45)
    simpa using this
  have HB0 := Lib.hid hb0
  clear hb0
  go_enter Try.func27, Try.ntmps27
  go_upto_region 1 with fail
  generalize ((w.alloc (.cells #[.string g, .string a, .string v, .string t, .string c, .int .i64 sc, .int .i64 op, .slice ea ex.length ec] 34)).alloc (.cells #[.string ⟨#[]⟩, .string ⟨#[]⟩, .string ⟨#[]⟩, .string ⟨#[]⟩] 45)) = w1 at h1 h2 HB0 ⊢
  obtain ⟨R, hR⟩ : ∃ b, b = w.heap.size + 1 := ⟨_, rfl⟩
  rw [← hR] at h2
  simp only [← hR]
  have HRG := Lib.hid (show w.heap.size ≤ R by omega)
  clear hR
  generalize w.heap.size = D at h1 ⊢
  have HR := Lib.hid h2
  have x0 : w1.cell? ⟨D, 0, none⟩ = some (.string g) := by rw [cell_of_row w1 D 0 _ _ (0, 0) h1]; rfl
  have x1 : w1.cell? ⟨D, 1, none⟩ = some (.string a) := by rw [cell_of_row w1 D 1 _ _ (0, 0) h1]; rfl
  have x2 : w1.cell? ⟨D, 2, none⟩ = some (.string v) := by rw [cell_of_row w1 D 2 _ _ (0, 0) h1]; rfl
  have x3 : w1.cell? ⟨D, 3, none⟩ = some (.string t) := by rw [cell_of_row w1 D 3 _ _ (0, 0) h1]; rfl
  have x4 : w1.cell? ⟨D, 4, none⟩ = some (.string c) := by rw [cell_of_row w1 D 4 _ _ (0, 0) h1]; rfl
  have x5 : w1.cell? ⟨D, 5, none⟩ = some (.int .i64 sc) := by rw [cell_of_row w1 D 5 _ _ (0, 0) h1]; rfl
  have x6 : w1.cell? ⟨D, 6, none⟩ = some (.int .i64 op) := by rw [cell_of_row w1 D 6 _ _ (0, 0) h1]; rfl
  have x7 : w1.cell? ⟨D, 7, none⟩ = some (.slice ea ex.length ec) := by rw [cell_of_row w1 D 7 _ _ (0, 0) h1]; rfl
  clear h1 h2
  obtain ⟨kx, hkx⟩ : ∃ kx, kx = keyD ⟨g, a, v, t, c, sc, op, ex⟩ := ⟨_, rfl⟩
  have hop : Calls Try.prog 16 #[.agg #[.string g, .string a, .string v, .string t, .string c, .int .i64 sc, .int .i64 op, .slice ea ex.length ec]] w1 fun e w' => e = .returned (.agg #[.string kx.g, .string kx.a, .string kx.t, .string kx.c]) ∧ Below w1.heap.size w1 w' := by rw [hkx]; exact Key_any ⟨g, a, v, t, c, sc, op, ex⟩ (.slice ea ex.length ec) w1 ⟨_, _, rfl⟩
  have HOP := Lib.hid hop
  have HKX := Lib.hid hkx
  clear hop hkx
  go_wp2_with fail
  refine HOP.out.mono ?_
  rintro e w2 ⟨rfl, hb2⟩
  have HR2 := Lib.hid ((hb2.block R (Array.getElem?_eq_some_iff.1 HR.out).1).trans HR.out)
  have HB2 := Lib.hid (HB0.out.trans (hb2.mono HB0.out.size))
  clear hb2 x0 x1 x2 x3 x4 x5 x6 x7 HOP
  go_wp2_with (refine wpList_store_row rfl 45 _ _ rfl R #[.string kx.g, .string kx.a, .string kx.t, .string kx.c] rfl rfl 45 _ HR2.out (by kernel_rfl) rfl (by simp [Value.oneCell']) ?_)
  refine bodyPost_ret (unkey_results _ _ R #[.string kx.g, .string kx.a, .string kx.t, .string kx.c] rfl rfl (setRow_heap _ R _ _ _ _ HR2.out)) rfl ?_
  exact ⟨(by rw [← HKX.out]; rfl), below_setRow10 HB2.out HRG.out⟩
end Go.Proofs.Ytjkmmmmbdfcnbaa
