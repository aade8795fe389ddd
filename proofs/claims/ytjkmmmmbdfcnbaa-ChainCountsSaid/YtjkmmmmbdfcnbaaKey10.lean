/-
  Layer 10: the keys of dependencies; whether a row has one; where a name stands. Own work.
-/
import Derived.Test.YtjkmmmmbdfcnbaaLight10b
import Derived.Deep.WholeRow
namespace Go.Proofs.Ytjkmmmmbdfcnbaa
set_option linter.unusedVariables false
set_option linter.unusedSimpArgs false
open Go.RowKit

structure Ky where
  g : ByteArray
  a : ByteArray
  t : ByteArray
  c : ByteArray
def jarT (t : ByteArray) : ByteArray := if t.toList = [] then ⟨#[106, 97, 114]⟩ else t
def keyD (d : Dp) : Ky := ⟨d.g, d.a, jarT d.t, d.c⟩
def Ky.val (k : Ky) : Value := .agg #[.string k.g, .string k.a, .string k.t, .string k.c]
def KeyP (k : Ky) (w : World) (e : Ending) (w' : World) : Prop := e = .returned k.val ∧ Below w.heap.size w w'
theorem below_setRow10 {w w' : World} {B V : Nat} {cs : Array Value} (h : Below B w w') (hB : B ≤ V) : Below B w (w'.setRow V cs) :=
  ⟨h.os, h.tape, h.output, by simpa using h.size, fun k hk => (setRow_other w' V k cs (by omega)).trans (h.block k hk)⟩
theorem nil_bytes : (⟨#[]⟩ : ByteArray).toList = [] := by rw [ByteArray.toList_eq]
theorem jar_yes {t : ByteArray} (h : t = ⟨#[]⟩) : jarT t = ⟨#[106, 97, 114]⟩ := by subst h; unfold jarT; rw [if_pos nil_bytes]
theorem jar_no {t : ByteArray} (h : ¬ t.toList = []) : jarT t = t := by unfold jarT; rw [if_neg h]
theorem key_ret {g a t t' v c : ByteArray} {sc op : Int} {ex : List Ix} (h : jarT t = t') : (Ending.returned (.agg #[.string g, .string a, .string t', .string c])) = .returned (keyD ⟨g, a, v, t, c, sc, op, ex⟩).val := by
  subst h; rfl
theorem refkey_results (tmps : Array Value) (w : World) (R : Nat) (cs : Array Value) (hs : cs.size = 4) (h2 : tmps.getD 2 undef = .pointer (some ⟨R, 0, none⟩))
    (hR : w.heap[R]? = some (.cells cs 45 (0, 0))) :
    (results Try.f15 tmps).run Try.prog w = .ok (.agg cs) w := by
  have h2' : tmps[2]?.getD undef = .pointer (some ⟨R, 0, none⟩) := by simpa using h2
  have l1 := run_loadVar_row w R 45 45 cs (0, 0) _ hR Try.underlying45 rfl (by rw [hs]; kernel_rfl)
  simp [results, Try.results15, h2', asAddr, l1]
theorem key_results (tmps : Array Value) (w : World) (R : Nat) (cs : Array Value) (hs : cs.size = 4) (h2 : tmps.getD 2 undef = .pointer (some ⟨R, 0, none⟩))
    (hR : w.heap[R]? = some (.cells cs 45 (0, 0))) :
    (results Try.f16 tmps).run Try.prog w = .ok (.agg cs) w := by
  have h2' : tmps[2]?.getD undef = .pointer (some ⟨R, 0, none⟩) := by simpa using h2
  have l1 := run_loadVar_row w R 45 45 cs (0, 0) _ hR Try.underlying45 rfl (by rw [hs]; kernel_rfl)
  simp [results, Try.results16, h2', asAddr, l1]
set_option maxRecDepth 100000 in
set_option maxHeartbeats 4000000 in
theorem refKey_any (d : Dp) (va : Value) (w : World) (ha : ∃ a c, va = .slice a d.ex.length c) :
    Calls Try.prog 15 #[dpV d va] w (KeyP (keyD d) w) := by
  obtain ⟨ea, ec, rfl⟩ := ha
  obtain ⟨g, a, v, t, c, sc, op, ex⟩ := d
  simp only
  unfold dpV
  simp only
  have hb0 : Below w.heap.size w ((w.alloc (.cells #[.string g, .string a, .string v, .string t, .string c, .int .i64 sc, .int .i64 op, .slice ea ex.length ec] 34)).alloc (.cells #[.string ⟨#[]⟩, .string ⟨#[]⟩, .string ⟨#[]⟩, .string ⟨#[]⟩] 45)) := ((Below.refl w.heap.size w).alloc (Nat.le_refl _) _).alloc (by simp) _
  have h1 : ((w.alloc (.cells #[.string g, .string a, .string v, .string t, .string c, .int .i64 sc, .int .i64 op, .slice ea ex.length ec] 34)).alloc (.cells #[.string ⟨#[]⟩, .string ⟨#[]⟩, .string ⟨#[]⟩, .string ⟨#[]⟩] 45)).heap[w.heap.size]? = some (.cells #[.string g, .string a, .string v, .string t, .string c, .int .i64 sc, .int .i64 op, .slice ea ex.length ec] 34 (0, 0)) := (Below.heap_alloc _ _ _ (by simp)).trans (heap_alloc_new w _)
  have h2 : ((w.alloc (.cells #[.string g, .string a, .string v, .string t, .string c, .int .i64 sc, .int .i64 op, .slice ea ex.length ec] 34)).alloc (.cells #[.string ⟨#[]⟩, .string ⟨#[]⟩, .string ⟨#[]⟩, .string ⟨#[]⟩] 45)).heap[w.heap.size + 1]? = some (.cells #[.string ⟨#[]⟩, .string ⟨#[]⟩, .string ⟨#[]⟩, .string ⟨#[]⟩] 45 (0, 0)) := by
    have := heap_alloc_new (w.alloc (.cells #[.string g, .string a, .string v, .string t, .string c, .int .i64 sc, .int .i64 op, .slice ea ex.length ec] 34)) (.cells #[.string ⟨#[]⟩, .string ⟨#[]⟩, .string ⟨#[]⟩, .string ⟨#[]⟩] 45)
    simpa using this
  have HB0 := Lib.hid hb0
  clear hb0
  go_enter Try.func15, Try.ntmps15
  go_upto_region 1 with fail
  generalize ((w.alloc (.cells #[.string g, .string a, .string v, .string t, .string c, .int .i64 sc, .int .i64 op, .slice ea ex.length ec] 34)).alloc (.cells #[.string ⟨#[]⟩, .string ⟨#[]⟩, .string ⟨#[]⟩, .string ⟨#[]⟩] 45)) = w1 at h1 h2 HB0 ⊢
  obtain ⟨R, hR⟩ : ∃ b, b = w.heap.size + 1 := ⟨_, rfl⟩
  rw [← hR] at h2
  simp only [← hR]
  have HRG := Lib.hid (show w.heap.size ≤ R by omega)
  clear hR
  generalize w.heap.size = D at h1 ⊢
  have HR := Lib.hid h2
  have x0 : w1.cell? ⟨D, 0, none⟩ = some (.string g) := by rw [cell_of_row w1 D 0 _ _ (0, 0) h1]; rfl
  have x1 : w1.cell? ⟨D, 1, none⟩ = some (.string a) := by rw [cell_of_row w1 D 1 _ _ (0, 0) h1]; rfl
  have x2 : w1.cell? ⟨D, 2, none⟩ = some (.string v) := by rw [cell_of_row w1 D 2 _ _ (0, 0) h1]; rfl
  have x3 : w1.cell? ⟨D, 3, none⟩ = some (.string t) := by rw [cell_of_row w1 D 3 _ _ (0, 0) h1]; rfl
  have x4 : w1.cell? ⟨D, 4, none⟩ = some (.string c) := by rw [cell_of_row w1 D 4 _ _ (0, 0) h1]; rfl
  have x5 : w1.cell? ⟨D, 5, none⟩ = some (.int .i64 sc) := by rw [cell_of_row w1 D 5 _ _ (0, 0) h1]; rfl
  have x6 : w1.cell? ⟨D, 6, none⟩ = some (.int .i64 op) := by rw [cell_of_row w1 D 6 _ _ (0, 0) h1]; rfl
  have x7 : w1.cell? ⟨D, 7, none⟩ = some (.slice ea ex.length ec) := by rw [cell_of_row w1 D 7 _ _ (0, 0) h1]; rfl
  clear h1 h2
  by_cases ht : t = ⟨#[]⟩
  · have HJ := Lib.hid (jar_yes ht)
    subst ht
    go_wp2_with (refine wpList_store_row rfl 45 _ _ rfl R #[.string g, .string a, .string ⟨#[106, 97, 114]⟩, .string c] rfl rfl 45 _ HR.out (by kernel_rfl) rfl (by simp [Value.oneCell']) ?_)
    refine bodyPost_ret (refkey_results _ _ R #[.string g, .string a, .string ⟨#[106, 97, 114]⟩, .string c] rfl rfl (setRow_heap _ R _ _ _ _ HR.out)) rfl ?_
    exact ⟨key_ret HJ.out, below_setRow10 HB0.out HRG.out⟩
  · have hL : ¬ t.toList = [] := fun h => ht (bytes_eq10 (by rw [h, nil_bytes]))
    have hL2 : ¬ t.toList = (⟨#[]⟩ : ByteArray).toList := by rw [nil_bytes]; exact hL
    have hL3 : t.toList.isEmpty = false := by simpa using hL
    have HJ := Lib.hid (jar_no hL)
    go_wp2_with (refine wpList_store_row rfl 45 _ _ rfl R #[.string g, .string a, .string t, .string c] rfl rfl 45 _ HR.out (by kernel_rfl) rfl (by simp [Value.oneCell']) ?_)
    refine bodyPost_ret (refkey_results _ _ R #[.string g, .string a, .string t, .string c] rfl rfl (setRow_heap _ R _ _ _ _ HR.out)) rfl ?_
    exact ⟨key_ret HJ.out, below_setRow10 HB0.out HRG.out⟩
set_option maxRecDepth 100000 in
set_option maxHeartbeats 4000000 in
theorem Key_any (d : Dp) (va : Value) (w : World) (ha : ∃ a c, va = .slice a d.ex.length c) :
    Calls Try.prog 16 #[dpV d va] w (KeyP (keyD d) w) := by
  obtain ⟨ea, ec, rfl⟩ := ha
  obtain ⟨g, a, v, t, c, sc, op, ex⟩ := d
  simp only
  unfold dpV
  simp only
  have hb0 : Below w.heap.size w ((w.alloc (.cells #[.string g, .string a, .string v, .string t, .string c, .int .i64 sc, .int .i64 op, .slice ea ex.length ec] 34)).alloc (.cells #[.string ⟨#[]⟩, .string ⟨#[]⟩, .string ⟨#[]⟩, .string ⟨#[]⟩] 45)) := ((Below.refl w.heap.size w).alloc (Nat.le_refl _) _).alloc (by simp) _
  have h1 : ((w.alloc (.cells #[.string g, .string a, .string v, .string t, .string c, .int .i64 sc, .int .i64 op, .slice ea ex.length ec] 34)).alloc (.cells #[.string ⟨#[]⟩, .string ⟨#[]⟩, .string ⟨#[]⟩, .string ⟨#[]⟩] 45)).heap[w.heap.size]? = some (.cells #[.string g, .string a, .string v, .string t, .string c, .int .i64 sc, .int .i64 op, .slice ea ex.length ec] 34 (0, 0)) := (Below.heap_alloc _ _ _ (by simp)).trans (heap_alloc_new w _)
  have h2 : ((w.alloc (.cells #[.string g, .string a, .string v, .string t, .string c, .int .i64 sc, .int .i64 op, .slice ea ex.length ec] 34)).alloc (.cells #[.string ⟨#[]⟩, .string ⟨#[]⟩, .string ⟨#[]⟩, .string ⟨#[]⟩] 45)).heap[w.heap.size + 1]? = some (.cells #[.string ⟨#[]⟩, .string ⟨#[]⟩, .string ⟨#[]⟩, .string ⟨#[]⟩] 45 (0, 0)) := by
    have := heap_alloc_new (w.alloc (.cells #[.string g, .string a, .string v, .string t, .string c, .int .i64 sc, .int .i64 op, .slice ea ex.length ec] 34)) (.cells #[.string ⟨#[]⟩, .string ⟨#[]⟩, .string ⟨#[]⟩, .string ⟨#[]⟩] 45)
    simpa using this
  have HB0 := Lib.hid hb0
  clear hb0
  go_enter Try.func16, Try.ntmps16
  go_upto_region 1 with fail
  generalize ((w.alloc (.cells #[.string g, .string a, .string v, .string t, .string c, .int .i64 sc, .int .i64 op, .slice ea ex.length ec] 34)).alloc (.cells #[.string ⟨#[]⟩, .string ⟨#[]⟩, .string ⟨#[]⟩, .string ⟨#[]⟩] 45)) = w1 at h1 h2 HB0 ⊢
  obtain ⟨R, hR⟩ : ∃ b, b = w.heap.size + 1 := ⟨_, rfl⟩
  rw [← hR] at h2
  simp only [← hR]
  have HRG := Lib.hid (show w.heap.size ≤ R by omega)
  clear hR
  generalize w.heap.size = D at h1 ⊢
  have HR := Lib.hid h2
  have x0 : w1.cell? ⟨D, 0, none⟩ = some (.string g) := by rw [cell_of_row w1 D 0 _ _ (0, 0) h1]; rfl
  have x1 : w1.cell? ⟨D, 1, none⟩ = some (.string a) := by rw [cell_of_row w1 D 1 _ _ (0, 0) h1]; rfl
  have x2 : w1.cell? ⟨D, 2, none⟩ = some (.string v) := by rw [cell_of_row w1 D 2 _ _ (0, 0) h1]; rfl
  have x3 : w1.cell? ⟨D, 3, none⟩ = some (.string t) := by rw [cell_of_row w1 D 3 _ _ (0, 0) h1]; rfl
  have x4 : w1.cell? ⟨D, 4, none⟩ = some (.string c) := by rw [cell_of_row w1 D 4 _ _ (0, 0) h1]; rfl
  have x5 : w1.cell? ⟨D, 5, none⟩ = some (.int .i64 sc) := by rw [cell_of_row w1 D 5 _ _ (0, 0) h1]; rfl
  have x6 : w1.cell? ⟨D, 6, none⟩ = some (.int .i64 op) := by rw [cell_of_row w1 D 6 _ _ (0, 0) h1]; rfl
  have x7 : w1.cell? ⟨D, 7, none⟩ = some (.slice ea ex.length ec) := by rw [cell_of_row w1 D 7 _ _ (0, 0) h1]; rfl
  clear h1 h2
  have hbk : Below w1.heap.size w1 (w1.alloc (.cells #[.string g, .string a, .string t, .string c] 45)) := (Below.refl _ _).alloc (Nat.le_refl _) _
  have hkn := heap_alloc_new w1 (.cells #[.string g, .string a, .string t, .string c] 45)
  have HRL := Lib.hid (show R < w1.heap.size from (Array.getElem?_eq_some_iff.1 HR.out).1)
  have HR2 := Lib.hid ((hbk.block R HRL.out).trans HR.out)
  have HB2 := Lib.hid (HB0.out.trans (hbk.mono HB0.out.size))
  clear hbk
  go_upto_region 2 with fail
  generalize w1.alloc (.cells #[.string g, .string a, .string t, .string c] 45) = w2 at hkn HR2 HB2 ⊢
  obtain ⟨KB, hKB⟩ : ∃ b, b = w1.heap.size := ⟨_, rfl⟩
  rw [← hKB] at hkn ⊢
  have HNE := Lib.hid (show R ≠ KB by have := HRL.out; omega)
  have HKB := Lib.hid (show w.heap.size ≤ KB by have := HB0.out.size; omega)
  clear hKB x0 x1 x2 x3 x4 x5 x6 x7
  have k0 : w2.cell? ⟨KB, 0, none⟩ = some (.string g) := by rw [cell_of_row w2 KB 0 _ _ (0, 0) hkn]; rfl
  have k1 : w2.cell? ⟨KB, 1, none⟩ = some (.string a) := by rw [cell_of_row w2 KB 1 _ _ (0, 0) hkn]; rfl
  have k2 : w2.cell? ⟨KB, 2, none⟩ = some (.string t) := by rw [cell_of_row w2 KB 2 _ _ (0, 0) hkn]; rfl
  have k3 : w2.cell? ⟨KB, 3, none⟩ = some (.string c) := by rw [cell_of_row w2 KB 3 _ _ (0, 0) hkn]; rfl
  by_cases ht : t = ⟨#[]⟩
  · have HJ := Lib.hid (jar_yes ht)
    subst ht
    have f2 := frozen_of_row w2 KB 2 _ _ hkn
    have hset := heap_setCell_same w2 KB 2 _ _ (.string ⟨#[106, 97, 114]⟩) hkn
    have HR3 := Lib.hid ((heap_setCell_other w2 ⟨KB, 2, none⟩ R (.string ⟨#[106, 97, 114]⟩) HNE.out).trans HR2.out)
    have HB3 := Lib.hid (HB2.out.setCell (p := ⟨KB, 2, none⟩) HKB.out (.string ⟨#[106, 97, 114]⟩))
    clear hkn
    go_upto_region 4 with fail
    generalize w2.setCell ⟨KB, 2, none⟩ (.string ⟨#[106, 97, 114]⟩) = w3 at hset HR3 HB3 ⊢
    clear k0 k1 k2 k3 f2
    have k0 : w3.cell? ⟨KB, 0, none⟩ = some (.string g) := by rw [cell_of_row w3 KB 0 _ _ (0, 0) hset]; rfl
    have k1 : w3.cell? ⟨KB, 1, none⟩ = some (.string a) := by rw [cell_of_row w3 KB 1 _ _ (0, 0) hset]; rfl
    have k2 : w3.cell? ⟨KB, 2, none⟩ = some (.string ⟨#[106, 97, 114]⟩) := by rw [cell_of_row w3 KB 2 _ _ (0, 0) hset]; rfl
    have k3 : w3.cell? ⟨KB, 3, none⟩ = some (.string c) := by rw [cell_of_row w3 KB 3 _ _ (0, 0) hset]; rfl
    clear hset
    go_wp2_with (refine wpList_store_row rfl 45 _ _ rfl R #[.string g, .string a, .string ⟨#[106, 97, 114]⟩, .string c] rfl rfl 45 _ HR3.out (by kernel_rfl) rfl (by simp [Value.oneCell']) ?_)
    refine bodyPost_ret (key_results _ _ R #[.string g, .string a, .string ⟨#[106, 97, 114]⟩, .string c] rfl rfl (setRow_heap _ R _ _ _ _ HR3.out)) rfl ?_
    exact ⟨key_ret HJ.out, below_setRow10 HB3.out HRG.out⟩
  · have hL : ¬ t.toList = [] := fun h => ht (bytes_eq10 (by rw [h, nil_bytes]))
    have hL2 : ¬ t.toList = (⟨#[]⟩ : ByteArray).toList := by rw [nil_bytes]; exact hL
    have hL3 : t.toList.isEmpty = false := by simpa using hL
    have HJ := Lib.hid (jar_no hL)
    clear hkn
    go_wp2_with (refine wpList_store_row rfl 45 _ _ rfl R #[.string g, .string a, .string t, .string c] rfl rfl 45 _ HR2.out (by kernel_rfl) rfl (by simp [Value.oneCell']) ?_)
    refine bodyPost_ret (key_results _ _ R #[.string g, .string a, .string t, .string c] rfl rfl (setRow_heap _ R _ _ _ _ HR2.out)) rfl ?_
    exact ⟨key_ret HJ.out, below_setRow10 HB2.out HRG.out⟩
end Go.Proofs.Ytjkmmmmbdfcnbaa
