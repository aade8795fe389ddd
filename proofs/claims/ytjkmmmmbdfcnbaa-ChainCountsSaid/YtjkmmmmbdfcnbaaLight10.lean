/-
  Layer 10: which projects are looked at (layer 7's Light). Own work.
-/
import Derived.Test.YtjkmmmmbdfcnbaaSame10c
namespace Go.Proofs.Ytjkmmmmbdfcnbaa
set_option linter.unusedVariables false
set_option linter.unusedSimpArgs false
open Go.RowKit

def AnyB (w : World) (e : Ending) (w' : World) : Prop := (∃ b : Bool, e = .returned (.bool b)) ∧ w = w'
theorem short_any (blk : Nat) (l : List ByteArray) (hl : l.length ≤ 10) (w : World) (h : w.heap[blk]? = some (.cells (l.map Value.string).toArray 9 (0, 0))) :
    Calls Try.prog 19 #[.slice (some ⟨blk, 0, none⟩) l.length l.length] w (AnyB w) := by
  have HH := Lib.hid h
  clear h
  have hlI : (l.length : Int) ≤ 10 := by omega
  go_enter Try.func19, Try.ntmps19
  go_wp2_with fail
  go_loop [7] (fun i => ∃ k : Nat, k ≤ l.length ∧ i = .int .i64 k) (fun i => l.length - (intOf i).toNat)
  case atStart => exact ⟨0, by omega, rfl⟩
  case round =>
    obtain ⟨k, hk, rfl⟩ := hrel
    by_cases hlt : k < l.length
    · obtain ⟨s, hs⟩ : ∃ s, l[k]? = some s := ⟨_, List.getElem?_eq_getElem hlt⟩
      have hc : w.cell? ⟨blk, k, none⟩ = some (.string s) := by rw [cell_of_row w blk k _ _ (0, 0) HH.out]; simp [hs]
      clear hs
      by_cases hbig : 2000 < s.size
      · have hbI : (2000 : Int) < s.size := by omega
        clear hbig
        go_wp2
        go_ret
        exact ⟨⟨_, rfl⟩, rfl⟩
      · have hbI : decide ((2000 : Int) < s.size) = false := by simp; omega
        clear hbig
        go_wp2
        exact ⟨⟨k + 1, by omega, by go_num⟩, by simp [intOf]; omega⟩
    · have hle : (l.length : Int) ≤ k := by omega
      go_wp2
      go_ret
      exact ⟨⟨_, rfl⟩, rfl⟩
def LdP (d : Dp) (w : World) (e : Ending) (w' : World) : Prop := ∃ b : Bool, e = .returned (.bool b) ∧ (b = true → d.ex.length ≤ 10) ∧ Below w.heap.size w w'
set_option maxRecDepth 100000 in
set_option maxHeartbeats 4000000 in
theorem LightDep_any (d : Dp) (va : Value) (w : World) (ha : RdXs w va d.ex) :
    Calls Try.prog 20 #[dpV d va] w (LdP d w) := by
  obtain ⟨ea, ec, rfl⟩ := RdSl.shape ha
  have hla := RdSl.len ha
  have hlaI : (d.ex.length : Int) ≤ 9223372036854775807 := by omega
  unfold dpV
  have hb0 : Below w.heap.size w (w.alloc (.cells #[.string d.g, .string d.a, .string d.v, .string d.t, .string d.c, .int .i64 d.sc, .int .i64 d.op, .slice ea d.ex.length ec] 34)) := (Below.refl w.heap.size w).alloc (Nat.le_refl _) _
  have h1 := heap_alloc_new w (.cells #[.string d.g, .string d.a, .string d.v, .string d.t, .string d.c, .int .i64 d.sc, .int .i64 d.op, .slice ea d.ex.length ec] 34)
  have HA := Lib.hid (ha.below hb0 (Nat.le_refl _))
  have HB0 := Lib.hid hb0
  clear ha hb0
  go_enter Try.func20, Try.ntmps20
  go_upto_region 1 with fail
  generalize w.alloc (.cells #[.string d.g, .string d.a, .string d.v, .string d.t, .string d.c, .int .i64 d.sc, .int .i64 d.op, .slice ea d.ex.length ec] 34) = w1 at h1 HA HB0 ⊢
  generalize w.heap.size = D at h1 ⊢
  have H1 := Lib.hid h1
  have x0 : w1.cell? ⟨D, 0, none⟩ = some (.string d.g) := by rw [cell_of_row w1 D 0 _ _ (0, 0) h1]; rfl
  have x1 : w1.cell? ⟨D, 1, none⟩ = some (.string d.a) := by rw [cell_of_row w1 D 1 _ _ (0, 0) h1]; rfl
  have x2 : w1.cell? ⟨D, 2, none⟩ = some (.string d.v) := by rw [cell_of_row w1 D 2 _ _ (0, 0) h1]; rfl
  have x3 : w1.cell? ⟨D, 3, none⟩ = some (.string d.t) := by rw [cell_of_row w1 D 3 _ _ (0, 0) h1]; rfl
  have x4 : w1.cell? ⟨D, 4, none⟩ = some (.string d.c) := by rw [cell_of_row w1 D 4 _ _ (0, 0) h1]; rfl
  have x5 : w1.cell? ⟨D, 5, none⟩ = some (.int .i64 d.sc) := by rw [cell_of_row w1 D 5 _ _ (0, 0) h1]; rfl
  have x6 : w1.cell? ⟨D, 6, none⟩ = some (.int .i64 d.op) := by rw [cell_of_row w1 D 6 _ _ (0, 0) h1]; rfl
  have x7 : w1.cell? ⟨D, 7, none⟩ = some (.slice ea d.ex.length ec) := by rw [cell_of_row w1 D 7 _ _ (0, 0) h1]; rfl
  clear h1
  by_cases hbig : 10 < d.ex.length
  · have hbI : (10 : Int) < d.ex.length := by omega
    clear hbig
    go_wp2
    go_ret
    exact ⟨_, rfl, by simp, HB0.out⟩
  have hbI : decide ((10 : Int) < d.ex.length) = false := by simp; omega
  have HLE := Lib.hid (show d.ex.length ≤ 10 by omega)
  clear hbig
  have hba : Below w1.heap.size w1 (w1.alloc (.cells #[.string d.g, .string d.a, .string d.v, .string d.t, .string d.c] 9)) := (Below.refl _ _).alloc (Nat.le_refl _) _
  have HBA := Lib.hid hba
  have hop := short_any w1.heap.size [d.g, d.a, d.v, d.t, d.c] (by simp) (w1.alloc (.cells #[.string d.g, .string d.a, .string d.v, .string d.t, .string d.c] 9)) (heap_alloc_new w1 _)
  have HOP := Lib.hid hop
  clear hop hba
  go_wp2_with fail
  refine HOP.out.mono ?_
  rintro e w2 ⟨⟨b, rfl⟩, rfl⟩
  clear x0 x1 x2 x3 x4 x5 x6 x7 HOP
  cases b
  · go_wp2
    go_ret
    exact ⟨_, rfl, by simp, HB0.out.trans (HBA.out.mono HB0.out.size)⟩
  generalize w1.alloc (.cells #[.string d.g, .string d.a, .string d.v, .string d.t, .string d.c] 9) = w2 at HBA ⊢
  have h2 := (HBA.out.block D (Array.getElem?_eq_some_iff.1 H1.out).1).trans H1.out
  have x7 : w2.cell? ⟨D, 7, none⟩ = some (.slice ea d.ex.length ec) := by rw [cell_of_row w2 D 7 _ _ (0, 0) h2]; rfl
  clear h2
  go_wp2_with fail
  clear x7
  go_loopw [27] (fun i wr => ∃ k : Nat, k ≤ d.ex.length ∧ i = .int .i64 k ∧ Below w1.heap.size w1 wr) (fun i _ => d.ex.length - (intOf i).toNat)
  case atStart => exact ⟨0, by omega, rfl, HBA.out⟩
  case round =>
    obtain ⟨k, hk, rfl, hbw⟩ := hrel
    have HB := Lib.hid hbw
    by_cases hlt : k < d.ex.length
    · obtain ⟨x, hx⟩ : ∃ x, d.ex[k]? = some x := ⟨_, List.getElem?_eq_getElem hlt⟩
      obtain ⟨a1, e1, p0, p1⟩ := RdSl.elem (HA.out.below hbw (Nat.le_refl _)) hx
      subst e1
      have hbb : Below wr.heap.size wr (wr.alloc (.cells #[.string x.g, .string x.a] 57)) := (Below.refl _ _).alloc (Nat.le_refl _) _
      have hnew := heap_alloc_new wr (.cells #[.string x.g, .string x.a] 57)
      have HBB := Lib.hid (HB.out.trans (hbb.mono HB.out.size))
      clear hbw hbb hx
      go_upto_region 6 with fail
      generalize wr.alloc (.cells #[.string x.g, .string x.a] 57) = wb at hnew HBB ⊢
      generalize wr.heap.size = KB at hnew ⊢
      have r0 : wb.cell? ⟨KB, 0, none⟩ = some (.string x.g) := by rw [cell_of_row wb KB 0 _ _ (0, 0) hnew]; rfl
      have r1 : wb.cell? ⟨KB, 1, none⟩ = some (.string x.a) := by rw [cell_of_row wb KB 1 _ _ (0, 0) hnew]; rfl
      have hop := short_any wb.heap.size [x.g, x.a] (by simp) (wb.alloc (.cells #[.string x.g, .string x.a] 9)) (heap_alloc_new wb _)
      have hbc : Below wb.heap.size wb (wb.alloc (.cells #[.string x.g, .string x.a] 9)) := (Below.refl _ _).alloc (Nat.le_refl _) _
      have HBC := Lib.hid (HBB.out.trans (hbc.mono HBB.out.size))
      have HOP := Lib.hid hop
      clear hop hbc hnew p0 p1
      go_wp2_with fail
      refine HOP.out.mono ?_
      rintro e w5 ⟨⟨b, rfl⟩, rfl⟩
      clear r0 r1 HOP
      cases b
      · go_wp2
        go_ret
        exact ⟨_, rfl, by simp, HB0.out.trans (HBC.out.mono HB0.out.size)⟩
      · go_wp2
        go_roundw
        case rel => exact ⟨k + 1, by omega, by go_num, HBC.out⟩
        case measure => simp [intOf]; omega
    · have hle : (d.ex.length : Int) ≤ k := by omega
      clear hbw
      go_wp2
      go_ret
      exact ⟨_, rfl, (fun _ => HLE.out), HB0.out.trans (HB.out.mono HB0.out.size)⟩
end Go.Proofs.Ytjkmmmmbdfcnbaa
