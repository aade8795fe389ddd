/-
  Layer 24: the contract of the document's answer Pin: a line that is a pin. Own work.
-/
import Derived.Test.YtcmojpfolmcaoaaDoorPieceD
import Derived.Test.YtcmojpfolmcaoaaDoorRefL24
import Derived.Test.YtcmojpfolmcaoaaDoorRefMay24
namespace Go.Proofs.YtcmojpfolmcaoaaDoor
set_option linter.unusedVariables false
set_option linter.unusedSimpArgs false
open Go.RowKit

theorem SlOf.cellsS {w : World} {v : Value} {xs : List (List UInt8)} (h : SlOf w strV v xs) (h0 : xs ≠ []) :
    ∃ b off cap, v = .slice (some ⟨b, off, none⟩) xs.length cap ∧ xs.length ≤ cap ∧ cap ≤ 9223372036854775807 ∧ b < w.heap.size ∧ ∀ (j : Nat) x, xs[j]? = some x → w.cell? ⟨b, off + j, none⟩ = some (.string (str x)) := by
  obtain ⟨a, cap, rfl, h1, h2, hc⟩ := h
  match xs, h0 with
  | x :: r, _ =>
    obtain ⟨b, off, rfl, hlt, _⟩ := hc 0 x rfl
    refine ⟨b, off, cap, rfl, h1, h2, hlt, fun j y hy => ?_⟩
    obtain ⟨b2, off2, h2, _, h⟩ := hc j y hy
    cases h2; exact h
theorem SlOf.four {w : World} {v : Value} {x0 x1 x2 x3 : List UInt8} (h : SlOf w strV v [x0, x1, x2, x3]) :
    ∃ b off cap, v = .slice (some ⟨b, off, none⟩) 4 cap ∧ 4 ≤ cap ∧ cap ≤ 9223372036854775807 ∧ b < w.heap.size ∧ w.cell? ⟨b, off, none⟩ = some (.string (str x0)) ∧ w.cell? ⟨b, off + 1, none⟩ = some (.string (str x1)) ∧ w.cell? ⟨b, off + 2, none⟩ = some (.string (str x2)) ∧ w.cell? ⟨b, off + 3, none⟩ = some (.string (str x3)) := by
  obtain ⟨b, off, cap, rfl, h1, h2, h3, h4⟩ := h.cellsS (by simp)
  exact ⟨b, off, cap, rfl, h1, h2, h3, h4 0 x0 rfl, h4 1 x1 rfl, h4 2 x2 rfl, h4 3 x3 rfl⟩
theorem SlOf.three {w : World} {v : Value} {x0 x1 x2 : List UInt8} (h : SlOf w strV v [x0, x1, x2]) :
    ∃ b off cap, v = .slice (some ⟨b, off, none⟩) 3 cap ∧ 3 ≤ cap ∧ cap ≤ 9223372036854775807 ∧ b < w.heap.size ∧ w.cell? ⟨b, off, none⟩ = some (.string (str x0)) ∧ w.cell? ⟨b, off + 1, none⟩ = some (.string (str x1)) ∧ w.cell? ⟨b, off + 2, none⟩ = some (.string (str x2)) := by
  obtain ⟨b, off, cap, rfl, h1, h2, h3, h4⟩ := h.cellsS (by simp)
  exact ⟨b, off, cap, rfl, h1, h2, h3, h4 0 x0 rfl, h4 1 x1 rfl, h4 2 x2 rfl⟩
def PR (w : World) (B : Nat) (p : Pn) : Prop := w.heap[B]? = some (.cells #[.string p.g, .string p.a, .string p.t, .string p.c, .string p.v, .int .i64 p.sc] 42 (0, 0))
theorem PR.lt {w : World} {B : Nat} {p : Pn} (h : PR w B p) : B < w.heap.size := (Array.getElem?_eq_some_iff.1 h).1
theorem PR.below {w w' : World} {B : Nat} {p : Pn} (h : PR w B p) (hb : Below w.heap.size w w') : PR w' B p := (hb.block B h.lt).trans h
theorem PR.cells {w : World} {B : Nat} {p : Pn} (h : PR w B p) : PinIn w B p := by
  refine ⟨?_, ?_, ?_, ?_, ?_, ?_⟩
  · rw [cell_of_row w B 0 _ _ (0, 0) h]; rfl
  · rw [cell_of_row w B 1 _ _ (0, 0) h]; rfl
  · rw [cell_of_row w B 2 _ _ (0, 0) h]; rfl
  · rw [cell_of_row w B 3 _ _ (0, 0) h]; rfl
  · rw [cell_of_row w B 4 _ _ (0, 0) h]; rfl
  · rw [cell_of_row w B 5 _ _ (0, 0) h]; rfl
theorem PR.frozen {w : World} {B : Nat} {p : Pn} (h : PR w B p) (o : Nat) : w.frozen? ⟨B, o, none⟩ = false := frozen_of_row w B o _ _ h
theorem PR.new (w : World) : PR (w.alloc (.cells #[.string ⟨#[]⟩, .string ⟨#[]⟩, .string ⟨#[]⟩, .string ⟨#[]⟩, .string ⟨#[]⟩, .int .i64 0] 42)) w.heap.size pn0 := heap_alloc_new w _
def setP (w : World) (B : Nat) (p : Pn) : World := (((((w.setCell ⟨B, 0, none⟩ (.string p.g)).setCell ⟨B, 1, none⟩ (.string p.a)).setCell ⟨B, 2, none⟩ (.string p.t)).setCell ⟨B, 3, none⟩ (.string p.c)).setCell ⟨B, 4, none⟩ (.string p.v)).setCell ⟨B, 5, none⟩ (.int .i64 p.sc)
theorem PR.set {w : World} {B : Nat} {q : Pn} (h : PR w B q) (p : Pn) : PR (setP w B p) B p := by
  have h1 := heap_setCell_same w B 0 _ _ (.string p.g) h
  have h2 := heap_setCell_same _ B 1 _ _ (.string p.a) h1
  have h3 := heap_setCell_same _ B 2 _ _ (.string p.t) h2
  have h4 := heap_setCell_same _ B 3 _ _ (.string p.c) h3
  have h5 := heap_setCell_same _ B 4 _ _ (.string p.v) h4
  have h6 := heap_setCell_same _ B 5 _ _ (.int .i64 p.sc) h5
  unfold PR setP
  simpa using h6
theorem below_setP {w w' : World} {B C : Nat} (h : Below B w w') (hC : B ≤ C) (p : Pn) : Below B w (setP w' C p) :=
  (((((h.setCell hC _).setCell hC _).setCell hC _).setCell hC _).setCell hC _).setCell hC _
def PinPost (p : Pn) (b : Bool) (w : World) (e : Ending) (w' : World) : Prop := e = .returned (.tuple #[pnV p, .bool b]) ∧ Below w.heap.size w w'
theorem pin_results (tmps : Array Value) (w : World) (R : Nat) (p : Pn) (b : Bool) (h2 : tmps.getD 2 undef = .pointer (some ⟨R, 0, none⟩)) (h3 : tmps.getD 3 undef = .bool b) (hR : PR w R p) :
    (results Tryd.f38 tmps).run Tryd.prog w = .ok (.tuple #[pnV p, .bool b]) w := by
  have h2' : tmps[2]?.getD undef = .pointer (some ⟨R, 0, none⟩) := by simpa using h2
  have h3' : tmps[3]?.getD undef = .bool b := by simpa using h3
  have l1 := run_loadVar_row w R 42 42 #[.string p.g, .string p.a, .string p.t, .string p.c, .string p.v, .int .i64 p.sc] (0, 0) _ hR Tryd.underlying42 rfl (by kernel_rfl)
  simp [results, Tryd.results38, h2', h3', asAddr, l1, pnV]
theorem ne4 {n : Nat} (h : n ≠ 4) : ((n : Int) != 4) = true := by simpa using (show ¬ (n : Int) = 4 by omega)
theorem ne3 {n : Nat} (h : n ≠ 3) : ((n : Int) != 3) = true := by simpa using (show ¬ (n : Int) = 3 by omega)
theorem str_is {x l : List UInt8} (h : x = l) : ((str x).toList == l) = true := by rw [str_list, h]; simp
theorem str_isnt {x l : List UInt8} (h : x ≠ l) : ((str x).toList == l) = false := by rw [str_list]; exact beq_false_of_ne h
def scK (s : ByteArray) (n : Nat) : Int := if scopeI s < n then scopeI s else 0
theorem scK_one (s : ByteArray) : scK s 1 = 0 := by
  have := scope_range s
  unfold scK
  split <;> omega
theorem scK_six (s : ByteArray) : scK s 6 = scR s := by
  unfold scK scR
  have := scope_range s
  by_cases h : scopeI s ≤ 5
  · rw [if_pos (by omega), if_pos h]
  · rw [if_neg (by omega), if_neg h]
theorem scK_hit {s : ByteArray} {n : Nat} (h : scopeI s = n) : scK s (n + 1) = n := by unfold scK; rw [if_pos (by omega), h]
theorem scK_miss {s : ByteArray} {n : Nat} (h : scopeI s ≠ n) : scK s (n + 1) = scK s n := by
  unfold scK
  by_cases h1 : scopeI s < n
  · rw [if_pos (by omega), if_pos h1]
  · rw [if_neg (by omega), if_neg h1]
theorem word_is (n : Nat) (y : List UInt8) (h1 : 1 ≤ n) (h5 : n ≤ 5) : ((wordS n).toList == (str y).toList) = decide (scopeI (str y) = n) := by
  have hn : n = 1 ∨ n = 2 ∨ n = 3 ∨ n = 4 ∨ n = 5 := by omega
  rcases hn with rfl | rfl | rfl | rfl | rfl
  · rw [show (wordS ((1 : Nat) : Int)).toList = [99, 111, 109, 112, 105, 108, 101] by rw [ByteArray.toList_eq]; rfl]
    rcases scope_facts (str y) with h | h | h | h | h | h | h <;> (obtain ⟨h0, k1, k2, k3, k4, k5, k6⟩ := h; rw [h0, k1]; decide)
  · rw [show (wordS ((2 : Nat) : Int)).toList = [114, 117, 110, 116, 105, 109, 101] by rw [ByteArray.toList_eq]; rfl]
    rcases scope_facts (str y) with h | h | h | h | h | h | h <;> (obtain ⟨h0, k1, k2, k3, k4, k5, k6⟩ := h; rw [h0, k2]; decide)
  · rw [show (wordS ((3 : Nat) : Int)).toList = [112, 114, 111, 118, 105, 100, 101, 100] by rw [ByteArray.toList_eq]; rfl]
    rcases scope_facts (str y) with h | h | h | h | h | h | h <;> (obtain ⟨h0, k1, k2, k3, k4, k5, k6⟩ := h; rw [h0, k3]; decide)
  · rw [show (wordS ((4 : Nat) : Int)).toList = [115, 121, 115, 116, 101, 109] by rw [ByteArray.toList_eq]; rfl]
    rcases scope_facts (str y) with h | h | h | h | h | h | h <;> (obtain ⟨h0, k1, k2, k3, k4, k5, k6⟩ := h; rw [h0, k4]; decide)
  · rw [show (wordS ((5 : Nat) : Int)).toList = [116, 101, 115, 116] by rw [ByteArray.toList_eq]; rfl]
    rcases scope_facts (str y) with h | h | h | h | h | h | h <;> (obtain ⟨h0, k1, k2, k3, k4, k5, k6⟩ := h; rw [h0, k5]; decide)
abbrev ScS (w : World) (b off P : Nat) (y : List UInt8) (p : Pn) (wr : World) : Prop :=
  wr.cell? ⟨b, off + 3, none⟩ = some (.string (str y)) ∧ PR wr P p ∧ PR wr w.heap.size pn0 ∧ Below w.heap.size w wr
theorem ScS.below {w wr w' : World} {b off P : Nat} {y : List UInt8} {p : Pn} (h : ScS w b off P y p wr) (hb : Below wr.heap.size wr w') : ScS w b off P y p w' :=
  ⟨(hb.cell (World.block_lt_of_cell? wr _ h.1)).trans h.1, h.2.1.below hb, h.2.2.1.below hb, h.2.2.2.trans (hb.mono h.2.2.2.size)⟩
theorem ScS.drew {w wr : World} {b off P : Nat} {y : List UInt8} {p : Pn} (h : ScS w b off P y p wr) : ScS w b off P y p wr.drew := ⟨h.1, h.2.1, h.2.2.1, h.2.2.2.drew⟩
theorem cell_other (w : World) (a : Addr) (b o : Nat) (v : Value) (h : b ≠ a.block) : (w.setCell a v).cell? ⟨b, o, none⟩ = w.cell? ⟨b, o, none⟩ := by
  have := heap_setCell_other w a b v h
  unfold World.cell?
  simp only [this]
theorem ScS.setC {w wr : World} {b off P : Nat} {y : List UInt8} {p : Pn} (h : ScS w b off P y p wr) (hb : b ≠ P) (hP : w.heap.size < P) (c : ByteArray) : ScS w b off P y ⟨p.g, p.a, p.t, c, p.v, p.sc⟩ (wr.setCell ⟨P, 3, none⟩ (.string c)) := by
  refine ⟨?_, ?_, ?_, h.2.2.2.setCell (by simp only; omega) _⟩
  · rw [cell_other _ _ _ _ _ hb]; exact h.1
  · have := heap_setCell_same wr P 3 _ _ (.string c) h.2.1
    unfold PR; simpa using this
  · exact (heap_setCell_other wr ⟨P, 3, none⟩ w.heap.size _ (fun e => by simp only at e; omega)).trans h.2.2.1
theorem ScS.setSc {w wr : World} {b off P : Nat} {y : List UInt8} {p : Pn} (h : ScS w b off P y p wr) (hb : b ≠ P) (hP : w.heap.size < P) (n : Int) : ScS w b off P y ⟨p.g, p.a, p.t, p.c, p.v, n⟩ (wr.setCell ⟨P, 5, none⟩ (.int .i64 n)) := by
  refine ⟨?_, ?_, ?_, h.2.2.2.setCell (by simp only; omega) _⟩
  · rw [cell_other _ _ _ _ _ hb]; exact h.1
  · have := heap_setCell_same wr P 5 _ _ (.int .i64 n) h.2.1
    unfold PR; simpa using this
  · exact (heap_setCell_other wr ⟨P, 5, none⟩ w.heap.size _ (fun e => by simp only at e; omega)).trans h.2.2.1
set_option maxRecDepth 100000 in
set_option maxHeartbeats 4000000 in
theorem refPin_A (s : ByteArray) (hs : s.size ≤ 3000) (h4 : (pcd 32 s.data.toList).length ≠ 4) (w : World) :
    Calls Tryd.prog 38 #[.string s] w (PinPost pn0 false w) := by
  have hl4 := ne4 h4
  have HWD := Lib.hid (fun w => Words_any s hs w)
  have HN := Lib.hid (PR.new w)
  have HB0 := Lib.hid (show Below w.heap.size w (w.alloc (.cells #[.string ⟨#[]⟩, .string ⟨#[]⟩, .string ⟨#[]⟩, .string ⟨#[]⟩, .string ⟨#[]⟩, .int .i64 0] 42)) from (Below.refl w.heap.size w).alloc (Nat.le_refl _) _)
  go_enter Tryd.func38, Tryd.ntmps38
  go_upto_region 1 with fail
  generalize w.alloc (.cells #[.string ⟨#[]⟩, .string ⟨#[]⟩, .string ⟨#[]⟩, .string ⟨#[]⟩, .string ⟨#[]⟩, .int .i64 0] 42) = w0 at HN HB0 ⊢
  go_wp2_with fail
  refine (HWD.out _).mono ?_
  rintro e w1 ⟨v0, rfl, hsl, hb1⟩
  obtain ⟨sa, cap, rfl, hl1, hl2, -⟩ := hsl
  have HB1 := Lib.hid (HB0.out.trans (hb1.mono HB0.out.size))
  have HP1 := Lib.hid (HN.out.below (hb1.mono (Nat.le_refl _)))
  clear hb1
  have f0 := HP1.out.frozen 0
  have f1 := HP1.out.frozen 1
  have f2 := HP1.out.frozen 2
  have f3 := HP1.out.frozen 3
  have f4 := HP1.out.frozen 4
  have f5 := HP1.out.frozen 5
  obtain ⟨y0, y1, y2, y3, y4, y5⟩ := HP1.out.cells
  unfold pn0 at y0 y1 y2 y3 y4 y5
  simp only at y0 y1 y2 y3 y4 y5
  go_wp2
  refine bodyPost_ret (pin_results _ _ w.heap.size pn0 false rfl rfl (HP1.out.set pn0)) rfl ?_
  exact ⟨rfl, below_setP HB1.out (Nat.le_refl _) pn0⟩
set_option maxRecDepth 100000 in
set_option maxHeartbeats 4000000 in
theorem refPin_B (s : ByteArray) (hs : s.size ≤ 3000) (x k v y : List UInt8) (hp : pcd 32 s.data.toList = [x, k, v, y]) (hx : x ≠ wPin) (w : World) :
    Calls Tryd.prog 38 #[.string s] w (PinPost pn0 false w) := by
  have hx2 := str_isnt hx
  unfold wPin at hx2
  have HP := Lib.hid hp
  clear hp
  have HWD := Lib.hid (fun w => Words_any s hs w)
  have HN := Lib.hid (PR.new w)
  have HB0 := Lib.hid (show Below w.heap.size w (w.alloc (.cells #[.string ⟨#[]⟩, .string ⟨#[]⟩, .string ⟨#[]⟩, .string ⟨#[]⟩, .string ⟨#[]⟩, .int .i64 0] 42)) from (Below.refl w.heap.size w).alloc (Nat.le_refl _) _)
  go_enter Tryd.func38, Tryd.ntmps38
  go_upto_region 1 with fail
  generalize w.alloc (.cells #[.string ⟨#[]⟩, .string ⟨#[]⟩, .string ⟨#[]⟩, .string ⟨#[]⟩, .string ⟨#[]⟩, .int .i64 0] 42) = w0 at HN HB0 ⊢
  go_wp2_with fail
  refine (HWD.out _).mono ?_
  rintro e w1 ⟨v0, rfl, hsl, hb1⟩
  rw [HP.out] at hsl
  obtain ⟨b, off, cap, rfl, c1, c2, c3, r0, r1, r2, r3⟩ := hsl.four
  clear hsl
  have HB1 := Lib.hid (HB0.out.trans (hb1.mono HB0.out.size))
  have HP1 := Lib.hid (HN.out.below (hb1.mono (Nat.le_refl _)))
  clear hb1
  have f0 := HP1.out.frozen 0
  have f1 := HP1.out.frozen 1
  have f2 := HP1.out.frozen 2
  have f3 := HP1.out.frozen 3
  have f4 := HP1.out.frozen 4
  have f5 := HP1.out.frozen 5
  obtain ⟨y0, y1, y2, y3, y4, y5⟩ := HP1.out.cells
  unfold pn0 at y0 y1 y2 y3 y4 y5
  simp only at y0 y1 y2 y3 y4 y5
  go_wp2
  refine bodyPost_ret (pin_results _ _ w.heap.size pn0 false rfl rfl (HP1.out.set pn0)) rfl ?_
  exact ⟨rfl, below_setP HB1.out (Nat.le_refl _) pn0⟩
set_option maxRecDepth 100000 in
set_option maxHeartbeats 4000000 in
theorem refPin_C (s : ByteArray) (hs : s.size ≤ 3000) (x k v y : List UInt8) (hp : pcd 32 s.data.toList = [x, k, v, y]) (hx : x = wPin) (h3 : (pcd 58 k).length ≠ 3) (h4 : (pcd 58 k).length ≠ 4) (w : World) :
    Calls Tryd.prog 38 #[.string s] w (PinPost pn0 false w) := by
  have hks : (str k).size ≤ 3000 := by
    have := pcd_len_le (d := 32) s.data.toList k (by rw [hp]; simp)
    rw [size_str]; have : s.data.toList.length = s.size := by simp
    omega
  have hx2 := str_is hx
  unfold wPin at hx2
  clear hx
  have HPC := Lib.hid (fun w => Pieces_any (str k) hks w)
  have hl3 := ne3 h3
  have hl4 := ne4 h4
  have HP := Lib.hid hp
  clear hp
  have HWD := Lib.hid (fun w => Words_any s hs w)
  have HN := Lib.hid (PR.new w)
  have HB0 := Lib.hid (show Below w.heap.size w (w.alloc (.cells #[.string ⟨#[]⟩, .string ⟨#[]⟩, .string ⟨#[]⟩, .string ⟨#[]⟩, .string ⟨#[]⟩, .int .i64 0] 42)) from (Below.refl w.heap.size w).alloc (Nat.le_refl _) _)
  go_enter Tryd.func38, Tryd.ntmps38
  go_upto_region 1 with fail
  generalize w.alloc (.cells #[.string ⟨#[]⟩, .string ⟨#[]⟩, .string ⟨#[]⟩, .string ⟨#[]⟩, .string ⟨#[]⟩, .int .i64 0] 42) = w0 at HN HB0 ⊢
  go_wp2_with fail
  refine (HWD.out _).mono ?_
  rintro e w1 ⟨v0, rfl, hsl, hb1⟩
  rw [HP.out] at hsl
  obtain ⟨b, off, cap, rfl, c1, c2, c3, r0, r1, r2, r3⟩ := hsl.four
  clear hsl
  have HB1 := Lib.hid (HB0.out.trans (hb1.mono HB0.out.size))
  have HP1 := Lib.hid (HN.out.below (hb1.mono (Nat.le_refl _)))
  clear hb1
  go_wp2_with fail
  refine (HPC.out _).mono ?_
  rintro e w2 ⟨v1, rfl, hsk, hb2⟩
  obtain ⟨sa, cap2, rfl, hl1, hl2, -⟩ := hsk
  rw [str_data] at hl1
  have HB2 := Lib.hid (HB1.out.trans (hb2.mono HB1.out.size))
  have HP2 := Lib.hid (HP1.out.below (hb2.mono (Nat.le_refl _)))
  have s0 := below_cell hb2 (p := ⟨b, off, none⟩) (by simp only; omega) r0
  have s1 := below_cell hb2 (p := ⟨b, off + 1, none⟩) (by simp only; omega) r1
  have s2 := below_cell hb2 (p := ⟨b, off + 2, none⟩) (by simp only; omega) r2
  have s3 := below_cell hb2 (p := ⟨b, off + 3, none⟩) (by simp only; omega) r3
  have hz2 := hb2.size
  clear r0 r1 r2 r3 hb2
  have f0 := HP2.out.frozen 0
  have f1 := HP2.out.frozen 1
  have f2 := HP2.out.frozen 2
  have f3 := HP2.out.frozen 3
  have f4 := HP2.out.frozen 4
  have f5 := HP2.out.frozen 5
  obtain ⟨y0, y1, y2, y3, y4, y5⟩ := HP2.out.cells
  unfold pn0 at y0 y1 y2 y3 y4 y5
  simp only at y0 y1 y2 y3 y4 y5
  try rw [str_data]
  go_wp2
  refine bodyPost_ret (pin_results _ _ w.heap.size pn0 false rfl rfl (HP2.out.set pn0)) rfl ?_
  exact ⟨rfl, below_setP HB2.out (Nat.le_refl _) pn0⟩
set_option maxRecDepth 100000 in
set_option maxHeartbeats 4000000 in
theorem refPin_D (s : ByteArray) (hs : s.size ≤ 3000) (x k v y g a u : List UInt8) (hp : pcd 32 s.data.toList = [x, k, v, y]) (hx : x = wPin) (h4 : pcd 58 k = [g, a, u, []]) (w : World) :
    Calls Tryd.prog 38 #[.string s] w (PinPost pn0 false w) := by
  have hks : (str k).size ≤ 3000 := by
    have := pcd_len_le (d := 32) s.data.toList k (by rw [hp]; simp)
    rw [size_str]; have : s.data.toList.length = s.size := by simp
    omega
  have hx2 := str_is hx
  unfold wPin at hx2
  clear hx
  have HPC := Lib.hid (fun w => Pieces_any (str k) hks w)
  have HP := Lib.hid hp
  clear hp
  have HWD := Lib.hid (fun w => Words_any s hs w)
  have HN := Lib.hid (PR.new w)
  have HB0 := Lib.hid (show Below w.heap.size w (w.alloc (.cells #[.string ⟨#[]⟩, .string ⟨#[]⟩, .string ⟨#[]⟩, .string ⟨#[]⟩, .string ⟨#[]⟩, .int .i64 0] 42)) from (Below.refl w.heap.size w).alloc (Nat.le_refl _) _)
  go_enter Tryd.func38, Tryd.ntmps38
  go_upto_region 1 with fail
  generalize w.alloc (.cells #[.string ⟨#[]⟩, .string ⟨#[]⟩, .string ⟨#[]⟩, .string ⟨#[]⟩, .string ⟨#[]⟩, .int .i64 0] 42) = w0 at HN HB0 ⊢
  go_wp2_with fail
  refine (HWD.out _).mono ?_
  rintro e w1 ⟨v0, rfl, hsl, hb1⟩
  rw [HP.out] at hsl
  obtain ⟨b, off, cap, rfl, c1, c2, c3, r0, r1, r2, r3⟩ := hsl.four
  clear hsl
  have HB1 := Lib.hid (HB0.out.trans (hb1.mono HB0.out.size))
  have HP1 := Lib.hid (HN.out.below (hb1.mono (Nat.le_refl _)))
  clear hb1
  go_wp2_with fail
  refine (HPC.out _).mono ?_
  rintro e w2 ⟨v1, rfl, hsk, hb2⟩
  rw [str_data, h4] at hsk
  obtain ⟨kb, ko, kcap, rfl, d1, d2, d3, k0, k1, k2, k3⟩ := hsk.four
  clear hsk
  have HB2 := Lib.hid (HB1.out.trans (hb2.mono HB1.out.size))
  have HP2 := Lib.hid (HP1.out.below (hb2.mono (Nat.le_refl _)))
  have s0 := below_cell hb2 (p := ⟨b, off, none⟩) (by simp only; omega) r0
  have s1 := below_cell hb2 (p := ⟨b, off + 1, none⟩) (by simp only; omega) r1
  have s2 := below_cell hb2 (p := ⟨b, off + 2, none⟩) (by simp only; omega) r2
  have s3 := below_cell hb2 (p := ⟨b, off + 3, none⟩) (by simp only; omega) r3
  have hz2 := hb2.size
  clear r0 r1 r2 r3 hb2
  have f0 := HP2.out.frozen 0
  have f1 := HP2.out.frozen 1
  have f2 := HP2.out.frozen 2
  have f3 := HP2.out.frozen 3
  have f4 := HP2.out.frozen 4
  have f5 := HP2.out.frozen 5
  obtain ⟨y0, y1, y2, y3, y4, y5⟩ := HP2.out.cells
  unfold pn0 at y0 y1 y2 y3 y4 y5
  simp only at y0 y1 y2 y3 y4 y5
  have he : ((str ([] : List UInt8)).toList == []) = true := str_is rfl
  go_wp2
  refine bodyPost_ret (pin_results _ _ w.heap.size pn0 false rfl rfl (HP2.out.set pn0)) rfl ?_
  exact ⟨rfl, below_setP HB2.out (Nat.le_refl _) pn0⟩
set_option maxRecDepth 100000 in
set_option maxHeartbeats 4000000 in
theorem refPin_E (s : ByteArray) (hs : s.size ≤ 3000) (x k v y g a u : List UInt8) (hp : pcd 32 s.data.toList = [x, k, v, y]) (hx : x = wPin) (h3 : pcd 58 k = [g, a, u]) (w : World) :
    Calls Tryd.prog 38 #[.string s] w (PinPost ⟨str g, str a, str u, ⟨#[]⟩, str v, scR (str y)⟩ (mayP ⟨str g, str a, str u, ⟨#[]⟩, str v, scR (str y)⟩) w) := by
  have hks : (str k).size ≤ 3000 := by
    have := pcd_len_le (d := 32) s.data.toList k (by rw [hp]; simp)
    rw [size_str]; have : s.data.toList.length = s.size := by simp
    omega
  have hx2 := str_is hx
  unfold wPin at hx2
  clear hx
  have HPC := Lib.hid (fun w => Pieces_any (str k) hks w)
  have HOK := Lib.hid (show okP ⟨str g, str a, str u, ⟨#[]⟩, str v, scR (str y)⟩ from by
    have h5 : s.data.toList.length = s.size := by simp
    have hv := pcd_len_le (d := 32) s.data.toList v (by rw [hp]; simp)
    have hk' := pcd_len_le (d := 58) k
    rw [h3] at hk'
    have hg := hk' g (by simp)
    have ha := hk' a (by simp)
    have hu := hk' u (by simp)
    rw [size_str] at hks
    refine ⟨?_, ?_, ?_, ?_, ?_⟩ <;> unfold okT <;> (try simp only [size_str]) <;> first | omega | decide)
  have HP := Lib.hid hp
  clear hp
  have HWD := Lib.hid (fun w => Words_any s hs w)
  have HN := Lib.hid (PR.new w)
  have HB0 := Lib.hid (show Below w.heap.size w (w.alloc (.cells #[.string ⟨#[]⟩, .string ⟨#[]⟩, .string ⟨#[]⟩, .string ⟨#[]⟩, .string ⟨#[]⟩, .int .i64 0] 42)) from (Below.refl w.heap.size w).alloc (Nat.le_refl _) _)
  go_enter Tryd.func38, Tryd.ntmps38
  go_upto_region 1 with fail
  generalize w.alloc (.cells #[.string ⟨#[]⟩, .string ⟨#[]⟩, .string ⟨#[]⟩, .string ⟨#[]⟩, .string ⟨#[]⟩, .int .i64 0] 42) = w0 at HN HB0 ⊢
  go_wp2_with fail
  refine (HWD.out _).mono ?_
  rintro e w1 ⟨v0, rfl, hsl, hb1⟩
  rw [HP.out] at hsl
  obtain ⟨b, off, cap, rfl, c1, c2, c3, r0, r1, r2, r3⟩ := hsl.four
  clear hsl
  have HB1 := Lib.hid (HB0.out.trans (hb1.mono HB0.out.size))
  have HP1 := Lib.hid (HN.out.below (hb1.mono (Nat.le_refl _)))
  clear hb1
  go_wp2_with fail
  refine (HPC.out _).mono ?_
  rintro e w2 ⟨v1, rfl, hsk, hb2⟩
  rw [str_data, h3] at hsk
  obtain ⟨kb, ko, kcap, rfl, d1, d2, d3, k0, k1, k2⟩ := hsk.three
  clear hsk
  have HB2 := Lib.hid (HB1.out.trans (hb2.mono HB1.out.size))
  have HP2 := Lib.hid (HP1.out.below (hb2.mono (Nat.le_refl _)))
  have s0 := below_cell hb2 (p := ⟨b, off, none⟩) (by simp only; omega) r0
  have s1 := below_cell hb2 (p := ⟨b, off + 1, none⟩) (by simp only; omega) r1
  have s2 := below_cell hb2 (p := ⟨b, off + 2, none⟩) (by simp only; omega) r2
  have s3 := below_cell hb2 (p := ⟨b, off + 3, none⟩) (by simp only; omega) r3
  have hz2 := hb2.size
  clear r0 r1 r2 r3 hb2
  have hb2' : b < w2.heap.size := by omega
  go_wp2_with fail
  go_region
  have hbA : Below w2.heap.size w2 (w2.alloc (.cells #[.string (str g), .string (str a), .string (str u), .string ⟨#[]⟩, .string (str v), .int .i64 0] 42)).drew := ((Below.refl _ w2).alloc (Nat.le_refl _) _).drew
  have HB3 := Lib.hid (HB2.out.trans (hbA.mono HB2.out.size))
  have HPP := Lib.hid (show PR (w2.alloc (.cells #[.string (str g), .string (str a), .string (str u), .string ⟨#[]⟩, .string (str v), .int .i64 0] 42)).drew w2.heap.size ⟨str g, str a, str u, ⟨#[]⟩, str v, 0⟩ from heap_alloc_new w2 _)
  have HP3 := Lib.hid (HP2.out.below hbA)
  have s3' := below_cell hbA (p := ⟨b, off + 3, none⟩) hb2' s3
  clear s0 s1 s2 s3 hbA
  generalize (w2.alloc (.cells #[.string (str g), .string (str a), .string (str u), .string ⟨#[]⟩, .string (str v), .int .i64 0] 42)).drew = w3 at HB3 HPP HP3 s3' ⊢
  have HS3 := Lib.hid s3'
  have hPB : w.heap.size < w2.heap.size := HP2.out.lt
  have hbP : b ≠ w2.heap.size := by omega
  have HPL := Lib.hid HPP.out.lt
  go_wp2_with fail
  clear s3'
  go_loopw [7] (fun i wr => ∃ n : Nat, 1 ≤ n ∧ n ≤ 6 ∧ i = .int .i64 n ∧ ScS w b off w2.heap.size y ⟨str g, str a, str u, ⟨#[]⟩, str v, scK (str y) n⟩ wr) (fun i _ => 6 - (intOf i).toNat)
  case atStart =>
    refine ⟨1, by omega, by omega, rfl, ?_⟩
    rw [scK_one]
    exact ⟨HS3.out, HPP.out, HP3.out, HB3.out⟩
  case round =>
    obtain ⟨n, hn1, hn6, rfl, hS⟩ := hrel
    by_cases hn5 : n ≤ 5
    · have hnI : (n : Int) ≤ 5 := by omega
      have hwd := fun w => refWord_any (n : Int) w
      have hcmp := word_is n y hn1 hn5
      have hS0 := hS
      obtain ⟨z3, zP, zB, zb⟩ := hS
      by_cases hsc : scopeI (str y) = n
      · have hcm : ((wordS n).toList == (str y).toList) = true := by rw [hcmp]; exact decide_eq_true hsc
        have HSC := Lib.hid hsc
        generalize wordS n = wd at hwd hcm
        have HW := Lib.hid hwd
        clear hcmp hsc hwd
        go_wp2_with fail
        go_region_held3 (fun w' => w'.cell? ⟨b, off + 3, none⟩ = some (.string (str y)) ∧ PR w' w2.heap.size ⟨str g, str a, str u, ⟨#[]⟩, str v, scK (str y) n⟩ ∧ PR w' w.heap.size pn0 ∧ Below w.heap.size w w')
          (first | with_reducible exact hS0.drew | with_reducible exact ScS.below (by assumption) (by assumption))
          (first | (go_at_call 31; (with_reducible refine (HW.out _).mono ?_); rintro e wq ⟨rfl, hbq⟩))
        have hS2 : ScS w b off w2.heap.size y ⟨str g, str a, str u, ⟨#[]⟩, str v, scK (str y) n⟩ wq := by assumption
        clear hS0 z3 zP zB zb
        have HS2 := Lib.hid hS2
        have g5 := hS2.2.1.frozen 5
        obtain ⟨q0, q1, q2, q3, q4, q5⟩ := hS2.2.1.cells
        clear hS2
        go_wp2_with fail
        clear g5 q0 q1 q2 q3 q4 q5
        go_roundw
        case rel =>
          refine ⟨n + 1, by omega, by omega, by go_num, ?_⟩
          rw [scK_hit HSC.out]
          exact ScS.setSc HS2.out hbP hPB n
        case measure => simp [intOf]; omega
      · have hcm : ((wordS n).toList == (str y).toList) = false := by rw [hcmp]; exact decide_eq_false hsc
        have HSC := Lib.hid hsc
        generalize wordS n = wd at hwd hcm
        have HW := Lib.hid hwd
        clear hcmp hsc hwd
        go_wp2_with fail
        go_region_held3 (fun w' => w'.cell? ⟨b, off + 3, none⟩ = some (.string (str y)) ∧ PR w' w2.heap.size ⟨str g, str a, str u, ⟨#[]⟩, str v, scK (str y) n⟩ ∧ PR w' w.heap.size pn0 ∧ Below w.heap.size w w')
          (first | with_reducible exact hS0.drew | with_reducible exact ScS.below (by assumption) (by assumption))
          (first | (go_at_call 31; (with_reducible refine (HW.out _).mono ?_); rintro e wq ⟨rfl, hbq⟩))
        have hS2 : ScS w b off w2.heap.size y ⟨str g, str a, str u, ⟨#[]⟩, str v, scK (str y) n⟩ wq := by assumption
        clear hS0 z3 zP zB zb
        have HS2 := Lib.hid hS2
        have g5 := hS2.2.1.frozen 5
        obtain ⟨q0, q1, q2, q3, q4, q5⟩ := hS2.2.1.cells
        clear hS2
        go_wp2_with fail
        clear g5 q0 q1 q2 q3 q4 q5
        go_roundw
        case rel =>
          refine ⟨n + 1, by omega, by omega, by go_num, ?_⟩
          rw [scK_miss HSC.out]
          exact HS2.out
        case measure => simp [intOf]; omega
    · have hn : n = 6 := by omega
      subst hn
      rw [scK_six] at hS
      have HS := Lib.hid (ScS.drew hS)
      have f0 := hS.2.2.1.frozen 0
      have f1 := hS.2.2.1.frozen 1
      have f2 := hS.2.2.1.frozen 2
      have f3 := hS.2.2.1.frozen 3
      have f4 := hS.2.2.1.frozen 4
      have f5 := hS.2.2.1.frozen 5
      obtain ⟨q0, q1, q2, q3, q4, q5⟩ := hS.2.1.cells
      obtain ⟨y0, y1, y2, y3, y4, y5⟩ := hS.2.2.1.cells
      unfold pn0 at y0 y1 y2 y3 y4 y5
      simp only at y0 y1 y2 y3 y4 y5 q0 q1 q2 q3 q4 q5
      have HMP := Lib.hid (fun w => refMayPin_any ⟨str g, str a, str u, ⟨#[]⟩, str v, scR (str y)⟩ HOK.out w)
      unfold pnV at HMP
      simp only at HMP
      clear hS
      go_wp2_with fail
      go_region_with (refine (HMP.out _).mono ?_; rintro e wq ⟨rfl, hbq⟩; have HPq := Lib.hid (HS.out.2.2.1.below hbq); have HBq := Lib.hid (HS.out.2.2.2.trans (hbq.mono HS.out.2.2.2.size)); have j0 := HPq.out.frozen 0; have j1 := HPq.out.frozen 1; have j2 := HPq.out.frozen 2; have j3 := HPq.out.frozen 3; have j4 := HPq.out.frozen 4; have j5 := HPq.out.frozen 5; obtain ⟨x0, x1, x2, x3, x4, x5⟩ := HPq.out.cells; obtain ⟨m0, m1, m2, m3, m4, m5⟩ := (HS.out.2.1.below hbq).cells; unfold pn0 at x0 x1 x2 x3 x4 x5; simp only at x0 x1 x2 x3 x4 x5 m0 m1 m2 m3 m4 m5)
      all_goals
        go_wp2
        refine bodyPost_ret (pin_results _ _ w.heap.size ⟨str g, str a, str u, ⟨#[]⟩, str v, scR (str y)⟩ _ rfl rfl (HPq.out.set ⟨str g, str a, str u, ⟨#[]⟩, str v, scR (str y)⟩)) rfl ?_
        exact ⟨rfl, below_setP HBq.out (Nat.le_refl _) ⟨str g, str a, str u, ⟨#[]⟩, str v, scR (str y)⟩⟩
set_option maxRecDepth 100000 in
set_option maxHeartbeats 4000000 in
theorem refPin_F (s : ByteArray) (hs : s.size ≤ 3000) (x k v y g a u c : List UInt8) (hp : pcd 32 s.data.toList = [x, k, v, y]) (hx : x = wPin) (h4 : pcd 58 k = [g, a, u, c]) (hc : c ≠ []) (w : World) :
    Calls Tryd.prog 38 #[.string s] w (PinPost ⟨str g, str a, str u, str c, str v, scR (str y)⟩ (mayP ⟨str g, str a, str u, str c, str v, scR (str y)⟩) w) := by
  have hks : (str k).size ≤ 3000 := by
    have := pcd_len_le (d := 32) s.data.toList k (by rw [hp]; simp)
    rw [size_str]; have : s.data.toList.length = s.size := by simp
    omega
  have hx2 := str_is hx
  unfold wPin at hx2
  clear hx
  have HPC := Lib.hid (fun w => Pieces_any (str k) hks w)
  have HOK := Lib.hid (show okP ⟨str g, str a, str u, str c, str v, scR (str y)⟩ from by
    have h5 : s.data.toList.length = s.size := by simp
    have hv := pcd_len_le (d := 32) s.data.toList v (by rw [hp]; simp)
    have hk' := pcd_len_le (d := 58) k
    rw [h4] at hk'
    have hg := hk' g (by simp)
    have ha := hk' a (by simp)
    have hu := hk' u (by simp)
    have hcc := hk' c (by simp)
    rw [size_str] at hks
    refine ⟨?_, ?_, ?_, ?_, ?_⟩ <;> unfold okT <;> (try simp only [size_str]) <;> first | omega | decide)
  have HP := Lib.hid hp
  clear hp
  have HWD := Lib.hid (fun w => Words_any s hs w)
  have HN := Lib.hid (PR.new w)
  have HB0 := Lib.hid (show Below w.heap.size w (w.alloc (.cells #[.string ⟨#[]⟩, .string ⟨#[]⟩, .string ⟨#[]⟩, .string ⟨#[]⟩, .string ⟨#[]⟩, .int .i64 0] 42)) from (Below.refl w.heap.size w).alloc (Nat.le_refl _) _)
  go_enter Tryd.func38, Tryd.ntmps38
  go_upto_region 1 with fail
  generalize w.alloc (.cells #[.string ⟨#[]⟩, .string ⟨#[]⟩, .string ⟨#[]⟩, .string ⟨#[]⟩, .string ⟨#[]⟩, .int .i64 0] 42) = w0 at HN HB0 ⊢
  go_wp2_with fail
  refine (HWD.out _).mono ?_
  rintro e w1 ⟨v0, rfl, hsl, hb1⟩
  rw [HP.out] at hsl
  obtain ⟨b, off, cap, rfl, c1, c2, c3, r0, r1, r2, r3⟩ := hsl.four
  clear hsl
  have HB1 := Lib.hid (HB0.out.trans (hb1.mono HB0.out.size))
  have HP1 := Lib.hid (HN.out.below (hb1.mono (Nat.le_refl _)))
  clear hb1
  go_wp2_with fail
  refine (HPC.out _).mono ?_
  rintro e w2 ⟨v1, rfl, hsk, hb2⟩
  rw [str_data, h4] at hsk
  obtain ⟨kb, ko, kcap, rfl, d1, d2, d3, k0, k1, k2, k3⟩ := hsk.four
  clear hsk
  have HB2 := Lib.hid (HB1.out.trans (hb2.mono HB1.out.size))
  have HP2 := Lib.hid (HP1.out.below (hb2.mono (Nat.le_refl _)))
  have s0 := below_cell hb2 (p := ⟨b, off, none⟩) (by simp only; omega) r0
  have s1 := below_cell hb2 (p := ⟨b, off + 1, none⟩) (by simp only; omega) r1
  have s2 := below_cell hb2 (p := ⟨b, off + 2, none⟩) (by simp only; omega) r2
  have s3 := below_cell hb2 (p := ⟨b, off + 3, none⟩) (by simp only; omega) r3
  have hz2 := hb2.size
  clear r0 r1 r2 r3 hb2
  have he : ((str c).toList == []) = false := str_isnt hc
  have hb2' : b < w2.heap.size := by omega
  go_wp2_with fail
  go_region
  have hbA : Below w2.heap.size w2 (w2.alloc (.cells #[.string (str g), .string (str a), .string (str u), .string ⟨#[]⟩, .string (str v), .int .i64 0] 42)).drew := ((Below.refl _ w2).alloc (Nat.le_refl _) _).drew
  have HB3 := Lib.hid (HB2.out.trans (hbA.mono HB2.out.size))
  have HPP := Lib.hid (show PR (w2.alloc (.cells #[.string (str g), .string (str a), .string (str u), .string ⟨#[]⟩, .string (str v), .int .i64 0] 42)).drew w2.heap.size ⟨str g, str a, str u, ⟨#[]⟩, str v, 0⟩ from heap_alloc_new w2 _)
  have HP3 := Lib.hid (HP2.out.below hbA)
  have s3' := below_cell hbA (p := ⟨b, off + 3, none⟩) hb2' s3
  have k3' := below_cell hbA (p := ⟨kb, ko + 3, none⟩) d3 k3
  clear s0 s1 s2 s3 hbA
  generalize (w2.alloc (.cells #[.string (str g), .string (str a), .string (str u), .string ⟨#[]⟩, .string (str v), .int .i64 0] 42)).drew = w3 at HB3 HPP HP3 s3' k3' ⊢
  have g3 := HPP.out.frozen 3
  obtain ⟨q0, q1, q2, q3, q4, q5⟩ := HPP.out.cells
  have HS3 := Lib.hid s3'
  have hPB : w.heap.size < w2.heap.size := HP2.out.lt
  have hbP : b ≠ w2.heap.size := by omega
  have HPL := Lib.hid HPP.out.lt
  go_wp2_with fail
  clear g3 q0 q1 q2 q3 q4 q5
  clear s3'
  go_loopw [7] (fun i wr => ∃ n : Nat, 1 ≤ n ∧ n ≤ 6 ∧ i = .int .i64 n ∧ ScS w b off w2.heap.size y ⟨str g, str a, str u, str c, str v, scK (str y) n⟩ wr) (fun i _ => 6 - (intOf i).toNat)
  case atStart =>
    refine ⟨1, by omega, by omega, rfl, ?_⟩
    rw [scK_one]
    exact ScS.setC ⟨HS3.out, HPP.out, HP3.out, HB3.out⟩ hbP hPB (str c)
  case round =>
    obtain ⟨n, hn1, hn6, rfl, hS⟩ := hrel
    by_cases hn5 : n ≤ 5
    · have hnI : (n : Int) ≤ 5 := by omega
      have hwd := fun w => refWord_any (n : Int) w
      have hcmp := word_is n y hn1 hn5
      have hS0 := hS
      obtain ⟨z3, zP, zB, zb⟩ := hS
      by_cases hsc : scopeI (str y) = n
      · have hcm : ((wordS n).toList == (str y).toList) = true := by rw [hcmp]; exact decide_eq_true hsc
        have HSC := Lib.hid hsc
        generalize wordS n = wd at hwd hcm
        have HW := Lib.hid hwd
        clear hcmp hsc hwd
        go_wp2_with fail
        go_region_held3 (fun w' => w'.cell? ⟨b, off + 3, none⟩ = some (.string (str y)) ∧ PR w' w2.heap.size ⟨str g, str a, str u, str c, str v, scK (str y) n⟩ ∧ PR w' w.heap.size pn0 ∧ Below w.heap.size w w')
          (first | with_reducible exact hS0.drew | with_reducible exact ScS.below (by assumption) (by assumption))
          (first | (go_at_call 31; (with_reducible refine (HW.out _).mono ?_); rintro e wq ⟨rfl, hbq⟩))
        have hS2 : ScS w b off w2.heap.size y ⟨str g, str a, str u, str c, str v, scK (str y) n⟩ wq := by assumption
        clear hS0 z3 zP zB zb
        have HS2 := Lib.hid hS2
        have g5 := hS2.2.1.frozen 5
        obtain ⟨q0, q1, q2, q3, q4, q5⟩ := hS2.2.1.cells
        clear hS2
        go_wp2_with fail
        clear g5 q0 q1 q2 q3 q4 q5
        go_roundw
        case rel =>
          refine ⟨n + 1, by omega, by omega, by go_num, ?_⟩
          rw [scK_hit HSC.out]
          exact ScS.setSc HS2.out hbP hPB n
        case measure => simp [intOf]; omega
      · have hcm : ((wordS n).toList == (str y).toList) = false := by rw [hcmp]; exact decide_eq_false hsc
        have HSC := Lib.hid hsc
        generalize wordS n = wd at hwd hcm
        have HW := Lib.hid hwd
        clear hcmp hsc hwd
        go_wp2_with fail
        go_region_held3 (fun w' => w'.cell? ⟨b, off + 3, none⟩ = some (.string (str y)) ∧ PR w' w2.heap.size ⟨str g, str a, str u, str c, str v, scK (str y) n⟩ ∧ PR w' w.heap.size pn0 ∧ Below w.heap.size w w')
          (first | with_reducible exact hS0.drew | with_reducible exact ScS.below (by assumption) (by assumption))
          (first | (go_at_call 31; (with_reducible refine (HW.out _).mono ?_); rintro e wq ⟨rfl, hbq⟩))
        have hS2 : ScS w b off w2.heap.size y ⟨str g, str a, str u, str c, str v, scK (str y) n⟩ wq := by assumption
        clear hS0 z3 zP zB zb
        have HS2 := Lib.hid hS2
        have g5 := hS2.2.1.frozen 5
        obtain ⟨q0, q1, q2, q3, q4, q5⟩ := hS2.2.1.cells
        clear hS2
        go_wp2_with fail
        clear g5 q0 q1 q2 q3 q4 q5
        go_roundw
        case rel =>
          refine ⟨n + 1, by omega, by omega, by go_num, ?_⟩
          rw [scK_miss HSC.out]
          exact HS2.out
        case measure => simp [intOf]; omega
    · have hn : n = 6 := by omega
      subst hn
      rw [scK_six] at hS
      have HS := Lib.hid (ScS.drew hS)
      have f0 := hS.2.2.1.frozen 0
      have f1 := hS.2.2.1.frozen 1
      have f2 := hS.2.2.1.frozen 2
      have f3 := hS.2.2.1.frozen 3
      have f4 := hS.2.2.1.frozen 4
      have f5 := hS.2.2.1.frozen 5
      obtain ⟨q0, q1, q2, q3, q4, q5⟩ := hS.2.1.cells
      obtain ⟨y0, y1, y2, y3, y4, y5⟩ := hS.2.2.1.cells
      unfold pn0 at y0 y1 y2 y3 y4 y5
      simp only at y0 y1 y2 y3 y4 y5 q0 q1 q2 q3 q4 q5
      have HMP := Lib.hid (fun w => refMayPin_any ⟨str g, str a, str u, str c, str v, scR (str y)⟩ HOK.out w)
      unfold pnV at HMP
      simp only at HMP
      clear hS
      go_wp2_with fail
      go_region_with (refine (HMP.out _).mono ?_; rintro e wq ⟨rfl, hbq⟩; have HPq := Lib.hid (HS.out.2.2.1.below hbq); have HBq := Lib.hid (HS.out.2.2.2.trans (hbq.mono HS.out.2.2.2.size)); have j0 := HPq.out.frozen 0; have j1 := HPq.out.frozen 1; have j2 := HPq.out.frozen 2; have j3 := HPq.out.frozen 3; have j4 := HPq.out.frozen 4; have j5 := HPq.out.frozen 5; obtain ⟨x0, x1, x2, x3, x4, x5⟩ := HPq.out.cells; obtain ⟨m0, m1, m2, m3, m4, m5⟩ := (HS.out.2.1.below hbq).cells; unfold pn0 at x0 x1 x2 x3 x4 x5; simp only at x0 x1 x2 x3 x4 x5 m0 m1 m2 m3 m4 m5)
      all_goals
        go_wp2
        refine bodyPost_ret (pin_results _ _ w.heap.size ⟨str g, str a, str u, str c, str v, scR (str y)⟩ _ rfl rfl (HPq.out.set ⟨str g, str a, str u, str c, str v, scR (str y)⟩)) rfl ?_
        exact ⟨rfl, below_setP HBq.out (Nat.le_refl _) ⟨str g, str a, str u, str c, str v, scR (str y)⟩⟩
theorem refPin_any (s : ByteArray) (hs : s.size ≤ 3000) (w : World) :
    Calls Tryd.prog 38 #[.string s] w (PinPost (pinR s.data.toList).1 (pinR s.data.toList).2 w) := by
  unfold pinR
  by_cases h4 : (pcd 32 s.data.toList).length = 4
  · obtain ⟨x, k, v, y, hp⟩ : ∃ x k v y, pcd 32 s.data.toList = [x, k, v, y] := by
      match pcd 32 s.data.toList, h4 with
      | [x, k, v, y], _ => exact ⟨x, k, v, y, rfl⟩
    rw [hp]
    simp only
    by_cases hx : x = wPin
    · rw [if_pos hx]
      unfold keyR
      by_cases k3 : (pcd 58 k).length = 3
      · obtain ⟨g, a, u, hk⟩ : ∃ g a u, pcd 58 k = [g, a, u] := by
          match pcd 58 k, k3 with
          | [g, a, u], _ => exact ⟨g, a, u, rfl⟩
        rw [hk]
        exact refPin_E s hs x k v y g a u hp hx hk w
      · by_cases k4 : (pcd 58 k).length = 4
        · obtain ⟨g, a, u, c, hk⟩ : ∃ g a u c, pcd 58 k = [g, a, u, c] := by
            match pcd 58 k, k4 with
            | [g, a, u, c], _ => exact ⟨g, a, u, c, rfl⟩
          rw [hk]
          simp only
          by_cases hc : c = []
          · rw [if_pos hc]
            subst hc
            exact refPin_D s hs x k v y g a u hp hx hk w
          · rw [if_neg hc]
            exact refPin_F s hs x k v y g a u c hp hx hk hc w
        · have hC := refPin_C s hs x k v y hp hx k3 k4 w
          match h : pcd 58 k, k3, k4 with
          | [], _, _ => exact hC
          | [_], _, _ => exact hC
          | [_, _], _, _ => exact hC
          | _ :: _ :: _ :: _ :: _ :: _, _, _ => exact hC
    · rw [if_neg hx]
      exact refPin_B s hs x k v y hp hx w
  · have hA := refPin_A s hs h4 w
    match h : pcd 32 s.data.toList, h4 with
    | [], _ => exact hA
    | [_], _ => exact hA
    | [_, _], _ => exact hA
    | [_, _, _], _ => exact hA
    | _ :: _ :: _ :: _ :: _ :: _, _ => exact hA
end Go.Proofs.YtcmojpfolmcaoaaDoor
