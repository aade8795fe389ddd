/-
  Layer 2: the answer's reader in memory; contracts of its small methods. Own work.
-/
import Derived.Test.YtldgjiohigiioaaRd2b
import Derived.Deep.RegionHeld3
namespace Go.Proofs.Ytldgjiohigiioaa
set_option linter.unusedVariables false
set_option linter.unusedSimpArgs false
open Go.RowKit

/-- the answer's reader in block X has r of l still to read; its error is c, at o -/
def RR (w : World) (X : Nat) (l r : List UInt8) (c o : Int) : Prop :=
  r <:+ l ∧ w.heap[X]? = some (.cells #[.string (str l), .int .i64 ((l.length - r.length : Nat) : Int), .int .i64 c, .int .i64 o] 63 (0, 0))
section
variable {w w' : World} {X : Nat} {l r r' : List UInt8} {c o : Int}
theorem RR.lt (h : RR w X l r c o) : X < w.heap.size := (Array.getElem?_eq_some_iff.1 h.2).1
theorem RR.cells (h : RR w X l r c o) : w.cell? ⟨X, 0, none⟩ = some (.string (str l)) ∧ w.cell? ⟨X, 1, none⟩ = some (.int .i64 ((l.length - r.length : Nat) : Int)) ∧ w.cell? ⟨X, 2, none⟩ = some (.int .i64 c) ∧ w.cell? ⟨X, 3, none⟩ = some (.int .i64 o) := by
  refine ⟨?_, ?_, ?_, ?_⟩
  · rw [cell_of_row w X 0 _ _ (0, 0) h.2]; rfl
  · rw [cell_of_row w X 1 _ _ (0, 0) h.2]; rfl
  · rw [cell_of_row w X 2 _ _ (0, 0) h.2]; rfl
  · rw [cell_of_row w X 3 _ _ (0, 0) h.2]; rfl
theorem RR.frozen (h : RR w X l r c o) (k : Nat) : w.frozen? ⟨X, k, none⟩ = false := frozen_of_row w X k _ _ h.2
theorem RR.below (h : RR w X l r c o) (hb : Below w.heap.size w w') : RR w' X l r c o := ⟨h.1, (hb.block X h.lt).trans h.2⟩
theorem RR.kept {row : Option Nat} (h : RR w X l r c o) (hg : w.grownBy w' row) (hr : row ≠ some X) : RR w' X l r c o := ⟨h.1, (hg.block X h.lt (fun e => hr e.symm)).trans h.2⟩
theorem RR.put (h : RR w X l r c o) (h2 : r' <:+ l) (e : Int) (he : e = ((l.length - r'.length : Nat) : Int)) : RR (w.setCell ⟨X, 1, none⟩ (.int .i64 e)) X l r' c o := ⟨h2, by rw [he]; exact heap_setCell_same w X 1 _ _ _ h.2⟩
end
/-- what a method leaves -/
def RM (X : Nat) (l r : List UInt8) (c o : Int) (w w' : World) : Prop := RR w' X l r c o ∧ w.grownBy w' (some X)
section
variable {w w1 w2 : World} {X : Nat} {l r r' : List UInt8} {c o c' o' : Int}
theorem RM.trans (h : RM X l r c o w w1) (k : RM X l r' c' o' w1 w2) : RM X l r' c' o' w w2 := ⟨k.1, h.2.trans k.2⟩
theorem RM.refl (h : RR w X l r c o) : RM X l r c o w w := ⟨h, World.grownBy.refl _ _⟩
theorem RM.drew0 (h : RR w X l r c o) : RM X l r c o w w.drew := ⟨h, ⟨rfl, rfl, rfl, Nat.le_refl _, fun _ _ _ => rfl⟩⟩
theorem RM.drew (h : RR w X l r c o) (q : Nat) : RM X l r c o w (w.drewN q) := ⟨h.below (below_drewN (Below.refl _ w) q), drewN_grown w q _⟩
theorem RM.below (h : RR w X l r c o) (hb : Below w.heap.size w w1) : RM X l r c o w w1 := ⟨h.below hb, ⟨hb.os, hb.tape, hb.output, hb.size, fun k hk _ => hb.block k hk⟩⟩
theorem RM.put (h : RR w X l r c o) (h2 : r' <:+ l) (e : Int) (he : e = ((l.length - r'.length : Nat) : Int)) : RM X l r' c o w (w.setCell ⟨X, 1, none⟩ (.int .i64 e)) := ⟨h.put h2 e he, set_grown2 w X 1 _⟩
end
/-- the byte at k of r, in l -/
theorem suf_get {l r : List UInt8} (h : r <:+ l) (k : Nat) : l[l.length - r.length + k]? = r[k]? := by
  obtain ⟨q, rfl⟩ := h
  rw [List.length_append, Nat.add_sub_cancel, List.getElem?_append_right (by omega)]
  congr 1
  omega
set_option maxHeartbeats 1000000 in
theorem rat_some (X : Nat) (l r : List UInt8) (c o : Int) (k : Nat) (b : UInt8) (hb : r[k]? = some b) (hl : l.length ≤ 1000000) (w : World) (h : RR w X l r c o) :
    Calls Try.prog 40 #[.pointer (some ⟨X, 0, none⟩), .int .i64 (k : Int)] w fun e w' => e = .returned (.int .u8 (b.toNat : Int)) ∧ RM X l r c o w w' := by
  obtain ⟨c0, c1, c2, c3⟩ := h.cells
  have H := Lib.hid h
  have hk := (List.getElem?_eq_some_iff.1 hb).1
  have hll := suf_len h.1
  have hi := fun w => bidx2 (str l) (l.length - r.length + k) b (by rw [toList_str, suf_get h.1]; exact hb) w
  have hlt : ((l.length - r.length : Nat) : Int) + (k : Int) < ((str l).size : Int) := by rw [size_str]; omega
  have hbd : ((str l).size : Int) ≤ 1000000 := by rw [size_str]; omega
  generalize l.length - r.length = n at c1 hi hlt
  have hi2 : ∀ w, (Instr.index 9 (.string (str l)) (.int .i64 ((n : Int) + (k : Int)))).run Try.prog w = .ok (.int .u8 (b.toNat : Int)) w := fun w => by
    have := hi w
    rwa [show ((n + k : Nat) : Int) = (n : Int) + (k : Int) by omega] at this
  clear h hk hll hi hb
  go_enter Try.func40, Try.ntmps40
  go_wp2_with fail
  go_region
  all_goals go_upto_region 3 with fail
  go_region
  all_goals go_wp2
  go_ret
  exact ⟨rfl, (RM.drew0 H.out).trans (RM.drew0 (RM.drew0 H.out).1)⟩
set_option maxHeartbeats 1000000 in
theorem rat_none (X : Nat) (l r : List UInt8) (c o : Int) (k : Nat) (hk : r.length ≤ k) (hk2 : k ≤ 100) (hl : l.length ≤ 1000000) (w : World) (h : RR w X l r c o) :
    Calls Try.prog 40 #[.pointer (some ⟨X, 0, none⟩), .int .i64 (k : Int)] w fun e w' => e = .returned (.int .u8 0) ∧ RM X l r c o w w' := by
  obtain ⟨c0, c1, c2, c3⟩ := h.cells
  have H := Lib.hid h
  have hll := suf_len h.1
  have hlt : ((str l).size : Int) ≤ ((l.length - r.length : Nat) : Int) + (k : Int) := by rw [size_str]; omega
  have hbd : ((l.length - r.length : Nat) : Int) ≤ 1000000 := by omega
  have hkI : (k : Int) ≤ 100 := by omega
  generalize l.length - r.length = n at c1 hlt hbd
  clear h hk hll hk2
  go_enter Try.func40, Try.ntmps40
  go_wp2_with fail
  go_region
  all_goals go_wp2
  go_ret
  exact ⟨rfl, RM.drew0 H.out⟩
set_option maxHeartbeats 1000000 in
theorem rfail_no (X : Nat) (l r : List UInt8) (c o e0 off : Int) (hc : (c == 0) = false) (w : World) (h : RR w X l r c o) :
    Calls Try.prog 61 #[.pointer (some ⟨X, 0, none⟩), .int .i64 e0, .int .i64 off] w fun e w' => e = .returned (.tuple #[]) ∧ w' = w := by
  obtain ⟨c0, c1, c2, c3⟩ := h.cells
  clear h
  go_enter Try.func61, Try.ntmps61
  go_wp2
  go_end0
  exact ⟨rfl, rfl⟩
set_option maxHeartbeats 1000000 in
theorem rfail_yes (X : Nat) (l r : List UInt8) (o e0 off : Int) (w : World) (h : RR w X l r 0 o) :
    Calls Try.prog 61 #[.pointer (some ⟨X, 0, none⟩), .int .i64 e0, .int .i64 off] w fun e w' => e = .returned (.tuple #[]) ∧ RM X l r e0 off w w' := by
  obtain ⟨c0, c1, c2, c3⟩ := h.cells
  have f2 := h.frozen 2
  have f3 := h.frozen 3
  have H := Lib.hid h
  have hrow := h.2
  clear h
  go_enter Try.func61, Try.ntmps61
  have hset := heap_setCell_same w X 2 _ _ (.int .i64 e0) hrow
  have hg := set_grown2 w X 2 (.int .i64 e0)
  go_upto_region 2 with fail
  generalize w.setCell ⟨X, 2, none⟩ (.int .i64 e0) = w2 at hset hg ⊢
  clear c0 c1 c2 c3 f2 f3 hrow
  have hrow : w2.heap[X]? = some (.cells #[.string (str l), .int .i64 ((l.length - r.length : Nat) : Int), .int .i64 e0, .int .i64 o] 63 (0, 0)) := hset
  have y3 : w2.cell? ⟨X, 3, none⟩ = some (.int .i64 o) := by rw [cell_of_row w2 X 3 _ _ (0, 0) hrow]; rfl
  have f3 := frozen_of_row w2 X 3 _ _ hrow
  have HG := Lib.hid (hg.trans (set_grown2 w2 X 3 (.int .i64 off)))
  have HSET := Lib.hid (heap_setCell_same w2 X 3 _ _ (.int .i64 off) hrow)
  clear hrow hset hg
  go_wp2
  go_end0
  exact ⟨rfl, ⟨H.out.1, HSET.out⟩, HG.out⟩
/-- is something wrong, or nothing left? -/
def RfE (X : Nat) (l r : List UInt8) (w w' : World) : Prop := (r = [] → RM X l r 13 (l.length : Int) w w') ∧ (r ≠ [] → RM X l r 0 0 w w')
set_option maxHeartbeats 1000000 in
theorem rend_bad (X : Nat) (l r : List UInt8) (c o : Int) (hc : (c == 0) = false) (w : World) (h : RR w X l r c o) :
    Calls Try.prog 60 #[.pointer (some ⟨X, 0, none⟩)] w fun e w' => e = .returned (.bool true) ∧ RM X l r c o w w' := by
  obtain ⟨c0, c1, c2, c3⟩ := h.cells
  have H := Lib.hid h
  have hll := suf_len h.1
  have HD := Lib.hid (RM.drew0 h)
  have HF := Lib.hid (fun off => rfail_no X l r c o 13 off hc w.drew (RM.drew0 h).1)
  obtain ⟨d0, d1, d2, d3⟩ := (RM.drew0 h).1.cells
  have hcn : (c != 0) = true := by rw [bne, hc]; rfl
  by_cases hr : r = []
  · have hle : ((str l).size : Int) ≤ ((l.length - r.length : Nat) : Int) := by rw [size_str, hr]; simp
    generalize l.length - r.length = n at c1 d1 hle
    clear h hll hr
    go_enter Try.func60, Try.ntmps60
    go_wp2_with fail
    go_region
    all_goals go_upto_region 2 with fail
    go_wp2_with fail
    refine (HF.out _).mono ?_
    rintro e w2 ⟨rfl, rfl⟩
    go_wp2
    go_ret
    exact ⟨rfl, HD.out⟩
  · have hle : ((l.length - r.length : Nat) : Int) < ((str l).size : Int) := by
      have := List.length_pos_iff.2 hr
      rw [size_str]; omega
    generalize l.length - r.length = n at c1 d1 hle
    clear h hll hr
    go_enter Try.func60, Try.ntmps60
    go_wp2_with fail
    go_region
    all_goals go_wp2
    go_ret
    exact ⟨rfl, HD.out⟩
set_option maxHeartbeats 1000000 in
theorem rend_ok (X : Nat) (l r : List UInt8) (w : World) (h : RR w X l r 0 0) :
    Calls Try.prog 60 #[.pointer (some ⟨X, 0, none⟩)] w fun e w' => e = .returned (.bool r.isEmpty) ∧ RfE X l r w w' := by
  obtain ⟨c0, c1, c2, c3⟩ := h.cells
  have H := Lib.hid h
  have hll := suf_len h.1
  have HD := Lib.hid (RM.drew0 h)
  have HF := Lib.hid (rfail_yes X l r 0 13 ((str l).size : Int) w.drew (RM.drew0 h).1)
  obtain ⟨d0, d1, d2, d3⟩ := (RM.drew0 h).1.cells
  by_cases hr : r = []
  · subst hr
    have hle : ((str l).size : Int) ≤ ((l.length - ([] : List UInt8).length : Nat) : Int) := by rw [size_str]; simp
    generalize l.length - ([] : List UInt8).length = n at c1 d1 hle
    clear h hll
    go_enter Try.func60, Try.ntmps60
    go_wp2_with fail
    go_region
    all_goals go_upto_region 2 with fail
    go_wp2_with fail
    refine HF.out.mono ?_
    rintro e w2 ⟨rfl, hm⟩
    have HM := Lib.hid (HD.out.trans hm)
    obtain ⟨e0, e1, e2, e3⟩ := hm.1.cells
    clear hm d0 d1 d2 d3 c0 c1 c2 c3
    go_wp2
    go_ret
    exact ⟨rfl, fun _ => by rw [← size_str l]; exact HM.out, fun h => absurd rfl h⟩
  · have hle : ((l.length - r.length : Nat) : Int) < ((str l).size : Int) := by
      have := List.length_pos_iff.2 hr
      rw [size_str]; omega
    have HR := Lib.hid hr
    have HE := Lib.hid (show r.isEmpty = false by simpa using hr)
    generalize l.length - r.length = n at c1 d1 hle
    clear h hll hr
    go_enter Try.func60, Try.ntmps60
    go_wp2_with fail
    go_region
    all_goals go_wp2
    go_ret
    exact ⟨ret_bool HE.out.symm, fun h => absurd h HR.out, fun _ => HD.out⟩
set_option maxRecDepth 100000 in
set_option maxHeartbeats 2000000 in
theorem rbegins_at (X : Nat) (l r f : List UInt8) (c o : Int) (hf : f.length ≤ 100) (hl : l.length ≤ 1000000) (w : World) (h : RR w X l r c o) :
    Calls Try.prog 38 #[.pointer (some ⟨X, 0, none⟩), .string (str f)] w fun e w' => e = .returned (.bool (f.isPrefixOf r)) ∧ RM X l r c o w w' := by
  obtain ⟨c0, c1, c2, c3⟩ := h.cells
  have H := Lib.hid h
  have hll := suf_len h.1
  have hsz := size_str l
  have hfz := size_str f
  by_cases hle : f.length ≤ r.length
  · have hx : (str l).extract (l.length - r.length) (l.length - r.length + (str f).size) = str (r.take f.length) := by
      rw [ext_str, toList_str, hfz, List.drop_take, suf_drop h.1]
      congr 2
      omega
    have hq : ((str (r.take f.length)).toList == (str f).toList) = f.isPrefixOf r := by
      rw [ByteArray.toList_eq, ByteArray.toList_eq, toList_str, toList_str, Bool.eq_iff_iff, beq_iff_eq, List.isPrefixOf_iff_prefix, List.prefix_iff_eq_take]
      exact eq_comm
    have hsl : ∀ w, (Instr.slice 9 (.string (str l)) (some (.int .i64 ((l.length - r.length : Nat) : Int))) (some (.int .i64 (((l.length - r.length : Nat) : Int) + ((str f).size : Int)))) none).run Try.prog w = .ok (.string (str (r.take f.length))) w := fun w => by
      rw [run_slice_string w 9 _ _ _ _ _ Try.underlying9 (by omega) (by omega) (by omega), ← hx]
      congr 3
    have hge : ((str f).size : Int) ≤ ((str l).size : Int) - ((l.length - r.length : Nat) : Int) := by omega
    have hbd : ((str l).size : Int) ≤ 1000000 := by omega
    have hn0 : ((l.length - r.length : Nat) : Int) ≤ ((str l).size : Int) := by omega
    have hfd : ((str f).size : Int) ≤ 100 := by omega
    generalize f.isPrefixOf r = q at hq ⊢
    generalize str (r.take f.length) = sx at hq hsl
    generalize l.length - r.length = n at c1 hsl hge hn0
    clear h hll hle hx hsz hfz hl hf
    go_enter Try.func38, Try.ntmps38
    go_wp2_with fail
    go_quiet (fail)
    go_wp2
    go_ret
    exact ⟨rfl, RM.drew H.out _⟩
  · have hno : f.isPrefixOf r = false := by
      rw [Bool.eq_false_iff]
      intro hp
      exact hle (List.isPrefixOf_iff_prefix.1 hp).length_le
    have hge : decide (((str f).size : Int) ≤ ((str l).size : Int) - ((l.length - r.length : Nat) : Int)) = false := decide_eq_false (by omega)
    have hbd : ((str l).size : Int) ≤ 1000000 := by omega
    have hn0 : ((l.length - r.length : Nat) : Int) ≤ ((str l).size : Int) := by omega
    have hfd : ((str f).size : Int) ≤ 100 := by omega
    rw [hno]
    have hgw : IntKind.i64.wrap (((str l).size : Int) - ((l.length - r.length : Nat) : Int)) = ((str l).size : Int) - ((l.length - r.length : Nat) : Int) := IntWalk.i64_in _ (by omega)
    generalize l.length - r.length = n at c1 hge hn0 hgw
    clear h hll hle hsz hfz hl hf hno
    go_enter Try.func38, Try.ntmps38
    go_wp2_with fail
    go_quiet (fail)
    go_wp2
    go_ret
    exact ⟨rfl, RM.drew H.out _⟩
end Go.Proofs.Ytldgjiohigiioaa
