/-
  Layer 2: the reader in memory; contracts of its small methods. Own work.
-/
import Derived.Test.YtpbkidmdfibaoaaGreatDoorTk2
import Derived.Test.YtpbkidmdfibaoaaGreatDoorAt
import Derived.WalkLawsBesides
import Derived.WalkSmall
import Derived.Maps.AppendAt
import Derived.Deep.Cut
import Derived.Deep.CutRange
import Derived.Deep.QuietTactic
import Derived.BigQuiet
import Derived.Test.YtpbkidmdfibaoaaGreatDoorName2
namespace Go.Proofs.YtpbkidmdfibaoaaGreatDoor
set_option linter.unusedVariables false
set_option linter.unusedSimpArgs false
open Go.RowKit

/-- what is ahead of r in l -/
def preO (l r : List UInt8) : List UInt8 := l.take (l.length - r.length)
theorem pre_app {l r : List UInt8} (h : r <:+ l) : preO l r ++ r = l := by
  obtain ⟨q, rfl⟩ := h
  unfold preO
  rw [List.length_append, Nat.add_sub_cancel, List.take_left]
theorem pre_len {l r : List UInt8} (h : r <:+ l) : (preO l r).length = l.length - r.length := by
  unfold preO
  rw [List.length_take]
  omega
theorem pre_cons {l r : List UInt8} {c : UInt8} (h : c :: r <:+ l) : preO l r = preO l (c :: r) ++ [c] := by
  obtain ⟨q, rfl⟩ := h
  have h1 : preO (q ++ c :: r) (c :: r) = q := by unfold preO; rw [List.length_append, Nat.add_sub_cancel, List.take_left]
  have h2 : preO (q ++ c :: r) r = q ++ [c] := by
    have : q ++ c :: r = (q ++ [c]) ++ r := by simp
    rw [this]
    unfold preO
    rw [List.length_append, Nat.add_sub_cancel, List.take_left]
  rw [h1, h2]
theorem suf_len {l r : List UInt8} (h : r <:+ l) : r.length ≤ l.length := h.length_le
/-- the reader in block X has r of l still to read -/
def RT (w : World) (X : Nat) (l r : List UInt8) : Prop :=
  r <:+ l ∧ w.heap[X]? = some (.cells #[.int .i64 ((l.length - r.length : Nat) : Int), .int .i64 (lineS (preO l r)), .int .i64 (colS (preO l r)), .string (str l)] 76 (0, 0))
section
variable {w w' : World} {X : Nat} {l r r' : List UInt8}
theorem RT.lt (h : RT w X l r) : X < w.heap.size := (Array.getElem?_eq_some_iff.1 h.2).1
theorem RT.cells (h : RT w X l r) : w.cell? ⟨X, 0, none⟩ = some (.int .i64 ((l.length - r.length : Nat) : Int)) ∧ w.cell? ⟨X, 1, none⟩ = some (.int .i64 (lineS (preO l r))) ∧ w.cell? ⟨X, 2, none⟩ = some (.int .i64 (colS (preO l r))) ∧ w.cell? ⟨X, 3, none⟩ = some (.string (str l)) := by
  refine ⟨?_, ?_, ?_, ?_⟩
  · rw [cell_of_row w X 0 _ _ (0, 0) h.2]; rfl
  · rw [cell_of_row w X 1 _ _ (0, 0) h.2]; rfl
  · rw [cell_of_row w X 2 _ _ (0, 0) h.2]; rfl
  · rw [cell_of_row w X 3 _ _ (0, 0) h.2]; rfl
theorem RT.frozen (h : RT w X l r) (o : Nat) : w.frozen? ⟨X, o, none⟩ = false := frozen_of_row w X o _ _ h.2
theorem RT.below (h : RT w X l r) (hb : Below w.heap.size w w') : RT w' X l r := ⟨h.1, (hb.block X h.lt).trans h.2⟩
theorem RT.kept {row : Option Nat} (h : RT w X l r) (hg : w.grownBy w' row) (hr : row ≠ some X) : RT w' X l r := ⟨h.1, (hg.block X h.lt (fun e => hr e.symm)).trans h.2⟩
end
/-- what a method of the reader leaves: r still to read, all else as it was -/
def Mv (X : Nat) (l r : List UInt8) (w w' : World) : Prop := RT w' X l r ∧ w.grownBy w' (some X)
theorem Mv.trans {X : Nat} {l r r' : List UInt8} {w w1 w2 : World} (h : Mv X l r w w1) (k : Mv X l r' w1 w2) : Mv X l r' w w2 := ⟨k.1, h.2.trans k.2⟩
theorem Mv.refl {X : Nat} {l r : List UInt8} {w : World} (h : RT w X l r) : Mv X l r w w := ⟨h, World.grownBy.refl _ _⟩
theorem below_drewN {B : Nat} {a w : World} (h : Below B a w) (n : Nat) : Below B a (w.drewN n) := ⟨h.os, h.tape, h.output, h.size, h.block⟩
theorem drewN_grown (w : World) (q : Nat) (row : Option Nat) : w.grownBy (w.drewN q) row := by
  have h := below_drewN (Below.refl w.heap.size w) q
  exact ⟨h.os, h.tape, h.output, h.size, fun k hk _ => h.block k hk⟩
theorem Mv.drew0 {X : Nat} {l r : List UInt8} {w : World} (h : RT w X l r) : Mv X l r w w.drew := ⟨h, ⟨rfl, rfl, rfl, Nat.le_refl _, fun _ _ _ => rfl⟩⟩
theorem Mv.drew {X : Nat} {l r : List UInt8} {w : World} (h : RT w X l r) (q : Nat) : Mv X l r w (w.drewN q) := ⟨h.below (below_drewN (Below.refl _ w) q), drewN_grown w q _⟩
theorem set_grown2 (w : World) (b o : Nat) (v : Value) : w.grownBy (w.setCell ⟨b, o, none⟩ v) (some b) :=
  ⟨rfl, rfl, rfl, by simp, fun k _ hk => heap_setCell_other w ⟨b, o, none⟩ k v (fun e => hk (by simp [e]))⟩
/-- a fault e, at the place where r begins -/
abbrev bad2 (e : Int) (l r : List UInt8) : Ending := .panicked [{ v := .iface 72 (.agg #[.int .i64 e, .int .i64 ((l.length - r.length : Nat) : Int), .int .i64 (lineS (preO l r)), .int .i64 (colS (preO l r))]), recovered := false }]
set_option maxHeartbeats 1000000 in
theorem fail_at (X : Nat) (l r : List UInt8) (e0 : Int) (w : World) (h : RT w X l r) :
    Calls Tryz.prog 39 #[.pointer (some ⟨X, 0, none⟩), .int .i64 e0] w fun e w' => e = bad2 e0 l r ∧ w' = w := by
  obtain ⟨c0, c1, c2, c3⟩ := h.cells
  clear h
  go_enter Tryz.func39, Tryz.ntmps39
  go_wp2
  exact ⟨rfl, rfl, rfl⟩
set_option maxHeartbeats 1000000 in
theorem ended_at (X : Nat) (l r : List UInt8) (w : World) (h : RT w X l r) :
    Calls Tryz.prog 40 #[.pointer (some ⟨X, 0, none⟩)] w fun e w' => e = .returned (.bool r.isEmpty) ∧ Mv X l r w w' := by
  obtain ⟨c0, c1, c2, c3⟩ := h.cells
  have H := Lib.hid h
  have hlen := suf_len h.1
  have hq : (((l.length - r.length : Nat) : Int) == ((str l).size : Int)) = r.isEmpty := by
    rw [size_str, Bool.eq_iff_iff]
    simp only [beq_iff_eq, List.isEmpty_iff]
    constructor
    · intro h1; exact List.eq_nil_of_length_eq_zero (by have : 0 < l.length ∨ l.length = 0 := by omega
                                                        omega)
    · intro h1; subst h1; simp
  clear h hlen
  go_enter Tryz.func40, Tryz.ntmps40
  go_wp2_with fail
  go_region
  all_goals go_wp2
  go_ret
  exact ⟨rfl, Mv.drew0 H.out⟩
theorem bidx2 (s : ByteArray) (k : Nat) (c : UInt8) (h : s.data.toList[k]? = some c) (w : World) : (Instr.index 9 (.string s) (.int .i64 (k : Int))).run Tryz.prog w = .ok (.int .u8 (c.toNat : Int)) w := by
  have hk : k < s.size := by
    have := (List.getElem?_eq_some_iff.1 h).1
    simpa using this
  rw [btidx s k hk w]
  have h2 := bt_list s k hk
  rw [h2] at h
  cases h
  rfl
theorem suf_drop {l r : List UInt8} (h : r <:+ l) : l.drop (l.length - r.length) = r := by
  obtain ⟨q, rfl⟩ := h
  rw [List.length_append, Nat.add_sub_cancel, List.drop_left]
theorem suf_at {l r : List UInt8} {c : UInt8} (h : c :: r <:+ l) : l[l.length - (r.length + 1)]? = some c := by
  obtain ⟨q, rfl⟩ := h
  rw [List.length_append, List.length_cons, Nat.add_sub_cancel, List.getElem?_append_right (Nat.le_refl _)]
  simp
theorem ext_suf {l r : List UInt8} (h : r <:+ l) : (str l).extract (l.length - r.length) (str l).size = str r := by
  rw [ext_str, toList_str, size_str, List.take_length, suf_drop h]
set_option maxHeartbeats 1000000 in
theorem rest_at (X : Nat) (l r : List UInt8) (w : World) (h : RT w X l r) :
    Calls Tryz.prog 100 #[.pointer (some ⟨X, 0, none⟩)] w fun e w' => e = .returned (.string (str r)) ∧ Mv X l r w w' := by
  obtain ⟨c0, c1, c2, c3⟩ := h.cells
  have H := Lib.hid h
  have hx := ext_suf h.1
  have hle : ((l.length - r.length : Nat) : Int) ≤ ((str l).size : Int) := by rw [size_str]; omega
  have hle2 : l.length - r.length ≤ (str l).size := by rw [size_str]; omega
  generalize l.length - r.length = n at c0 hx hle hle2
  clear h
  go_enter Tryz.func100, Tryz.ntmps100
  go_wp2_with fail
  go_region
  all_goals go_wp2
  go_ret
  exact ⟨rfl, Mv.drew0 H.out⟩
set_option maxHeartbeats 1000000 in
theorem begins_at (X : Nat) (l r f : List UInt8) (w : World) (h : RT w X l r) :
    Calls Tryz.prog 81 #[.pointer (some ⟨X, 0, none⟩), .string (str f)] w fun e w' => e = .returned (.bool (f.isPrefixOf r)) ∧ Mv X l r w w' := by
  have HR := Lib.hid (rest_at X l r w h)
  clear h
  go_enter Tryz.func81, Tryz.ntmps81
  go_wp2_with fail
  refine HR.out.mono ?_
  rintro e w2 ⟨rfl, hm⟩
  have HM := Lib.hid hm
  clear hm
  have HP := Lib.hid (Tryz.strings_HasPrefix (str r) (str f) w2)
  go_wp2_with fail
  refine HP.out.mono ?_
  rintro e w3 ⟨rfl, rfl⟩
  go_wp2
  go_ret
  exact ⟨rfl, HM.out⟩
set_option maxHeartbeats 1000000 in
theorem peek_end (X : Nat) (l : List UInt8) (w : World) (h : RT w X l []) :
    Calls Tryz.prog 79 #[.pointer (some ⟨X, 0, none⟩)] w fun e w' => e = bad2 13 l [] ∧ Mv X l [] w w' := by
  have HE := Lib.hid (ended_at X l [] w h)
  clear h
  go_enter Tryz.func79, Tryz.ntmps79
  go_wp2_with fail
  refine HE.out.mono ?_
  rintro e w2 ⟨rfl, hm⟩
  have HM := Lib.hid hm
  have HF := Lib.hid (fail_at X l [] 13 w2 hm.1)
  clear hm
  dsimp only [List.isEmpty]
  go_wp2_with fail
  refine HF.out.mono ?_
  rintro e w3 ⟨rfl, rfl⟩
  go_wp2
  exact ⟨rfl, rfl, HM.out⟩
set_option maxHeartbeats 1000000 in
theorem peek_at (X : Nat) (l r : List UInt8) (c : UInt8) (w : World) (h : RT w X l (c :: r)) :
    Calls Tryz.prog 79 #[.pointer (some ⟨X, 0, none⟩)] w fun e w' => e = .returned (.int .u8 (c.toNat : Int)) ∧ Mv X l (c :: r) w w' := by
  have HE := Lib.hid (ended_at X l (c :: r) w h)
  have HS := Lib.hid h.1
  clear h
  go_enter Tryz.func79, Tryz.ntmps79
  go_wp2_with fail
  refine HE.out.mono ?_
  rintro e w2 ⟨rfl, hm⟩
  have HM := Lib.hid hm
  obtain ⟨c0, c1, c2, c3⟩ := hm.1.cells
  have hi := fun w => bidx2 (str l) (l.length - (r.length + 1)) c (by rw [toList_str]; exact suf_at HS.out) w
  have hlt : l.length - (r.length + 1) < (str l).size := by have := suf_len HS.out; rw [size_str]; simp at this; omega
  simp only [List.length_cons] at c0
  generalize l.length - (r.length + 1) = n at c0 hi hlt
  clear hm
  dsimp only [List.isEmpty]
  go_upto_region 3 with fail
  go_region
  all_goals go_wp2
  go_ret
  exact ⟨rfl, HM.out.trans (Mv.drew0 HM.out.1)⟩
/-- what a skip over one byte writes -/
theorem RT.step {w : World} {X : Nat} {l r : List UInt8} {c : UInt8} {w' : World} (hs : c :: r <:+ l)
    (h : w'.heap[X]? = some (.cells #[.int .i64 ((l.length - (r.length + 1) : Nat) + 1 : Int), .int .i64 (if c = 10 then lineS (preO l (c :: r)) + 1 else lineS (preO l (c :: r))), .int .i64 (if c = 10 then 1 else colS (preO l (c :: r)) + 1), .string (str l)] 76 (0, 0))) : RT w' X l r := by
  have hl := suf_len hs
  simp only [List.length_cons] at hl
  refine ⟨(List.suffix_cons c r).trans hs, h.trans ?_⟩
  rw [pre_cons hs, lineS_snoc, colS_snoc]
  have : ((l.length - (r.length + 1) : Nat) + 1 : Int) = ((l.length - r.length : Nat) : Int) := by omega
  rw [this]
set_option maxRecDepth 100000 in
set_option maxHeartbeats 4000000 in
theorem skip_at (X : Nat) (l r : List UInt8) (n : Nat) (hn : n ≤ r.length) (hl : l.length ≤ 1000000) (w : World) (h : RT w X l r) :
    Calls Tryz.prog 98 #[.pointer (some ⟨X, 0, none⟩), .int .i64 (n : Int)] w fun e w' => e = .returned (.tuple #[]) ∧ Mv X l (r.drop n) w w' := by
  have H := Lib.hid h
  have hnI : (n : Int) ≤ 1000000 := by have := suf_len h.1; omega
  clear h
  go_enter Tryz.func98, Tryz.ntmps98
  go_wp2_with fail
  go_loopw [5] (fun i wr => ∃ k : Nat, k ≤ n ∧ i = .int .i64 k ∧ Mv X l (r.drop k) w wr) (fun i _ => n - (intOf i).toNat)
  case atStart => exact ⟨0, by omega, rfl, Mv.refl H.out⟩
  case round =>
    obtain ⟨k, hk, rfl, hm⟩ := hrel
    have HM := Lib.hid hm
    by_cases hlt : k < n
    · obtain ⟨c, r', hr'⟩ : ∃ c r', r.drop k = c :: r' := by
        cases hd : r.drop k with
        | nil => rw [List.drop_eq_nil_iff] at hd; omega
        | cons c r' => exact ⟨c, r', rfl⟩
      rw [hr'] at hm
      have HR' := Lib.hid (show r.drop (k + 1) = r' by rw [← List.drop_drop, hr']; rfl)
      have hsuf := hm.1.1
      have HSUF := Lib.hid hsuf
      have hb1 := colS_bd (preO l (c :: r'))
      have hb2 := lineS_bd (preO l (c :: r'))
      have hpl := pre_len hsuf
      have hll := suf_len hsuf
      simp only [List.length_cons] at hll hpl
      have hrow := hm.1.2
      simp only [List.length_cons] at hrow
      have HSTEP := Lib.hid (fun w' h => RT.step (X := X) (w := w) (w' := w') hsuf h)
      have hi := fun w => bidx2 (str l) (l.length - (r'.length + 1)) c (by rw [toList_str]; exact suf_at hsuf) w
      have hls : l.length - (r'.length + 1) < (str l).size := by rw [size_str]; omega
      have hoI : ((l.length - (r'.length + 1) : Nat) : Int) ≤ 1000000 := by omega
      generalize lineS (preO l (c :: r')) = li at hb2 hrow HSTEP
      generalize colS (preO l (c :: r')) = co at hb1 hrow HSTEP
      rw [hpl] at hb1 hb2
      generalize l.length - (r'.length + 1) = o at hrow hi hls hoI hb1 hb2 HSTEP
      have HROW := Lib.hid hrow
      have x0 : wr.cell? ⟨X, 0, none⟩ = some (.int .i64 (o : Int)) := by rw [cell_of_row wr X 0 _ _ (0, 0) hrow]; rfl
      have x1 : wr.cell? ⟨X, 1, none⟩ = some (.int .i64 li) := by rw [cell_of_row wr X 1 _ _ (0, 0) hrow]; rfl
      have x2 : wr.cell? ⟨X, 2, none⟩ = some (.int .i64 co) := by rw [cell_of_row wr X 2 _ _ (0, 0) hrow]; rfl
      have x3 : wr.cell? ⟨X, 3, none⟩ = some (.string (str l)) := by rw [cell_of_row wr X 3 _ _ (0, 0) hrow]; rfl
      have f2 := frozen_of_row wr X 2 _ _ hrow
      have hco : co ≤ 1000001 := by omega
      have hco1 : 1 ≤ co := hb1.1
      have hli : li ≤ 1000001 := by omega
      have hli1 : 1 ≤ li := hb2.1
      have hset := heap_setCell_same wr X 2 _ _ (.int .i64 (co + 1)) hrow
      have hg := set_grown2 wr X 2 (.int .i64 (co + 1))
      clear hm hsuf hpl hll hb1 hb2 hrow
      go_upto_region 3 with fail
      generalize wr.setCell ⟨X, 2, none⟩ (.int .i64 (co + 1)) = w2 at hset hg ⊢
      have hrow : w2.heap[X]? = some (.cells #[.int .i64 (o : Int), .int .i64 li, .int .i64 (co + 1), .string (str l)] 76 (0, 0)) := hset
      have HG2 := Lib.hid hg
      clear hset hg x0 x1 x2 x3 f2
      have y0 : w2.cell? ⟨X, 0, none⟩ = some (.int .i64 (o : Int)) := by rw [cell_of_row w2 X 0 _ _ (0, 0) hrow]; rfl
      have y1 : w2.cell? ⟨X, 1, none⟩ = some (.int .i64 li) := by rw [cell_of_row w2 X 1 _ _ (0, 0) hrow]; rfl
      have y2 : w2.cell? ⟨X, 2, none⟩ = some (.int .i64 (co + 1)) := by rw [cell_of_row w2 X 2 _ _ (0, 0) hrow]; rfl
      have y3 : w2.cell? ⟨X, 3, none⟩ = some (.string (str l)) := by rw [cell_of_row w2 X 3 _ _ (0, 0) hrow]; rfl
      have HROW2 := Lib.hid hrow
      clear hrow
      by_cases hc : c = 10
      · have hcb : ((c.toNat : Int) == 10) = true := by subst hc; rfl
        have HC := Lib.hid hc
        clear hc
        go_region
        all_goals go_upto_region 4 with fail
        have hrow : w2.drew.heap[X]? = some (.cells #[.int .i64 (o : Int), .int .i64 li, .int .i64 (co + 1), .string (str l)] 76 (0, 0)) := HROW2.out
        have HG3 := Lib.hid (HG2.out.trans (⟨rfl, rfl, rfl, Nat.le_refl _, fun _ _ _ => rfl⟩ : w2.grownBy w2.drew (some X)))
        generalize w2.drew = w3 at hrow HG3 ⊢
        clear y0 y1 y2 y3 hcb hi hls
        have y0 : w3.cell? ⟨X, 0, none⟩ = some (.int .i64 (o : Int)) := by rw [cell_of_row w3 X 0 _ _ (0, 0) hrow]; rfl
        have y1 : w3.cell? ⟨X, 1, none⟩ = some (.int .i64 li) := by rw [cell_of_row w3 X 1 _ _ (0, 0) hrow]; rfl
        have y2 : w3.cell? ⟨X, 2, none⟩ = some (.int .i64 (co + 1)) := by rw [cell_of_row w3 X 2 _ _ (0, 0) hrow]; rfl
        have y3 : w3.cell? ⟨X, 3, none⟩ = some (.string (str l)) := by rw [cell_of_row w3 X 3 _ _ (0, 0) hrow]; rfl
        have f1 := frozen_of_row w3 X 1 _ _ hrow
        have hset := heap_setCell_same w3 X 1 _ _ (.int .i64 (li + 1)) hrow
        have hg := HG3.out.trans (set_grown2 w3 X 1 (.int .i64 (li + 1)))
        clear hrow
        go_upto_region 5 with fail
        generalize w3.setCell ⟨X, 1, none⟩ (.int .i64 (li + 1)) = w4 at hset hg ⊢
        have hrow : w4.heap[X]? = some (.cells #[.int .i64 (o : Int), .int .i64 (li + 1), .int .i64 (co + 1), .string (str l)] 76 (0, 0)) := hset
        have HG4 := Lib.hid hg
        clear hset hg y0 y1 y2 y3 f1
        have y0 : w4.cell? ⟨X, 0, none⟩ = some (.int .i64 (o : Int)) := by rw [cell_of_row w4 X 0 _ _ (0, 0) hrow]; rfl
        have y1 : w4.cell? ⟨X, 1, none⟩ = some (.int .i64 (li + 1)) := by rw [cell_of_row w4 X 1 _ _ (0, 0) hrow]; rfl
        have y2 : w4.cell? ⟨X, 2, none⟩ = some (.int .i64 (co + 1)) := by rw [cell_of_row w4 X 2 _ _ (0, 0) hrow]; rfl
        have y3 : w4.cell? ⟨X, 3, none⟩ = some (.string (str l)) := by rw [cell_of_row w4 X 3 _ _ (0, 0) hrow]; rfl
        have f2 := frozen_of_row w4 X 2 _ _ hrow
        have hset := heap_setCell_same w4 X 2 _ _ (.int .i64 1) hrow
        have hg := HG4.out.trans (set_grown2 w4 X 2 (.int .i64 1))
        clear hrow
        go_upto_region 6 with fail
        generalize w4.setCell ⟨X, 2, none⟩ (.int .i64 1) = w5 at hset hg ⊢
        have hrow : w5.heap[X]? = some (.cells #[.int .i64 (o : Int), .int .i64 (li + 1), .int .i64 1, .string (str l)] 76 (0, 0)) := hset
        have HG5 := Lib.hid hg
        clear hset hg y0 y1 y2 y3 f2
        have y0 : w5.cell? ⟨X, 0, none⟩ = some (.int .i64 (o : Int)) := by rw [cell_of_row w5 X 0 _ _ (0, 0) hrow]; rfl
        have y1 : w5.cell? ⟨X, 1, none⟩ = some (.int .i64 (li + 1)) := by rw [cell_of_row w5 X 1 _ _ (0, 0) hrow]; rfl
        have y2 : w5.cell? ⟨X, 2, none⟩ = some (.int .i64 1) := by rw [cell_of_row w5 X 2 _ _ (0, 0) hrow]; rfl
        have y3 : w5.cell? ⟨X, 3, none⟩ = some (.string (str l)) := by rw [cell_of_row w5 X 3 _ _ (0, 0) hrow]; rfl
        have f0 := frozen_of_row w5 X 0 _ _ hrow
        have hset := heap_setCell_same w5 X 0 _ _ (.int .i64 ((o : Int) + 1)) hrow
        have HG6 := Lib.hid (HG5.out.trans (set_grown2 w5 X 0 (.int .i64 ((o : Int) + 1))))
        have HFIN := Lib.hid (HSTEP.out _ (by rw [if_pos HC.out, if_pos HC.out]; exact hset))
        clear hrow hset
        go_wp2
        go_roundw
        case rel => exact ⟨k + 1, by omega, by go_num, by rw [HR'.out]; exact ⟨HFIN.out, HM.out.2.trans HG6.out⟩⟩
        case measure => simp [intOf]; omega
      · have hcb : ((c.toNat : Int) == 10) = false := by
          rw [beq_eq_false_iff_ne]
          intro h
          exact hc (UInt8.toNat_inj.1 (by simpa using (show c.toNat = 10 by omega)))
        have HC := Lib.hid hc
        clear hc
        go_region
        all_goals go_upto_region 6 with fail
        have hrow : w2.drew.heap[X]? = some (.cells #[.int .i64 (o : Int), .int .i64 li, .int .i64 (co + 1), .string (str l)] 76 (0, 0)) := HROW2.out
        have HG3 := Lib.hid (HG2.out.trans (⟨rfl, rfl, rfl, Nat.le_refl _, fun _ _ _ => rfl⟩ : w2.grownBy w2.drew (some X)))
        generalize w2.drew = w3 at hrow HG3 ⊢
        clear y0 y1 y2 y3 hcb hi hls
        have y0 : w3.cell? ⟨X, 0, none⟩ = some (.int .i64 (o : Int)) := by rw [cell_of_row w3 X 0 _ _ (0, 0) hrow]; rfl
        have y1 : w3.cell? ⟨X, 1, none⟩ = some (.int .i64 li) := by rw [cell_of_row w3 X 1 _ _ (0, 0) hrow]; rfl
        have y2 : w3.cell? ⟨X, 2, none⟩ = some (.int .i64 (co + 1)) := by rw [cell_of_row w3 X 2 _ _ (0, 0) hrow]; rfl
        have y3 : w3.cell? ⟨X, 3, none⟩ = some (.string (str l)) := by rw [cell_of_row w3 X 3 _ _ (0, 0) hrow]; rfl
        have f0 := frozen_of_row w3 X 0 _ _ hrow
        have hset := heap_setCell_same w3 X 0 _ _ (.int .i64 ((o : Int) + 1)) hrow
        have HG6 := Lib.hid (HG3.out.trans (set_grown2 w3 X 0 (.int .i64 ((o : Int) + 1))))
        have HFIN := Lib.hid (HSTEP.out _ (by rw [if_neg HC.out, if_neg HC.out]; exact hset))
        clear hrow hset
        go_wp2
        go_roundw
        case rel => exact ⟨k + 1, by omega, by go_num, by rw [HR'.out]; exact ⟨HFIN.out, HM.out.2.trans HG6.out⟩⟩
        case measure => simp [intOf]; omega
    · have hle : (n : Int) ≤ k := by omega
      have HD := Lib.hid (show r.drop k = r.drop n by rw [show k = n by omega])
      clear hm
      go_wp2
      go_end0
      exact ⟨rfl, by rw [← HD.out]; exact HM.out⟩
end Go.Proofs.YtpbkidmdfibaoaaGreatDoor
