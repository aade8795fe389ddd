/-
  Layer 2: contract of the reader's method token. Own work.
-/
import Derived.Test.YtpbkidmdfibaoaaGreatDoorPiece2b
namespace Go.Proofs.YtpbkidmdfibaoaaGreatDoor
set_option linter.unusedVariables false
set_option linter.unusedSimpArgs false
open Go.RowKit

theorem piece_o {o : Nat} {r r2 : List UInt8} {x : Tk} (h : pieceM o r = .ok x r2) : x.o = o := by
  unfold pieceM at h
  split at h
  · simp at h
  · split at h
    · obtain ⟨a, r1, _, h⟩ := bind_ok h; cases h; rfl
    · split at h
      · obtain ⟨a, r1, _, h⟩ := bind_ok h; cases h; rfl
      · split at h
        · obtain ⟨a, r1, _, h⟩ := bind_ok h; cases h; rfl
        · split at h
          · obtain ⟨a, r1, _, h⟩ := bind_ok h; cases h; rfl
          · split at h
            · obtain ⟨a, r1, _, h⟩ := bind_ok h; cases h; rfl
            · obtain ⟨a, r1, _, h⟩ := bind_ok h; cases h; rfl
theorem S2.set {w wk : World} {X R T o : Nat} {v : Value} {row : _} {l r : List UInt8} (h : S2 w X R row l r wk) (hT : w.heap.size < T ∧ R < T) (hX : X < T) : S2 w X R row l r (wk.setCell ⟨T, o, none⟩ v) :=
  ⟨⟨h.rt.1, (heap_setCell_other wk ⟨T, o, none⟩ X v (fun e => by simp only at e; omega)).trans h.rt.2⟩, h.fr.set (by omega), (heap_setCell_other wk ⟨T, o, none⟩ R v (fun e => by simp only at e; omega)).trans h.row, h.ne⟩
theorem ownsRow_below3 {w : World} {B e size n T : Nat} {v : Value} {xs : List Value} (h : w.ownsRow B e size v n xs) (hT : v.ownBlock ≠ some T) (a b c : Value) :
    (((w.setCell ⟨T, 4, none⟩ a).setCell ⟨T, 5, none⟩ b).setCell ⟨T, 6, none⟩ c).ownsRow B e size v n xs :=
  ((h.kept (set_grown2 _ T 4 a) (.inr hT)).kept (set_grown2 _ T 5 b) (.inr hT)).kept (set_grown2 _ T 6 c) (.inr hT)
/-- what token leaves -/
def TokQ (X : Nat) (l r : List UInt8) (w : World) (e : Ending) (w' : World) : Prop :=
  match pieceM (l.length - r.length) r with
  | .ok x r2 => Mv X l r2 w w' ∧ ∃ va, e = .returned (.agg (tmL (x.mem l) va).toArray) ∧ w'.ownsRow w.heap.size 68 2 va x.ats.length (rowAs x.ats)
  | .bad c r2 => e = bad2 c l r2 ∧ w.grownBy w' (some X)
theorem tkn_results (tmps : Array Value) (w : World) (R : Nat) (cs : Array Value) (hs : cs.size = 7) (h2 : tmps.getD 2 undef = .pointer (some ⟨R, 0, none⟩))
    (hR : w.heap[R]? = some (.cells cs 51 (0, 0))) :
    (results Tryz.f41 tmps).run Tryz.prog w = .ok (.agg cs) w := by
  have h2' : tmps[2]?.getD undef = .pointer (some ⟨R, 0, none⟩) := by simpa using h2
  have l1 := run_loadVar_row w R 51 51 cs (0, 0) _ hR Tryz.underlying51 rfl (by rw [hs]; kernel_rfl)
  simp [results, Tryz.results41, h2', asAddr, l1]
set_option maxRecDepth 100000 in
set_option maxHeartbeats 8000000 in
theorem token_at (X : Nat) (l r1 : List UInt8) (c : UInt8) (hl : l.length ≤ 1000000) (w : World) (h : RT w X l (c :: r1)) :
    Calls Tryz.prog 41 #[.pointer (some ⟨X, 0, none⟩)] w (TokQ X l (c :: r1) w) := by
  have hXw := h.lt
  have HXW := Lib.hid hXw
  obtain ⟨wR, hwR⟩ : ∃ wR, wR = w.alloc (.cells tok0 51) := ⟨_, rfl⟩
  obtain ⟨wP, hwP⟩ : ∃ wP, wP = wR.alloc (.cells #[.int .i64 ((l.length - (c :: r1).length : Nat) : Int), .int .i64 (lineS (preO l (c :: r1))), .int .i64 (colS (preO l (c :: r1)))] 29) := ⟨_, rfl⟩
  have hbR : Below w.heap.size w wR := by rw [hwR]; exact (Below.refl _ _).alloc (Nat.le_refl _) _
  have hzR : wR.heap.size = w.heap.size + 1 := by rw [hwR]; simp
  have hR1 : wR.heap[w.heap.size]? = some (.cells tok0 51 (0, 0)) := by rw [hwR]; exact heap_alloc_new w _
  have hbP : Below wR.heap.size wR wP := by rw [hwP]; exact (Below.refl _ _).alloc (Nat.le_refl _) _
  have hzP : wP.heap.size = w.heap.size + 2 := by rw [hwP]; simp [hzR]
  have hP1 : wP.heap[w.heap.size + 1]? = some (.cells #[.int .i64 ((l.length - (c :: r1).length : Nat) : Int), .int .i64 (lineS (preO l (c :: r1))), .int .i64 (colS (preO l (c :: r1)))] 29 (0, 0)) := by
    have := heap_alloc_new wR (.cells #[.int .i64 ((l.length - (c :: r1).length : Nat) : Int), .int .i64 (lineS (preO l (c :: r1))), .int .i64 (colS (preO l (c :: r1)))] 29)
    rw [← hwP, hzR] at this; exact this
  obtain ⟨d0, d1, d2, d3⟩ := (h.below hbR).cells
  have HS := Lib.hid (show S2 w X w.heap.size (tok0, 51) l (c :: r1) wP from (S2.below (⟨h.below hbR, FrX.ofBelow hbR, hR1, by omega⟩ : S2 w X w.heap.size (tok0, 51) l (c :: r1) wR) hbP))
  have HP1 := Lib.hid hP1
  have H1 := Lib.hid (piece_at X l r1 c hl wP HS.out.rt)
  have HZP := Lib.hid hzP
  have HWR := Lib.hid hwR
  have HWP := Lib.hid hwP
  have HZR := Lib.hid hzR
  have HOFF := Lib.hid (show l.length - (r1.length + 1) = l.length - (c :: r1).length by rw [List.length_cons])
  clear h hbR hR1 hbP hzP hP1 hwR hwP hzR
  go_enter Tryz.func41, Tryz.ntmps41
  go_upto_region 1 with fail
  rw [show w.alloc (.cells #[.int .i64 0, .string ⟨#[]⟩, .slice none 0 0, .string ⟨#[]⟩, .int .i64 0, .int .i64 0, .int .i64 0] 51) = wR from HWR.out.symm]
  go_upto_region 2 with fail
  rw [HOFF.out]
  rw [← HWP.out]
  simp only [HZR.out]
  clear d0 d1 d2 d3
  go_wp2_with fail
  unfold PieceQ at H1
  rw [HOFF.out] at H1
  cases hM : pieceM (l.length - (c :: r1).length) (c :: r1) with
  | bad e5 r5 =>
    have HM := Lib.hid hM
    simp only [hM] at H1
    clear hM
    refine H1.out.mono ?_
    rintro e w3 ⟨rfl, hg⟩
    have HG := Lib.hid (HS.out.grown hg)
    clear hg
    go_wp2
    refine ⟨rfl, ?_⟩
    unfold TokQ
    rw [HM.out]
    exact ⟨rfl, HG.out⟩
  | ok x r5 =>
    have HM := Lib.hid hM
    have HXO := Lib.hid (piece_o hM)
    simp only [hM] at H1
    clear hM
    refine H1.out.mono ?_
    rintro e w3 ⟨hm, va, rfl, ho⟩
    obtain ⟨aa, ac, rfl⟩ := RdSl.shape (RdAs.of_own ho)
    have HNT0 := Lib.hid (show (Value.slice aa x.ats.length ac).ownBlock ≠ some w3.heap.size from fun e => by have := (ho.lt _ e).2; omega)
    have hS3 := HS.out.mv hm
    have hP3 := (hm.2.block (w.heap.size + 1) (by have := HZP.out; omega) (by have := HXW.out; simp; omega)).trans HP1.out
    have hz3 : w.heap.size + 2 ≤ w3.heap.size := by have := hm.2.size; have := HZP.out; omega
    obtain ⟨w4, hw4⟩ : ∃ w4, w4 = w3.alloc (.cells #[.int .i64 x.k, .string (str x.n), .slice aa x.ats.length ac, .string (str x.t), .int .i64 0, .int .i64 0, .int .i64 0] 51) := ⟨_, rfl⟩
    have hb4 : Below w3.heap.size w3 w4 := by rw [hw4]; exact (Below.refl _ _).alloc (Nat.le_refl _) _
    have hT4 : w4.heap[w3.heap.size]? = some (.cells #[.int .i64 x.k, .string (str x.n), .slice aa x.ats.length ac, .string (str x.t), .int .i64 0, .int .i64 0, .int .i64 0] 51 (0, 0)) := by rw [hw4]; exact heap_alloc_new w3 _
    have hP4 := (hb4.block (w.heap.size + 1) (by omega)).trans hP3
    have HS4 := Lib.hid (hS3.below hb4)
    have HO4 := Lib.hid (own_belowG ho hb4)
    have HW4 := Lib.hid hw4
    have HT4 := Lib.hid hT4
    have HZ3 := Lib.hid hz3
    have p0 := cell_of_row w4 (w.heap.size + 1) 0 _ _ (0, 0) hP4
    have p1 := cell_of_row w4 (w.heap.size + 1) 1 _ _ (0, 0) hP4
    have p2 := cell_of_row w4 (w.heap.size + 1) 2 _ _ (0, 0) hP4
    have q4 : w4.cell? ⟨w3.heap.size, 4, none⟩ = some (.int .i64 0) := by rw [cell_of_row w4 w3.heap.size 4 _ _ (0, 0) hT4]; rfl
    have q5 : w4.cell? ⟨w3.heap.size, 5, none⟩ = some (.int .i64 0) := by rw [cell_of_row w4 w3.heap.size 5 _ _ (0, 0) hT4]; rfl
    have q6 : w4.cell? ⟨w3.heap.size, 6, none⟩ = some (.int .i64 0) := by rw [cell_of_row w4 w3.heap.size 6 _ _ (0, 0) hT4]; rfl
    have f4 : w4.frozen? ⟨w3.heap.size, 4, none⟩ = false := frozen_of_row w4 _ 4 _ _ hT4
    have f5 : w4.frozen? ⟨w3.heap.size, 5, none⟩ = false := frozen_of_row w4 _ 5 _ _ hT4
    have f6 : w4.frozen? ⟨w3.heap.size, 6, none⟩ = false := frozen_of_row w4 _ 6 _ _ hT4
    clear hm ho hS3 hP3 hw4 hb4 hT4 hP4 H1 hz3
    go_upto_region 3 with fail
    rw [← HW4.out]
    generalize hpo : l.length - (c :: r1).length = o at p0 HXO
    obtain ⟨T, hT⟩ : ∃ T, T = w3.heap.size := ⟨_, rfl⟩
    have HNT := Lib.hid (show (Value.slice aa x.ats.length ac).ownBlock ≠ some T by rw [hT]; exact HNT0.out)
    rw [← hT] at q4 q5 q6 f4 f5 f6 HT4 HZ3
    simp only [← hT]
    clear hT
    generalize hpl : lineS (preO l (c :: r1)) = pl at p1
    generalize hpc : colS (preO l (c :: r1)) = pc at p2
    have HPL := Lib.hid (show x.mem l = ⟨x.k, x.n, x.ats, x.t, (o : Int), pl, pc⟩ by
      unfold Tk.mem
      rw [← hpl, ← hpc, HXO.out, ← hpo]
      rfl)
    have HPO := Lib.hid hpo
    clear hpl hpc hpo
    go_upto_region 4 with fail
    have r1' := heap_setCell_same w4 T 4 _ _ (.int .i64 (o : Int)) HT4.out
    have r2' := heap_setCell_same _ T 5 _ _ (.int .i64 pl) r1'
    have r3' := heap_setCell_same _ T 6 _ _ (.int .i64 pc) r2'
    have HS5 := Lib.hid (show S2 w X w.heap.size (tok0, 51) l r5 (((w4.setCell ⟨T, 4, none⟩ (.int .i64 (o : Int))).setCell ⟨T, 5, none⟩ (.int .i64 pl)).setCell ⟨T, 6, none⟩ (.int .i64 pc)) from
      ((HS4.out.set (by have := HZ3.out; omega) (by have := HXW.out; have := HZ3.out; omega)).set (by have := HZ3.out; omega) (by have := HXW.out; have := HZ3.out; omega)).set (by have := HZ3.out; omega) (by have := HXW.out; have := HZ3.out; omega))
    have HO5 := Lib.hid (ownsRow_below3 HO4.out (T := T) HNT.out (.int .i64 (o : Int)) (.int .i64 pl) (.int .i64 pc))
    generalize ((w4.setCell ⟨T, 4, none⟩ (.int .i64 (o : Int))).setCell ⟨T, 5, none⟩ (.int .i64 pl)).setCell ⟨T, 6, none⟩ (.int .i64 pc) = w5 at HS5 HO5 r3' ⊢
    have hrow : w5.heap[T]? = some (.cells #[.int .i64 x.k, .string (str x.n), .slice aa x.ats.length ac, .string (str x.t), .int .i64 (o : Int), .int .i64 pl, .int .i64 pc] 51 (0, 0)) := by simpa using r3'
    have z0 := cell_of_row w5 T 0 _ _ (0, 0) hrow
    have z1 := cell_of_row w5 T 1 _ _ (0, 0) hrow
    have z2 := cell_of_row w5 T 2 _ _ (0, 0) hrow
    have z3 := cell_of_row w5 T 3 _ _ (0, 0) hrow
    have z4 := cell_of_row w5 T 4 _ _ (0, 0) hrow
    have z5 := cell_of_row w5 T 5 _ _ (0, 0) hrow
    have z6 := cell_of_row w5 T 6 _ _ (0, 0) hrow
    have HROW := Lib.hid HS5.out.row
    clear p0 p1 p2 q4 q5 q6 f4 f5 f6 r1' r2' r3' hrow
    go_wp2_with (refine wpList_store_row rfl 51 _ _ rfl w.heap.size #[.int .i64 x.k, .string (str x.n), .slice aa x.ats.length ac, .string (str x.t), .int .i64 (o : Int), .int .i64 pl, .int .i64 pc] rfl rfl 51 _ HROW.out (by kernel_rfl) rfl (by simp [Value.oneCell']) ?_)
    refine bodyPost_ret (tkn_results _ _ w.heap.size #[.int .i64 x.k, .string (str x.n), .slice aa x.ats.length ac, .string (str x.t), .int .i64 (o : Int), .int .i64 pl, .int .i64 pc] rfl rfl (setRow_heap _ w.heap.size _ _ _ _ HROW.out)) rfl ?_
    unfold TokQ
    have HM2 := HM.out
    rw [HPO.out] at HM2 ⊢
    rw [HM2]
    refine ⟨HS5.out.fin, .slice aa x.ats.length ac, ?_, own_mono2 (own_row2 HO5.out (by have := HZP.out; omega)) (by have := HZP.out; omega)⟩
    rw [HPL.out]
    rfl
end Go.Proofs.YtpbkidmdfibaoaaGreatDoor
