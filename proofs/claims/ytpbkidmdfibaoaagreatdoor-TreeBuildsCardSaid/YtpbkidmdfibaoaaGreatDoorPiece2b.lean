/-
  Layer 2: contracts of the reader's methods piece and token. Own work.
-/
import Derived.Test.YtpbkidmdfibaoaaGreatDoorPiece2
namespace Go.Proofs.YtpbkidmdfibaoaaGreatDoor
set_option linter.unusedVariables false
set_option linter.unusedSimpArgs false
open Go.RowKit

/-- what piece leaves -/
def PieceQ (X o : Nat) (l r : List UInt8) (w : World) (e : Ending) (w' : World) : Prop :=
  match pieceM o r with
  | .ok x r2 => Mv X l r2 w w' ∧ ∃ va, e = .returned (.agg #[.int .i64 x.k, .string (str x.n), va, .string (str x.t), .int .i64 0, .int .i64 0, .int .i64 0]) ∧ w'.ownsRow w.heap.size 68 2 va x.ats.length (rowAs x.ats)
  | .bad c r2 => e = bad2 c l r2 ∧ w.grownBy w' (some X)
theorem pie_results (tmps : Array Value) (w : World) (R : Nat) (cs : Array Value) (hs : cs.size = 7) (h2 : tmps.getD 2 undef = .pointer (some ⟨R, 0, none⟩))
    (hR : w.heap[R]? = some (.cells cs 51 (0, 0))) :
    (results Tryz.f55 tmps).run Tryz.prog w = .ok (.agg cs) w := by
  have h2' : tmps[2]?.getD undef = .pointer (some ⟨R, 0, none⟩) := by simpa using h2
  have l1 := run_loadVar_row w R 51 51 cs (0, 0) _ hR Tryz.underlying51 rfl (by rw [hs]; kernel_rfl)
  simp [results, Tryz.results55, h2', asAddr, l1]
theorem piece_bad {X o : Nat} {l r r2 : List UInt8} {c : Int} {w w' : World} (hM : pieceM o r = .bad c r2) (hg : w.grownBy w' (some X)) : PieceQ X o l r w (bad2 c l r2) w' := by
  unfold PieceQ; rw [hM]; exact ⟨rfl, hg⟩
theorem piece_fin {X o : Nat} {l r r2 : List UInt8} {x : Tk} {va : Value} {w wk : World} {row : _} {cs : Array Value} {B : Nat} (hM : pieceM o r = .ok x r2) (h : S2 w X w.heap.size row l r2 wk) (ho : wk.ownsRow B 68 2 va x.ats.length (rowAs x.ats)) (hB : w.heap.size < B) :
    PieceQ X o l r w (.returned (.agg #[.int .i64 x.k, .string (str x.n), va, .string (str x.t), .int .i64 0, .int .i64 0, .int .i64 0])) (wk.setRow w.heap.size cs) := by
  unfold PieceQ; rw [hM]
  exact ⟨h.fin, va, rfl, own_mono2 (own_row2 ho hB) (by omega)⟩
theorem close_pre (r1 : List UInt8) : ([60, 47] : List UInt8).isPrefixOf (60 :: r1) = (r1.head? == some 47) := by
  cases r1 with
  | nil => rfl
  | cons c r =>
    simp only [List.isPrefixOf, List.head?_cons, Bool.and_true]
    by_cases h : c = 47
    · subst h; rfl
    · rw [show ((47 : UInt8) == c) = false by rw [beq_eq_false_iff_ne]; exact fun e => h e.symm, Bool.and_false, eq_comm, beq_eq_false_iff_ne]
      simpa using h
set_option maxRecDepth 100000 in
set_option maxHeartbeats 8000000 in
theorem piece_at (X : Nat) (l r1 : List UInt8) (c : UInt8) (hl : l.length ≤ 1000000) (w : World) (h : RT w X l (c :: r1)) :
    Calls Tryz.prog 55 #[.pointer (some ⟨X, 0, none⟩)] w (PieceQ X (l.length - (r1.length + 1)) l (c :: r1) w) := by
  have hXw := h.lt
  have HXW := Lib.hid hXw
  obtain ⟨wR, hwR⟩ : ∃ wR, wR = w.alloc (.cells tok0 51) := ⟨_, rfl⟩
  have hbR : Below w.heap.size w wR := by rw [hwR]; exact (Below.refl _ _).alloc (Nat.le_refl _) _
  have hR1 : wR.heap[w.heap.size]? = some (.cells tok0 51 (0, 0)) := by rw [hwR]; exact heap_alloc_new w _
  have HS := Lib.hid (show S2 w X w.heap.size (tok0, 51) l (c :: r1) wR from ⟨h.below hbR, FrX.ofBelow hbR, hR1, by omega⟩)
  have H1 := Lib.hid (peek_at X l r1 c wR HS.out.rt)
  obtain ⟨o, ho⟩ : ∃ o, o = l.length - (r1.length + 1) := ⟨_, rfl⟩
  rw [← ho]
  have HOFF := Lib.hid (show l.length - (c :: r1).length = o by rw [ho, List.length_cons])
  clear ho
  clear h hbR hR1
  have HWR := Lib.hid hwR
  clear hwR
  go_enter Tryz.func55, Tryz.ntmps55
  go_upto_region 1 with fail
  rw [show w.alloc (.cells #[.int .i64 0, .string ⟨#[]⟩, .slice none 0 0, .string ⟨#[]⟩, .int .i64 0, .int .i64 0, .int .i64 0] 51) = wR from HWR.out.symm]
  go_wp2_with fail
  refine H1.out.mono ?_
  rintro e w2 ⟨rfl, hm2⟩
  have HS2 := Lib.hid (HS.out.mv hm2)
  clear hm2 H1
  by_cases h60 : c = 60
  case neg =>
    have hne : ((c.toNat : Int) != 60) = true := by
      rw [bne_iff_ne]
      intro h
      exact h60 (UInt8.toNat_inj.1 (by simpa using (show c.toNat = 60 by omega)))
    have HEQ := Lib.hid (show pieceM o (c :: r1) = (letM 60 true ((c :: r1).length + 1) [] (c :: r1)).bind fun t r2 => .ok ⟨4, [], [], t, o⟩ r2 by rw [pieceM, if_pos h60])
    have H2 := Lib.hid (letters_at X l (c :: r1) 60 true hl w2 HS2.out.rt)
    clear h60
    cases hM : letM 60 true ((c :: r1).length + 1) [] (c :: r1) with
    | bad e5 r5 =>
      have HF2 := Lib.hid (show pieceM o (c :: r1) = .bad e5 r5 by rw [HEQ.out, hM]; rfl)
      simp only [hM] at H2
      clear hM
      go_wp2_with fail
      refine H2.out.mono ?_
      rintro e w8 ⟨rfl, hm8⟩
      have HG := Lib.hid (HS2.out.mv hm8).fr
      clear hm8
      go_wp2
      exact ⟨rfl, piece_bad HF2.out HG.out.grown⟩
    | ok t r5 =>
      have HF2 := Lib.hid (show pieceM o (c :: r1) = .ok (⟨4, [], [], t, o⟩ : Tk) r5 by rw [HEQ.out, hM]; rfl)
      simp only [hM] at H2
      clear hM
      go_wp2_with fail
      refine H2.out.mono ?_
      rintro e w8 ⟨rfl, hm8⟩
      have HG := Lib.hid (HS2.out.mv hm8)
      have HROW := Lib.hid HG.out.row
      clear hm8 H2
      go_wp2_with (refine wpList_store_row rfl 51 _ _ rfl w.heap.size #[.int .i64 4, .string ⟨#[]⟩, .slice none 0 0, .string (str t), .int .i64 0, .int .i64 0, .int .i64 0] rfl rfl 51 _ HROW.out (by kernel_rfl) rfl (by simp [Value.oneCell']) ?_)
      refine bodyPost_ret (pie_results _ _ w.heap.size #[.int .i64 4, .string ⟨#[]⟩, .slice none 0 0, .string (str t), .int .i64 0, .int .i64 0, .int .i64 0] rfl rfl (setRow_heap _ w.heap.size _ _ _ _ HROW.out)) rfl ?_
      exact piece_fin (x := (⟨4, [], [], t, o⟩ : Tk)) (va := .slice none 0 0) HF2.out HG.out (World.ownsRow_nil _ _ _ _) (Nat.lt_succ_self _)
  case pos =>
  subst h60
  have HEQ0 := Lib.hid (show pieceM o (60 :: r1) = if noteF.isPrefixOf (60 :: r1) then (betM noteB [] ((60 :: r1).drop 4)).bind fun t r2 => .ok ⟨5, [], [], t, o⟩ r2
    else if cdF.isPrefixOf (60 :: r1) then (betM cdB [] ((60 :: r1).drop 9)).bind fun t r2 => .ok ⟨4, [], [], t, o⟩ r2
    else if headM (o == 0) (60 :: r1) then (betM headB [] ((60 :: r1).drop 5)).bind fun t r2 => .ok ⟨6, [], [], t, o⟩ r2
    else if r1.head? = some 47 then (closeM ((60 :: r1).drop 2)).bind fun n r2 => .ok ⟨3, n, [], [], o⟩ r2
    else (openM r1).bind fun x r2 => .ok ⟨x.1, x.2.1, x.2.2, [], o⟩ r2 by rw [pieceM, if_neg (by simp)])
  have H2 := Lib.hid (begins_at X l (60 :: r1) noteF w2 HS2.out.rt)
  go_wp2_with fail
  refine H2.out.mono ?_
  rintro e w3 ⟨rfl, hm3⟩
  have HS3 := Lib.hid (HS2.out.mv hm3)
  clear hm3 H2
  obtain ⟨b1, hb1⟩ : ∃ b, noteF.isPrefixOf (60 :: r1) = b := ⟨_, rfl⟩
  rw [hb1] at HEQ0 ⊢
  have HB1 := Lib.hid hb1
  clear hb1
  cases b1
  case true =>
    have HEQ := Lib.hid (show pieceM o (60 :: r1) = (betM noteB [] ((60 :: r1).drop 4)).bind fun t r2 => .ok ⟨5, [], [], t, o⟩ r2 from HEQ0.out)
    have H3 := Lib.hid (between_at X l (60 :: r1) noteF noteB (by simp [noteB]) hl (List.isPrefixOf_iff_prefix.1 HB1.out).length_le w3 HS3.out.rt)
    rw [show noteF.length = 4 from rfl] at H3
    cases hM : betM noteB [] ((60 :: r1).drop 4) with
    | bad e5 r5 =>
      have HF2 := Lib.hid (show pieceM o (60 :: r1) = .bad e5 r5 by rw [HEQ.out, hM]; rfl)
      simp only [hM] at H3
      clear hM
      go_wp2_with fail
      refine H3.out.mono ?_
      rintro e w8 ⟨rfl, hm8⟩
      have HG := Lib.hid (HS3.out.mv hm8).fr
      clear hm8
      go_wp2
      exact ⟨rfl, piece_bad HF2.out HG.out.grown⟩
    | ok t r5 =>
      have HF2 := Lib.hid (show pieceM o (60 :: r1) = .ok (⟨5, [], [], t, o⟩ : Tk) r5 by rw [HEQ.out, hM]; rfl)
      simp only [hM] at H3
      clear hM
      go_wp2_with fail
      refine H3.out.mono ?_
      rintro e w8 ⟨rfl, hm8⟩
      have HG := Lib.hid (HS3.out.mv hm8)
      have HROW := Lib.hid HG.out.row
      clear hm8 H3
      go_wp2_with (refine wpList_store_row rfl 51 _ _ rfl w.heap.size #[.int .i64 5, .string ⟨#[]⟩, .slice none 0 0, .string (str t), .int .i64 0, .int .i64 0, .int .i64 0] rfl rfl 51 _ HROW.out (by kernel_rfl) rfl (by simp [Value.oneCell']) ?_)
      refine bodyPost_ret (pie_results _ _ w.heap.size #[.int .i64 5, .string ⟨#[]⟩, .slice none 0 0, .string (str t), .int .i64 0, .int .i64 0, .int .i64 0] rfl rfl (setRow_heap _ w.heap.size _ _ _ _ HROW.out)) rfl ?_
      exact piece_fin (x := (⟨5, [], [], t, o⟩ : Tk)) (va := .slice none 0 0) HF2.out HG.out (World.ownsRow_nil _ _ _ _) (Nat.lt_succ_self _)
  case false =>
  have HEQ1 := Lib.hid (show pieceM o (60 :: r1) = if cdF.isPrefixOf (60 :: r1) then (betM cdB [] ((60 :: r1).drop 9)).bind fun t r2 => .ok ⟨4, [], [], t, o⟩ r2
    else if headM (o == 0) (60 :: r1) then (betM headB [] ((60 :: r1).drop 5)).bind fun t r2 => .ok ⟨6, [], [], t, o⟩ r2
    else if r1.head? = some 47 then (closeM ((60 :: r1).drop 2)).bind fun n r2 => .ok ⟨3, n, [], [], o⟩ r2
    else (openM r1).bind fun x r2 => .ok ⟨x.1, x.2.1, x.2.2, [], o⟩ r2 from HEQ0.out)
  have H2 := Lib.hid (begins_at X l (60 :: r1) cdF w3 HS3.out.rt)
  clear HEQ0
  go_wp2_with fail
  refine H2.out.mono ?_
  rintro e w4 ⟨rfl, hm3⟩
  have HS4 := Lib.hid (HS3.out.mv hm3)
  clear hm3 H2
  obtain ⟨b2, hb2⟩ : ∃ b, cdF.isPrefixOf (60 :: r1) = b := ⟨_, rfl⟩
  rw [hb2] at HEQ1 ⊢
  have HB2 := Lib.hid hb2
  clear hb2
  cases b2
  case true =>
    have HEQ := Lib.hid (show pieceM o (60 :: r1) = (betM cdB [] ((60 :: r1).drop 9)).bind fun t r2 => .ok ⟨4, [], [], t, o⟩ r2 from HEQ1.out)
    have H3 := Lib.hid (between_at X l (60 :: r1) cdF cdB (by simp [cdB]) hl (List.isPrefixOf_iff_prefix.1 HB2.out).length_le w4 HS4.out.rt)
    rw [show cdF.length = 9 from rfl] at H3
    cases hM : betM cdB [] ((60 :: r1).drop 9) with
    | bad e5 r5 =>
      have HF2 := Lib.hid (show pieceM o (60 :: r1) = .bad e5 r5 by rw [HEQ.out, hM]; rfl)
      simp only [hM] at H3
      clear hM
      go_wp2_with fail
      refine H3.out.mono ?_
      rintro e w8 ⟨rfl, hm8⟩
      have HG := Lib.hid (HS4.out.mv hm8).fr
      clear hm8
      go_wp2
      exact ⟨rfl, piece_bad HF2.out HG.out.grown⟩
    | ok t r5 =>
      have HF2 := Lib.hid (show pieceM o (60 :: r1) = .ok (⟨4, [], [], t, o⟩ : Tk) r5 by rw [HEQ.out, hM]; rfl)
      simp only [hM] at H3
      clear hM
      go_wp2_with fail
      refine H3.out.mono ?_
      rintro e w8 ⟨rfl, hm8⟩
      have HG := Lib.hid (HS4.out.mv hm8)
      have HROW := Lib.hid HG.out.row
      clear hm8 H3
      go_wp2_with (refine wpList_store_row rfl 51 _ _ rfl w.heap.size #[.int .i64 4, .string ⟨#[]⟩, .slice none 0 0, .string (str t), .int .i64 0, .int .i64 0, .int .i64 0] rfl rfl 51 _ HROW.out (by kernel_rfl) rfl (by simp [Value.oneCell']) ?_)
      refine bodyPost_ret (pie_results _ _ w.heap.size #[.int .i64 4, .string ⟨#[]⟩, .slice none 0 0, .string (str t), .int .i64 0, .int .i64 0, .int .i64 0] rfl rfl (setRow_heap _ w.heap.size _ _ _ _ HROW.out)) rfl ?_
      exact piece_fin (x := (⟨4, [], [], t, o⟩ : Tk)) (va := .slice none 0 0) HF2.out HG.out (World.ownsRow_nil _ _ _ _) (Nat.lt_succ_self _)
  case false =>
  have HEQ2 := Lib.hid (show pieceM o (60 :: r1) = if headM (o == 0) (60 :: r1) then (betM headB [] ((60 :: r1).drop 5)).bind fun t r2 => .ok ⟨6, [], [], t, o⟩ r2
    else if r1.head? = some 47 then (closeM ((60 :: r1).drop 2)).bind fun n r2 => .ok ⟨3, n, [], [], o⟩ r2
    else (openM r1).bind fun x r2 => .ok ⟨x.1, x.2.1, x.2.2, [], o⟩ r2 from HEQ1.out)
  have H2 := Lib.hid (atHead_at X l (60 :: r1) hl w4 HS4.out.rt)
  rw [HOFF.out] at H2
  clear HEQ1
  go_wp2_with fail
  refine H2.out.mono ?_
  rintro e w5 ⟨rfl, hm3⟩
  have HS5 := Lib.hid (HS4.out.mv hm3)
  clear hm3 H2
  obtain ⟨b3, hb3⟩ : ∃ b, headM (o == 0) (60 :: r1) = b := ⟨_, rfl⟩
  rw [hb3] at HEQ2 ⊢
  have HB3 := Lib.hid hb3
  clear hb3
  cases b3
  case true =>
    have HEQ := Lib.hid (show pieceM o (60 :: r1) = (betM headB [] ((60 :: r1).drop 5)).bind fun t r2 => .ok ⟨6, [], [], t, o⟩ r2 from HEQ2.out)
    have H3 := Lib.hid (between_at X l (60 :: r1) headF headB (by simp [headB]) hl (by have := HB3.out; unfold headM at this; simp only [Bool.and_eq_true] at this; exact (List.isPrefixOf_iff_prefix.1 this.1.2).length_le) w5 HS5.out.rt)
    rw [show headF.length = 5 from rfl] at H3
    cases hM : betM headB [] ((60 :: r1).drop 5) with
    | bad e5 r5 =>
      have HF2 := Lib.hid (show pieceM o (60 :: r1) = .bad e5 r5 by rw [HEQ.out, hM]; rfl)
      simp only [hM] at H3
      clear hM
      go_wp2_with fail
      refine H3.out.mono ?_
      rintro e w8 ⟨rfl, hm8⟩
      have HG := Lib.hid (HS5.out.mv hm8).fr
      clear hm8
      go_wp2
      exact ⟨rfl, piece_bad HF2.out HG.out.grown⟩
    | ok t r5 =>
      have HF2 := Lib.hid (show pieceM o (60 :: r1) = .ok (⟨6, [], [], t, o⟩ : Tk) r5 by rw [HEQ.out, hM]; rfl)
      simp only [hM] at H3
      clear hM
      go_wp2_with fail
      refine H3.out.mono ?_
      rintro e w8 ⟨rfl, hm8⟩
      have HG := Lib.hid (HS5.out.mv hm8)
      have HROW := Lib.hid HG.out.row
      clear hm8 H3
      go_wp2_with (refine wpList_store_row rfl 51 _ _ rfl w.heap.size #[.int .i64 6, .string ⟨#[]⟩, .slice none 0 0, .string (str t), .int .i64 0, .int .i64 0, .int .i64 0] rfl rfl 51 _ HROW.out (by kernel_rfl) rfl (by simp [Value.oneCell']) ?_)
      refine bodyPost_ret (pie_results _ _ w.heap.size #[.int .i64 6, .string ⟨#[]⟩, .slice none 0 0, .string (str t), .int .i64 0, .int .i64 0, .int .i64 0] rfl rfl (setRow_heap _ w.heap.size _ _ _ _ HROW.out)) rfl ?_
      exact piece_fin (x := (⟨6, [], [], t, o⟩ : Tk)) (va := .slice none 0 0) HF2.out HG.out (World.ownsRow_nil _ _ _ _) (Nat.lt_succ_self _)
  case false =>
  have HEQ3 := Lib.hid (show pieceM o (60 :: r1) = if r1.head? = some 47 then (closeM ((60 :: r1).drop 2)).bind fun n r2 => .ok ⟨3, n, [], [], o⟩ r2
    else (openM r1).bind fun x r2 => .ok ⟨x.1, x.2.1, x.2.2, [], o⟩ r2 from HEQ2.out)
  have H2 := Lib.hid (begins_at X l (60 :: r1) [60, 47] w5 HS5.out.rt)
  rw [close_pre] at H2
  clear HEQ2
  go_wp2_with fail
  refine H2.out.mono ?_
  rintro e w6 ⟨rfl, hm3⟩
  have HS6 := Lib.hid (HS5.out.mv hm3)
  clear hm3 H2
  by_cases h47 : r1.head? = some 47
  case pos =>
    obtain ⟨r3, hr3⟩ : ∃ r3, r1 = 47 :: r3 := by
      cases r1 with
      | nil => simp at h47
      | cons d r3 => simp at h47; exact ⟨r3, by rw [h47]⟩
    subst hr3
    have HEQ := Lib.hid (show pieceM o (60 :: 47 :: r3) = (closeM r3).bind fun n r2 => .ok ⟨3, n, [], [], o⟩ r2 by rw [HEQ3.out, if_pos h47]; rfl)
    have H3 := Lib.hid (closing_at X l r3 hl w6 HS6.out.rt)
    rw [show ((47 :: r3 : List UInt8).head? == some 47) = true from rfl]
    clear h47
    cases hM : closeM r3 with
    | bad e5 r5 =>
      have HF2 := Lib.hid (show pieceM o (60 :: 47 :: r3) = .bad e5 r5 by rw [HEQ.out, hM]; rfl)
      simp only [hM] at H3
      clear hM
      go_wp2_with fail
      refine H3.out.mono ?_
      rintro e w8 ⟨rfl, hm8⟩
      have HG := Lib.hid (HS6.out.mv hm8).fr
      clear hm8
      go_wp2
      exact ⟨rfl, piece_bad HF2.out HG.out.grown⟩
    | ok t r5 =>
      have HF2 := Lib.hid (show pieceM o (60 :: 47 :: r3) = .ok (⟨3, t, [], [], o⟩ : Tk) r5 by rw [HEQ.out, hM]; rfl)
      simp only [hM] at H3
      clear hM
      go_wp2_with fail
      refine H3.out.mono ?_
      rintro e w8 ⟨rfl, hm8⟩
      have HG := Lib.hid (HS6.out.mv hm8)
      have HROW := Lib.hid HG.out.row
      clear hm8 H3
      go_wp2_with (refine wpList_store_row rfl 51 _ _ rfl w.heap.size #[.int .i64 3, .string (str t), .slice none 0 0, .string ⟨#[]⟩, .int .i64 0, .int .i64 0, .int .i64 0] rfl rfl 51 _ HROW.out (by kernel_rfl) rfl (by simp [Value.oneCell']) ?_)
      refine bodyPost_ret (pie_results _ _ w.heap.size #[.int .i64 3, .string (str t), .slice none 0 0, .string ⟨#[]⟩, .int .i64 0, .int .i64 0, .int .i64 0] rfl rfl (setRow_heap _ w.heap.size _ _ _ _ HROW.out)) rfl ?_
      exact piece_fin (x := (⟨3, t, [], [], o⟩ : Tk)) (va := .slice none 0 0) HF2.out HG.out (World.ownsRow_nil _ _ _ _) (Nat.lt_succ_self _)
  case neg =>
    have HEQ := Lib.hid (show pieceM o (60 :: r1) = (openM r1).bind fun x r2 => .ok ⟨x.1, x.2.1, x.2.2, [], o⟩ r2 by rw [HEQ3.out, if_neg h47])
    have H3 := Lib.hid (opening_at X l r1 hl w6 HS6.out.rt)
    rw [show (r1.head? == some 47) = false by rw [beq_eq_false_iff_ne]; exact h47]
    clear h47
    unfold OpenQ at H3
    cases hM : openM r1 with
    | bad e5 r5 =>
      have HF2 := Lib.hid (show pieceM o (60 :: r1) = .bad e5 r5 by rw [HEQ.out, hM]; rfl)
      simp only [hM] at H3
      clear hM
      go_wp2_with fail
      refine H3.out.mono ?_
      rintro e w8 ⟨rfl, hg8⟩
      have HG := Lib.hid (HS6.out.grown hg8)
      clear hg8
      go_wp2
      exact ⟨rfl, piece_bad HF2.out HG.out⟩
    | ok t r5 =>
      obtain ⟨k, n, ats⟩ := t
      have HF2 := Lib.hid (show pieceM o (60 :: r1) = .ok (⟨k, n, ats, [], o⟩ : Tk) r5 by rw [HEQ.out, hM]; rfl)
      simp only [hM] at H3
      clear hM
      go_wp2_with fail
      refine H3.out.mono ?_
      rintro e w8 ⟨hm8, va, rfl, ho8⟩
      have HG := Lib.hid (HS6.out.mv hm8)
      have HROW := Lib.hid HG.out.row
      have HOW := Lib.hid ho8
      have HBB := Lib.hid (show w.heap.size < w6.heap.size from (Array.getElem?_eq_some_iff.1 HS6.out.row).1)
      obtain ⟨aa, ac, rfl⟩ := RdSl.shape (RdAs.of_own ho8)
      clear hm8 H3 ho8
      go_wp2_with (refine wpList_store_row rfl 51 _ _ rfl w.heap.size #[.int .i64 k, .string (str n), .slice aa ats.length ac, .string ⟨#[]⟩, .int .i64 0, .int .i64 0, .int .i64 0] rfl rfl 51 _ HROW.out (by kernel_rfl) rfl (by simp [Value.oneCell']) ?_)
      refine bodyPost_ret (pie_results _ _ w.heap.size #[.int .i64 k, .string (str n), .slice aa ats.length ac, .string ⟨#[]⟩, .int .i64 0, .int .i64 0, .int .i64 0] rfl rfl (setRow_heap _ w.heap.size _ _ _ _ HROW.out)) rfl ?_
      exact piece_fin (x := (⟨k, n, ats, [], o⟩ : Tk)) HF2.out HG.out HOW.out HBB.out
end Go.Proofs.YtpbkidmdfibaoaaGreatDoor
