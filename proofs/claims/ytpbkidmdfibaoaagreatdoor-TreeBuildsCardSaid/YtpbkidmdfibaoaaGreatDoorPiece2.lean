/-
  Layer 2: contracts of the reader's methods closing and atHead. Own work.
-/
import Derived.Test.YtpbkidmdfibaoaaGreatDoorOpen2
namespace Go.Proofs.YtpbkidmdfibaoaaGreatDoor
set_option linter.unusedVariables false
set_option linter.unusedSimpArgs false
open Go.RowKit

theorem clo_results (tmps : Array Value) (w : World) (R : Nat) (cs : Array Value) (hs : cs.size = 7) (h2 : tmps.getD 2 undef = .pointer (some ⟨R, 0, none⟩))
    (hR : w.heap[R]? = some (.cells cs 51 (0, 0))) :
    (results Tryz.f84 tmps).run Tryz.prog w = .ok (.agg cs) w := by
  have h2' : tmps[2]?.getD undef = .pointer (some ⟨R, 0, none⟩) := by simpa using h2
  have l1 := run_loadVar_row w R 51 51 cs (0, 0) _ hR Tryz.underlying51 rfl (by rw [hs]; kernel_rfl)
  simp [results, Tryz.results84, h2', asAddr, l1]
theorem S2.fin {w wk : World} {X : Nat} {row : _} {cs : Array Value} {l r : List UInt8} (h : S2 w X w.heap.size row l r wk) : Mv X l r w (wk.setRow w.heap.size cs) :=
  RT.frx ⟨h.rt.1, (setRow_other wk w.heap.size X _ (Ne.symm h.ne)).trans h.rt.2⟩ (h.fr.setRow (Nat.le_refl _))
set_option maxRecDepth 100000 in
set_option maxHeartbeats 4000000 in
theorem closing_at (X : Nat) (l r : List UInt8) (hl : l.length ≤ 1000000) (w : World) (h : RT w X l (60 :: 47 :: r)) :
    Calls Tryz.prog 84 #[.pointer (some ⟨X, 0, none⟩)] w (RsP X l (closeM r) (fun n => .agg #[.int .i64 3, .string (str n), .slice none 0 0, .string ⟨#[]⟩, .int .i64 0, .int .i64 0, .int .i64 0]) w) := by
  have hXw := h.lt
  obtain ⟨wR, hwR⟩ : ∃ wR, wR = w.alloc (.cells tok0 51) := ⟨_, rfl⟩
  have hbR : Below w.heap.size w wR := by rw [hwR]; exact (Below.refl _ _).alloc (Nat.le_refl _) _
  have hR1 : wR.heap[w.heap.size]? = some (.cells tok0 51 (0, 0)) := by rw [hwR]; exact heap_alloc_new w _
  have HS := Lib.hid (show S2 w X w.heap.size (tok0, 51) l (60 :: 47 :: r) wR from ⟨h.below hbR, FrX.ofBelow hbR, hR1, by omega⟩)
  have H1 := Lib.hid (skip_at X l (60 :: 47 :: r) 2 (by simp) hl wR HS.out.rt)
  clear h hbR hR1
  have HWR := Lib.hid hwR
  clear hwR
  go_enter Tryz.func84, Tryz.ntmps84
  go_upto_region 1 with fail
  rw [show w.alloc (.cells #[.int .i64 0, .string ⟨#[]⟩, .slice none 0 0, .string ⟨#[]⟩, .int .i64 0, .int .i64 0, .int .i64 0] 51) = wR from HWR.out.symm]
  go_wp2_with fail
  refine H1.out.mono ?_
  rintro e w2 ⟨rfl, hm2⟩
  have HS2 := Lib.hid (show S2 w X w.heap.size (tok0, 51) l r w2 from HS.out.mv hm2)
  have H2 := Lib.hid (name_at X l r 11 hl w2 HS2.out.rt)
  clear hm2 H1
  cases hM : nameM 11 r with
  | bad c r1 =>
    have HMM := Lib.hid (show closeM r = .bad c r1 by rw [closeM, hM]; rfl)
    rw [hM] at H2
    clear hM
    go_wp2_with fail
    refine H2.out.mono ?_
    rintro e w3 ⟨rfl, hm⟩
    have HG := Lib.hid (HS2.out.mv hm)
    clear hm
    go_wp2
    refine ⟨rfl, ?_⟩
    rw [HMM.out]
    exact ⟨rfl, HG.out.rt.frx HG.out.fr⟩
  | ok n r1 =>
    have HMM := Lib.hid (show closeM r = (mustM 62 (blanksM r1)).bind fun _ r2 => .ok n r2 by rw [closeM, hM]; rfl)
    rw [hM] at H2
    clear hM
    go_wp2_with fail
    refine H2.out.mono ?_
    rintro e w3 ⟨rfl, hm⟩
    have HS3 := Lib.hid (HS2.out.mv hm)
    have H3 := Lib.hid (blanks_at X l r1 hl w3 hm.1)
    clear hm H2
    go_wp2_with fail
    refine H3.out.mono ?_
    rintro e w4 ⟨rfl, hm4⟩
    have HS4 := Lib.hid (HS3.out.mv hm4)
    have H4 := Lib.hid (must_at X l (blanksM r1) 62 hl w4 hm4.1)
    clear hm4 H3
    cases hM : mustM 62 (blanksM r1) with
    | bad c r2 =>
      have HM2 := Lib.hid (show closeM r = .bad c r2 by rw [HMM.out, hM]; rfl)
      rw [hM] at H4
      clear hM
      go_wp2_with fail
      refine H4.out.mono ?_
      rintro e w5 ⟨rfl, hm⟩
      have HG := Lib.hid (HS4.out.mv hm)
      clear hm
      go_wp2
      refine ⟨rfl, ?_⟩
      rw [HM2.out]
      exact ⟨rfl, HG.out.rt.frx HG.out.fr⟩
    | ok u r2 =>
      have HM2 := Lib.hid (show closeM r = .ok n r2 by rw [HMM.out, hM]; rfl)
      rw [hM] at H4
      clear hM
      go_wp2_with fail
      refine H4.out.mono ?_
      rintro e w5 ⟨rfl, hm⟩
      have HG := Lib.hid (HS4.out.mv hm)
      have HROW := Lib.hid HG.out.row
      clear hm H4
      go_wp2_with (refine wpList_store_row rfl 51 _ _ rfl w.heap.size #[.int .i64 3, .string (str n), .slice none 0 0, .string ⟨#[]⟩, .int .i64 0, .int .i64 0, .int .i64 0] rfl rfl 51 _ HROW.out (by kernel_rfl) rfl (by simp [Value.oneCell']) ?_)
      refine bodyPost_ret (clo_results _ _ w.heap.size #[.int .i64 3, .string (str n), .slice none 0 0, .string ⟨#[]⟩, .int .i64 0, .int .i64 0, .int .i64 0] rfl rfl (setRow_heap _ w.heap.size _ _ _ _ HROW.out)) rfl ?_
      rw [HM2.out]
      exact ⟨rfl, HG.out.fin⟩
theorem bool_ret {a b : Bool} (h : a = b) : (Ending.returned (.bool a)) = .returned (.bool b) := by rw [h]
set_option maxRecDepth 100000 in
set_option maxHeartbeats 4000000 in
theorem atHead_at (X : Nat) (l r : List UInt8) (hl : l.length ≤ 1000000) (w : World) (h : RT w X l r) :
    Calls Tryz.prog 83 #[.pointer (some ⟨X, 0, none⟩)] w fun e w' => e = .returned (.bool (headM (l.length - r.length == 0) r)) ∧ Mv X l r w w' := by
  obtain ⟨c0, c1, c2, c3⟩ := h.cells
  have HLL := Lib.hid (suf_len h.1)
  have HRT := Lib.hid h
  by_cases h0 : l.length - r.length = 0
  case neg =>
    have hgt : ((0 : Int) < ((l.length - r.length : Nat) : Int)) := by omega
    have hHM : headM (l.length - r.length == 0) r = false := by
      unfold headM
      rw [show (l.length - r.length == 0) = false by rw [beq_eq_false_iff_ne]; exact h0]
      rfl
    simp only [hHM]
    generalize l.length - r.length = n0 at c0 hgt
    clear h hHM h0
    go_enter Tryz.func83, Tryz.ntmps83
    go_wp2
    go_ret
    exact ⟨rfl, Mv.refl HRT.out⟩
  case pos =>
    have hrl : r = l := h.1.eq_of_length (by have := HLL.out; omega)
    subst hrl
    rw [h0] at c0
    have HG := Lib.hid (begins_at X r r headF w h)
    obtain ⟨b, hb⟩ : ∃ b, headF.isPrefixOf r = b := ⟨_, rfl⟩
    have HHM := Lib.hid (show headM (r.length - r.length == 0) r = (b && (match r[5]? with | none => false | some c => bl c || c == 63)) by
      unfold headM
      rw [hb, Nat.sub_self]; rfl)
    rw [hb] at HG
    have HPF := Lib.hid hb
    clear h hb h0
    cases b
    · go_enter Tryz.func83, Tryz.ntmps83
      go_wp2_with fail
      refine HG.out.mono ?_
      rintro e w2 ⟨rfl, hm⟩
      have HM := Lib.hid hm
      clear hm c1 c2 c3
      go_wp2
      go_ret
      exact ⟨bool_ret HHM.out.symm, HM.out⟩
    · have hpl : 5 ≤ r.length := (List.isPrefixOf_iff_prefix.1 HPF.out).length_le
      by_cases h5 : r.length = 5
      · have hsz : (((str r).size : Int) == 5) = true := by rw [size_str, h5]; rfl
        have HF := Lib.hid (show headM (r.length - r.length == 0) r = false by rw [HHM.out, List.getElem?_eq_none (by omega)]; rfl)
        clear h5 hpl
        go_enter Tryz.func83, Tryz.ntmps83
        go_wp2_with fail
        refine HG.out.mono ?_
        rintro e w2 ⟨rfl, hm⟩
        have HM := Lib.hid hm
        obtain ⟨d0, d1, d2, d3⟩ := hm.1.cells
        clear hm c0 c1 c2 c3
        go_wp2
        go_ret
        exact ⟨bool_ret HF.out.symm, HM.out⟩
      · have hsz : (((str r).size : Int) == 5) = false := by rw [size_str, beq_eq_false_iff_ne]; omega
        obtain ⟨c, hc⟩ : ∃ c, r[5]? = some c := ⟨_, List.getElem?_eq_getElem (by omega)⟩
        have hi : ∀ w, (Instr.index 9 (.string (str r)) (.int .i64 5)).run Tryz.prog w = .ok (.int .u8 (c.toNat : Int)) w := fun w => bidx2 (str r) 5 c (by rw [toList_str]; exact hc) w
        have HF := Lib.hid (show headM (r.length - r.length == 0) r = (bl c || c == 63) by rw [HHM.out, hc]; rfl)
        have h63 : ((c.toNat : Int) == 63) = (c == 63) := by
          rw [Bool.eq_iff_iff, beq_iff_eq, beq_iff_eq]
          exact ⟨fun h => UInt8.toNat_inj.1 (by simpa using (show c.toNat = 63 by omega)), fun h => by rw [h]; rfl⟩
        have H63 := Lib.hid h63
        have HI := fun w => IsBlank_any (c.toNat : Int) w
        have HIB := Lib.hid HI
        have hlt5 : 5 < (str r).size := by rw [size_str]; omega
        clear h5 hpl hc h63 HI
        go_enter Tryz.func83, Tryz.ntmps83
        go_wp2_with fail
        refine HG.out.mono ?_
        rintro e w2 ⟨rfl, hm⟩
        have HM := Lib.hid hm
        obtain ⟨d0, d1, d2, d3⟩ := hm.1.cells
        clear hm c0 c1 c2 c3
        go_wp2_with fail
        refine (HIB.out _).mono ?_
        rintro e w3 ⟨rfl, hw3⟩
        have HM3 := Lib.hid (show Mv X r r w w3 by rw [hw3]; exact HM.out)
        generalize hib : isBlank (c.toNat : Int) = ib
        have HIBQ := Lib.hid (show bl c = ib from hib)
        clear hib hw3 d0 d1 d2 d3
        generalize hq : ((c.toNat : Int) == 63) = q
        have HQ := Lib.hid hq
        clear hq
        cases ib
        · go_wp2
          go_ret
          exact ⟨bool_ret (by rw [HF.out, HIBQ.out, ← H63.out]; rfl), HM3.out⟩
        · go_wp2
          go_ret
          exact ⟨bool_ret (by rw [HF.out, HIBQ.out]; rfl), HM3.out⟩
end Go.Proofs.YtpbkidmdfibaoaaGreatDoor
