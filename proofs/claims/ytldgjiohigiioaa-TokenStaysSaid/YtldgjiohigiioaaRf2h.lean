/-
  Layer 2: the answer's reader: Next. Own work.
-/
import Derived.Test.YtldgjiohigiioaaRf2g
namespace Go.Proofs.Ytldgjiohigiioaa
set_option linter.unusedVariables false
set_option linter.unusedSimpArgs false
open Go.RowKit

set_option maxRecDepth 100000 in
set_option maxHeartbeats 16000000 in
theorem next_at (X : Nat) (l : List UInt8) (c0 : UInt8) (r0 : List UInt8) (hl : l.length ≤ 1000000) (w : World) (h : RR w X l (c0 :: r0) 0 0) :
    Calls Try.prog 30 #[.pointer (some ⟨X, 0, none⟩)] w (NxQ X l (c0 :: r0) w) := by
  obtain ⟨r, hr⟩ : ∃ r, r = c0 :: r0 := ⟨_, rfl⟩
  rw [← hr] at h ⊢
  have HR0 := Lib.hid hr
  clear hr
  have HXW := Lib.hid h.lt
  obtain ⟨wR, hwR⟩ : ∃ wR, wR = w.alloc (.cells tok0 34) := ⟨_, rfl⟩
  have hbR : Below w.heap.size w wR := by rw [hwR]; exact (Below.refl _ _).alloc (Nat.le_refl _) _
  have hR1 : wR.heap[w.heap.size]? = some (.cells tok0 34 (0, 0)) := by rw [hwR]; exact heap_alloc_new w _
  have hzR : wR.heap.size = w.heap.size + 1 := by rw [hwR]; simp
  have hrR := h.below hbR
  obtain ⟨d0, d1, d2, d3⟩ := hrR.cells
  obtain ⟨n0, hn0⟩ : ∃ n0, n0 = l.length - r.length := ⟨_, rfl⟩
  rw [← hn0] at d1
  obtain ⟨wT, hwT⟩ : ∃ wT, wT = wR.alloc (.cells #[.int .i64 0, .string ⟨#[]⟩, .slice none 0 0, .string ⟨#[]⟩, .int .i64 (n0 : Int), .int .i64 0, .int .i64 0] 34) := ⟨_, rfl⟩
  have hbT : Below wR.heap.size wR wT := by rw [hwT]; exact (Below.refl _ _).alloc (Nat.le_refl _) _
  have hT1 : wT.heap[w.heap.size + 1]? = some (.cells (tkC 0 [] (.slice none 0 0) [] (n0 : Int) 0 0) 34 (0, 0)) := by
    have := heap_alloc_new wR (.cells #[.int .i64 0, .string ⟨#[]⟩, .slice none 0 0, .string ⟨#[]⟩, .int .i64 (n0 : Int), .int .i64 0, .int .i64 0] 34)
    rw [← hwT, hzR] at this; exact this
  have HN := Lib.hid (show N2 w X w.heap.size (w.heap.size + 1) l r 0 0 0 [] [] (.slice none 0 0) [] (n0 : Int) 0 0 wT from
    ⟨hrR.below hbT, FrX.ofBelow (hbR.trans (hbT.mono hbR.size)), (hbT.block _ (by omega)).trans hR1, hT1, World.ownsRow_nil _ _ _ _, h.lt, Nat.le_refl _, by omega⟩)
  have HLL := Lib.hid (suf_len h.1)
  have HSZ := Lib.hid (size_str l)
  have HSUF := Lib.hid h.1
  have HN0 := Lib.hid hn0
  have HWR := Lib.hid hwR
  have HWT := Lib.hid hwT
  have HZR := Lib.hid hzR
  clear h hwR hbR hR1 hrR hwT hbT hT1 hn0 hzR
  go_enter Try.func30, Try.ntmps30
  go_upto_region 1 with fail
  rw [← HWR.out]
  go_upto_region 2 with fail
  rw [← HWT.out]
  simp only [HZR.out]
  clear d0 d1 d2 d3
  obtain ⟨Rb, hRb⟩ : ∃ R, R = w.heap.size := ⟨_, rfl⟩
  obtain ⟨Tb, hTb⟩ : ∃ T, T = w.heap.size + 1 := ⟨_, rfl⟩
  rw [← hTb, ← hRb] at HN
  simp only [← hTb]
  simp only [← hRb]
  have HRB := Lib.hid hRb
  have HTB := Lib.hid hTb
  clear hRb hTb
  have hlt : l.length - r.length ≤ l.length := Nat.sub_le _ _
  have HAT := Lib.hid (fun w => refAt_any (str l) (by rw [size_str]; omega) n0 (by rw [size_str, HN0.out]; omega) w)
  rw [toList_str] at HAT
  have hlt2 : l.take n0 = preO l r := by rw [HN0.out]; rfl
  rw [hlt2] at HAT
  have C0 := Lib.hid (fun w1 (hb : Below wT.heap.size wT w1) => (HN.out.rr.below hb).cells.1)
  have C1 := Lib.hid (fun w1 (hb : Below wT.heap.size wT w1) => (HN.out.rr.below hb).cells.2.1)
  rw [← HN0.out] at C1
  clear hlt hlt2
  refine wp_region_held_drew (S := (fun w1 => Below wT.heap.size wT w1)) (by kernel_rfl) (by (try dsimp only); exact (Below.refl _ _).drew) (fun hHeld => ?_)
  generalize wT.drew = wd at hHeld ⊢
  refine wpAnyH_take (i := 0) (v := ?_) (by (simp only [List.getElem?_toArray, List.getElem?_cons_succ, List.getElem?_cons_zero]; rfl)) (by kernel_rfl) (by kernel_rfl) (by kernel_rfl) (by intro _ _ _ h; exact h) (Or.inl ⟨by rfl, ?_⟩) (by assumption) ?_
  rotate_left
  · (intro w hSw; (try dsimp only at hSw); go_simp; try (with_reducible rfl))
  simp only [Act.put, List.setIfInBounds_toArray, List.set_cons_zero, List.set_cons_succ]
  refine wpAnyH_take (i := 1) (v := ?_) (by (simp only [List.getElem?_toArray, List.getElem?_cons_succ, List.getElem?_cons_zero]; rfl)) (by kernel_rfl) (by kernel_rfl) (by kernel_rfl) (by intro _ _ _ h; exact h) (Or.inl ⟨by rfl, ?_⟩) (by assumption) ?_
  rotate_left
  · (intro w hSw; (try dsimp only at hSw); go_simp; try (with_reducible rfl))
  simp only [Act.put, List.setIfInBounds_toArray, List.set_cons_zero, List.set_cons_succ]
  refine wpAnyH_take (i := 2) (v := ?_) (by (simp only [List.getElem?_toArray, List.getElem?_cons_succ, List.getElem?_cons_zero]; rfl)) (by kernel_rfl) (by kernel_rfl) (by kernel_rfl) (by intro _ _ _ h; exact h) (Or.inl ⟨by rfl, ?_⟩) (by assumption) ?_
  rotate_left
  · (intro w hSw; (try dsimp only at hSw); go_simp; try (with_reducible rfl))
  simp only [Act.put, List.setIfInBounds_toArray, List.set_cons_zero, List.set_cons_succ]
  refine wpAnyH_take (i := 3) (v := ?_) (by (simp only [List.getElem?_toArray, List.getElem?_cons_succ, List.getElem?_cons_zero]; rfl)) (by kernel_rfl) (by kernel_rfl) (by kernel_rfl) (by intro _ _ _ h; exact h) (Or.inl ⟨by rfl, ?_⟩) (by assumption) ?_
  rotate_left
  · (intro w hSw; have q1 := C0.out w hSw; go_simp; try (with_reducible rfl))
  simp only [Act.put, List.setIfInBounds_toArray, List.set_cons_zero, List.set_cons_succ]
  refine wpAnyH_take (i := 4) (v := ?_) (by (simp only [List.getElem?_toArray, List.getElem?_cons_succ, List.getElem?_cons_zero]; rfl)) (by kernel_rfl) (by kernel_rfl) (by kernel_rfl) (by intro _ _ _ h; exact h) (Or.inl ⟨by rfl, ?_⟩) (by assumption) ?_
  rotate_left
  · (intro w hSw; (try dsimp only at hSw); go_simp; try (with_reducible rfl))
  simp only [Act.put, List.setIfInBounds_toArray, List.set_cons_zero, List.set_cons_succ]
  refine wpAnyH_take (i := 5) (v := ?_) (by (simp only [List.getElem?_toArray, List.getElem?_cons_succ, List.getElem?_cons_zero]; rfl)) (by kernel_rfl) (by kernel_rfl) (by kernel_rfl) (by intro _ _ _ h; exact h) (Or.inl ⟨by rfl, ?_⟩) (by assumption) ?_
  rotate_left
  · (intro w hSw; (try dsimp only at hSw); go_simp; try (with_reducible rfl))
  simp only [Act.put, List.setIfInBounds_toArray, List.set_cons_zero, List.set_cons_succ]
  refine wpAnyH_take (i := 6) (v := ?_) (by (simp only [List.getElem?_toArray, List.getElem?_cons_succ, List.getElem?_cons_zero]; rfl)) (by kernel_rfl) (by kernel_rfl) (by kernel_rfl) (by intro _ _ _ h; exact h) (Or.inl ⟨by rfl, ?_⟩) (by assumption) ?_
  rotate_left
  · (intro w hSw; (try dsimp only at hSw); go_simp; try (with_reducible rfl))
  simp only [Act.put, List.setIfInBounds_toArray, List.set_cons_zero, List.set_cons_succ]
  refine wpAnyH_take (i := 7) (v := ?_) (by (simp only [List.getElem?_toArray, List.getElem?_cons_succ, List.getElem?_cons_zero]; rfl)) (by kernel_rfl) (by kernel_rfl) (by kernel_rfl) (by intro _ _ _ h; exact h) (Or.inl ⟨by rfl, ?_⟩) (by assumption) ?_
  rotate_left
  · (intro w hSw; have q1 := C1.out w hSw; go_simp; try (with_reducible rfl))
  simp only [Act.put, List.setIfInBounds_toArray, List.set_cons_zero, List.set_cons_succ]
  refine wpAnyH_ready (rs := [8]) (by kernel_rfl) (by simp) ?_
  refine AllReadyH.cons (by (simp only [List.getElem?_toArray, List.getElem?_cons_succ, List.getElem?_cons_zero]; rfl)) (fun K hK => ?_) AllReadyH.nil
  go_simp
  go_at_call 16; refine (HAT.out _).mono ?_; rintro e w6 ⟨rfl, hw6⟩
  refine hK.out _ _ (by (try dsimp only); rw [hw6]; exact hHeld) (fun hHeld => ?_)
  clear hK K
  try simp only [Act.put, List.setIfInBounds_toArray, List.set_cons_zero, List.set_cons_succ]
  clear hw6
  refine wpAnyH_take (i := 9) (v := ?_) (by (simp only [List.getElem?_toArray, List.getElem?_cons_succ, List.getElem?_cons_zero]; rfl)) (by kernel_rfl) (by kernel_rfl) (by kernel_rfl) (by intro _ _ _ h; exact h) (Or.inl ⟨by rfl, ?_⟩) (by assumption) ?_
  rotate_left
  · (intro w hSw; (try dsimp only at hSw); go_simp; try (with_reducible rfl))
  simp only [Act.put, List.setIfInBounds_toArray, List.set_cons_zero, List.set_cons_succ]
  refine wpAnyH_take (i := 10) (v := ?_) (by (simp only [List.getElem?_toArray, List.getElem?_cons_succ, List.getElem?_cons_zero]; rfl)) (by kernel_rfl) (by kernel_rfl) (by kernel_rfl) (by intro _ _ _ h; exact h) (Or.inl ⟨by rfl, ?_⟩) (by assumption) ?_
  rotate_left
  · (intro w hSw; (try dsimp only at hSw); go_simp; try (with_reducible rfl))
  simp only [Act.put, List.setIfInBounds_toArray, List.set_cons_zero, List.set_cons_succ]
  refine wpAnyH_take (i := 11) (v := ?_) (by (simp only [List.getElem?_toArray, List.getElem?_cons_succ, List.getElem?_cons_zero]; rfl)) (by kernel_rfl) (by kernel_rfl) (by kernel_rfl) (by intro _ _ _ h; exact h) (Or.inl ⟨by rfl, ?_⟩) (by assumption) ?_
  rotate_left
  · (intro w hSw; (try dsimp only at hSw); go_simp; try (with_reducible rfl))
  simp only [Act.put, List.setIfInBounds_toArray, List.set_cons_zero, List.set_cons_succ]
  refine wpAnyH_take (i := 12) (v := ?_) (by (simp only [List.getElem?_toArray, List.getElem?_cons_succ, List.getElem?_cons_zero]; rfl)) (by kernel_rfl) (by kernel_rfl) (by kernel_rfl) (by intro _ _ _ h; exact h) (Or.inl ⟨by rfl, ?_⟩) (by assumption) ?_
  rotate_left
  · (intro w hSw; (try dsimp only at hSw); go_simp; try (with_reducible rfl))
  simp only [Act.put, List.setIfInBounds_toArray, List.set_cons_zero, List.set_cons_succ]
  refine wpAnyH_take (i := 13) (v := ?_) (by (simp only [List.getElem?_toArray, List.getElem?_cons_succ, List.getElem?_cons_zero]; rfl)) (by kernel_rfl) (by kernel_rfl) (by kernel_rfl) (by intro _ _ _ h; exact h) (Or.inl ⟨by rfl, ?_⟩) (by assumption) ?_
  rotate_left
  · (intro w hSw; (try dsimp only at hSw); go_simp; try (with_reducible rfl))
  simp only [Act.put, List.setIfInBounds_toArray, List.set_cons_zero, List.set_cons_succ]
  refine wpAnyH_done (by kernel_rfl) ?_ _
  have HN2 := Lib.hid (HN.out.below hHeld)
  clear hHeld
  have z5 := HN2.out.cells.2.2.1
  have f5 := HN2.out.frozen 5
  have HN3 := Lib.hid (HN2.out.line (lineS (preO l r)))
  go_upto_region 4 with fail
  clear z5 f5
  generalize w6.setCell ⟨Tb, 5, none⟩ (.int .i64 (lineS (preO l r))) = w7 at HN3 ⊢
  have z6 := HN3.out.cells.2.2.2
  have f6 := HN3.out.frozen 6
  have HN4 := Lib.hid (HN3.out.col (colS (preO l r)))
  go_upto_region 5 with fail
  clear z6 f6
  generalize w7.setCell ⟨Tb, 6, none⟩ (.int .i64 (colS (preO l r))) = w8 at HN4 ⊢
  have HB1 := Lib.hid (rbegins_at X l r noteF 0 0 (by decide) hl w8 HN4.out.rr)
  go_wp2_with fail
  refine HB1.out.mono ?_
  rintro e w9 ⟨rfl, hm9⟩
  have HN5 := Lib.hid (HN4.out.mv hm9)
  clear hm9 HB1
  generalize hb1 : noteF.isPrefixOf r = b1
  have HE1 := Lib.hid hb1
  clear hb1
  cases b1 with
  | true =>
    have z0 := HN5.out.cells.1.1
    have f0 := HN5.out.frozen 0
    have HK1 := Lib.hid (HN5.out.kind 5)
    go_upto_region 7 with fail
    clear z0 f0
    generalize w9.setCell ⟨Tb, 0, none⟩ (.int .i64 5) = w20 at HK1 ⊢
    have HPL := Lib.hid ((rplain_at X l r noteB 4 (by have := (List.isPrefixOf_iff_prefix.1 HE1.out).length_le; exact this) (by decide) rfl hl w20 HK1.out.rr).mono fun e w' h => text_two (ne_bet _ _ _) h)
    go_wp2_with fail
    refine HPL.out.mono ?_
    rintro e w21 ⟨t, e0, o0, r1, rfl, hm21, hM⟩
    have HK2 := Lib.hid (HK1.out.mv hm21)
    have HM := Lib.hid hM
    have z3 := HK2.out.cells.1.2.2.2
    have f3 := HK2.out.frozen 3
    have HK3 := Lib.hid (HK2.out.text t)
    clear hm21 hM HPL
    go_upto_region 8 with fail
    clear z3 f3
    generalize w21.setCell ⟨Tb, 3, none⟩ (.string (str t)) = w22 at HK3 ⊢
    obtain ⟨⟨z0, z1, z2, z3⟩, z4, z5, z6⟩ := HK3.out.cells
    have HROW := Lib.hid HK3.out.rrow
    go_wp2_with (refine wpList_store_row rfl 34 _ _ rfl Rb (tkC 5 [] (.slice none 0 0) t (n0 : Int) (lineS (preO l r)) (colS (preO l r))) rfl rfl 34 _ HROW.out (by kernel_rfl) rfl (by simp [Value.oneCell']) ?_)
    refine bodyPost_ret (nx_results _ _ Rb (tkC 5 [] (.slice none 0 0) t (n0 : Int) (lineS (preO l r)) (colS (preO l r))) rfl rfl (setRow_heap _ Rb _ _ _ _ HROW.out)) rfl ?_
    exact nx_text HN0.out (by rw [HR0.out]; rw [HR0.out] at HE1; exact piece_note HE1.out) HM.out HK3.out
  | false =>
    have HB2 := Lib.hid (rbegins_at X l r cdF 0 0 (by decide) hl w9 HN5.out.rr)
    go_wp2_with fail
    refine HB2.out.mono ?_
    rintro e w10 ⟨rfl, hm10⟩
    have HN6 := Lib.hid (HN5.out.mv hm10)
    clear hm10 HB2
    generalize hb2 : cdF.isPrefixOf r = b2
    have HE2 := Lib.hid hb2
    clear hb2
    cases b2 with
    | true =>
      have z0 := HN6.out.cells.1.1
      have f0 := HN6.out.frozen 0
      have HK1 := Lib.hid (HN6.out.kind 4)
      go_upto_region 11 with fail
      clear z0 f0
      generalize w10.setCell ⟨Tb, 0, none⟩ (.int .i64 4) = w20 at HK1 ⊢
      have HPL := Lib.hid ((rplain_at X l r cdB 9 (by have := (List.isPrefixOf_iff_prefix.1 HE2.out).length_le; exact this) (by decide) rfl hl w20 HK1.out.rr).mono fun e w' h => text_two (ne_bet _ _ _) h)
      go_wp2_with fail
      refine HPL.out.mono ?_
      rintro e w21 ⟨t, e0, o0, r1, rfl, hm21, hM⟩
      have HK2 := Lib.hid (HK1.out.mv hm21)
      have HM := Lib.hid hM
      have z3 := HK2.out.cells.1.2.2.2
      have f3 := HK2.out.frozen 3
      have HK3 := Lib.hid (HK2.out.text t)
      clear hm21 hM HPL
      go_upto_region 12 with fail
      clear z3 f3
      generalize w21.setCell ⟨Tb, 3, none⟩ (.string (str t)) = w22 at HK3 ⊢
      obtain ⟨⟨z0, z1, z2, z3⟩, z4, z5, z6⟩ := HK3.out.cells
      have HROW := Lib.hid HK3.out.rrow
      go_wp2_with (refine wpList_store_row rfl 34 _ _ rfl Rb (tkC 4 [] (.slice none 0 0) t (n0 : Int) (lineS (preO l r)) (colS (preO l r))) rfl rfl 34 _ HROW.out (by kernel_rfl) rfl (by simp [Value.oneCell']) ?_)
      refine bodyPost_ret (nx_results _ _ Rb (tkC 4 [] (.slice none 0 0) t (n0 : Int) (lineS (preO l r)) (colS (preO l r))) rfl rfl (setRow_heap _ Rb _ _ _ _ HROW.out)) rfl ?_
      exact nx_text HN0.out (by rw [HR0.out]; rw [HR0.out] at HE1 HE2; exact piece_cd HE1.out HE2.out) HM.out HK3.out
    | false =>
      obtain ⟨c0', c1, c2, c3⟩ := HN6.out.rr.cells
      rw [← HN0.out] at c1
      go_upto_region 13 with fail
      go_cut [62] from 6 to 130 (fun t wx => t = .bool (headM (n0 == 0) r) ∧ N2 w X Rb Tb l r 0 0 0 [] [] (.slice none 0 0) [] (n0 : Int) (lineS (preO l r)) (colS (preO l r)) wx)
      case first =>
        by_cases hz : n0 = 0
        · have hzb : ((n0 : Int) == 0) = true := by rw [hz]; rfl
          have HZ := Lib.hid (show (n0 == 0) = true by rw [hz]; rfl)
          have HB3 := Lib.hid (rbegins_at X l r headF 0 0 (by decide) hl w10 HN6.out.rr)
          clear hz
          go_wp2_with fail
          refine HB3.out.mono ?_
          rintro e w11 ⟨rfl, hm11⟩
          have HN7 := Lib.hid (HN6.out.mv hm11)
          clear hm11 HB3
          generalize hb3 : headF.isPrefixOf r = b3
          have HE3 := Lib.hid hb3
          clear hb3
          cases b3 with
          | false =>
            go_wp2_with fail
            go_meet
            exact ⟨by rw [headM, HZ.out, HE3.out]; rfl, HN7.out⟩
          | true =>
            cases h5 : r[5]? with
            | none =>
              have HG := Lib.hid (show headM (n0 == 0) r = false by rw [headM, HZ.out, HE3.out, h5]; rfl)
              have h5l : r.length ≤ 5 := List.getElem?_eq_none_iff.1 h5
              have HA5 := Lib.hid (rat_none X l r 0 0 5 h5l (by decide) hl w11 HN7.out.rr)
              clear h5
              go_wp2_with fail
              refine HA5.out.mono ?_
              rintro e w12 ⟨rfl, hm12⟩
              have HN8 := Lib.hid (HN7.out.mv hm12)
              have HA6 := Lib.hid (rat_none X l r 0 0 5 h5l (by decide) hl w12 HN8.out.rr)
              have HIS := Lib.hid (fun w => is_at 0 1 false (by decide) (by decide) (by decide) w)
              clear hm12 HA5 h5l
              go_wp2_with fail
              refine HA6.out.mono ?_
              rintro e w13 ⟨rfl, hm13⟩
              have HN9 := Lib.hid (HN8.out.mv hm13)
              clear hm13 HA6
              go_wp2_with fail
              refine (HIS.out _).mono ?_
              rintro e w14 ⟨rfl, hw14⟩
              obtain rfl : w13 = w14 := hw14.symm
              clear hw14
              go_wp2_with fail
              go_meet
              exact ⟨by rw [HG.out], HN9.out⟩
            | some c5 =>
              have HG := Lib.hid (show headM (n0 == 0) r = (bl c5 || c5 == 63) by rw [headM, HZ.out, HE3.out, h5]; rfl)
              have HA5 := Lib.hid (rat_some X l r 0 0 5 c5 h5 hl w11 HN7.out.rr)
              have H5 := Lib.hid h5
              clear h5
              go_wp2_with fail
              refine HA5.out.mono ?_
              rintro e w12 ⟨rfl, hm12⟩
              have HN8 := Lib.hid (HN7.out.mv hm12)
              clear hm12 HA5
              by_cases h63 : c5 = 63
              · have hq : ((c5.toNat : Int) == 63) = true := by rw [h63]; rfl
                have HG2 := Lib.hid (show headM (n0 == 0) r = true by rw [HG.out, h63]; rfl)
                clear h63
                go_wp2_with fail
                go_meet
                exact ⟨by rw [HG2.out], HN8.out⟩
              · have hq : ((c5.toNat : Int) == 63) = false := u8_ne2 (d := 63) h63
                have HG2 := Lib.hid (show headM (n0 == 0) r = bl c5 by rw [HG.out, show (c5 == 63) = false by simpa using h63, Bool.or_false])
                have HA6 := Lib.hid (rat_some X l r 0 0 5 c5 H5.out hl w12 HN8.out.rr)
                have HIS := Lib.hid (fun w => is_at (c5.toNat : Int) 1 (bl c5) (by decide) (by decide) (by rw [(cls_all _).1]; rfl) w)
                clear h63
                go_wp2_with fail
                refine HA6.out.mono ?_
                rintro e w13 ⟨rfl, hm13⟩
                have HN9 := Lib.hid (HN8.out.mv hm13)
                clear hm13 HA6
                go_wp2_with fail
                refine (HIS.out _).mono ?_
                rintro e w14 ⟨rfl, hw14⟩
                obtain rfl : w13 = w14 := hw14.symm
                clear hw14
                go_wp2_with fail
                go_meet
                exact ⟨by rw [HG2.out], HN9.out⟩
        · have hzb : ((n0 : Int) == 0) = false := by simpa using hz
          have HZ := Lib.hid (show (n0 == 0) = false by simpa using hz)
          clear hz
          go_wp2_with fail
          go_meet
          exact ⟨by rw [headM, HZ.out]; rfl, HN6.out⟩
      case rest =>
        obtain ⟨rfl, hnc⟩ := hcut
        have HNC := Lib.hid hnc
        clear hnc c0' c1 c2 c3
        generalize hb3 : headM (n0 == 0) r = b3
        have HE3 := Lib.hid hb3
        clear hb3
        cases b3 with
        | true =>
          have z0 := HNC.out.cells.1.1
          have f0 := HNC.out.frozen 0
          have HK1 := Lib.hid (HNC.out.kind 6)
          go_upto_region 15 with fail
          clear z0 f0
          generalize wc.setCell ⟨Tb, 0, none⟩ (.int .i64 6) = w20 at HK1 ⊢
          have HPL := Lib.hid ((rplain_at X l r headB 5 (by have h5 := HE3.out; simp only [headM, Bool.and_eq_true] at h5; exact (List.isPrefixOf_iff_prefix.1 h5.1.2).length_le) (by decide) rfl hl w20 HK1.out.rr).mono fun e w' h => text_two (ne_bet _ _ _) h)
          go_wp2_with fail
          refine HPL.out.mono ?_
          rintro e w21 ⟨t, e0, o0, r1, rfl, hm21, hM⟩
          have HK2 := Lib.hid (HK1.out.mv hm21)
          have HM := Lib.hid hM
          have z3 := HK2.out.cells.1.2.2.2
          have f3 := HK2.out.frozen 3
          have HK3 := Lib.hid (HK2.out.text t)
          clear hm21 hM HPL
          go_upto_region 16 with fail
          clear z3 f3
          generalize w21.setCell ⟨Tb, 3, none⟩ (.string (str t)) = w22 at HK3 ⊢
          obtain ⟨⟨z0, z1, z2, z3⟩, z4, z5, z6⟩ := HK3.out.cells
          have HROW := Lib.hid HK3.out.rrow
          go_wp2_with (refine wpList_store_row rfl 34 _ _ rfl Rb (tkC 6 [] (.slice none 0 0) t (n0 : Int) (lineS (preO l r)) (colS (preO l r))) rfl rfl 34 _ HROW.out (by kernel_rfl) rfl (by simp [Value.oneCell']) ?_)
          refine bodyPost_ret (nx_results _ _ Rb (tkC 6 [] (.slice none 0 0) t (n0 : Int) (lineS (preO l r)) (colS (preO l r))) rfl rfl (setRow_heap _ Rb _ _ _ _ HROW.out)) rfl ?_
          exact nx_text HN0.out (by rw [HR0.out]; rw [HR0.out] at HE1 HE2 HE3; exact piece_head HE1.out HE2.out HE3.out) HM.out HK3.out
        | false =>
          have HA0 := Lib.hid (rat_some X l r 0 0 0 c0 (by rw [HR0.out]; rfl) hl wc HNC.out.rr)
          go_wp2_with fail
          refine HA0.out.mono ?_
          rintro e w11 ⟨rfl, hm11⟩
          have HN7 := Lib.hid (HNC.out.mv hm11)
          clear hm11 HA0
          by_cases h60 : c0 = 60
          case neg =>
            have hqb : ((c0.toNat : Int) == 60) = false := u8_ne2 (d := 60) h60
            have hq : ((c0.toNat : Int) != 60) = true := by rw [bne, hqb]; rfl
            have H60 := Lib.hid h60
            clear h60
            have z0 := HN7.out.cells.1.1
            have f0 := HN7.out.frozen 0
            have HK1 := Lib.hid (HN7.out.kind 4)
            go_upto_region 19 with fail
            clear z0 f0
            generalize w11.setCell ⟨Tb, 0, none⟩ (.int .i64 4) = w20 at HK1 ⊢
            have HPL := Lib.hid ((rletters_at X l r 60 hl w20 HK1.out.rr).mono fun e w' h => text_two (ne_let _ _ _ _ _) h)
            go_wp2_with fail
            refine HPL.out.mono ?_
            rintro e w21 ⟨t, e0, o0, r1, rfl, hm21, hM⟩
            have HK2 := Lib.hid (HK1.out.mv hm21)
            have HM := Lib.hid hM
            have z3 := HK2.out.cells.1.2.2.2
            have f3 := HK2.out.frozen 3
            have HK3 := Lib.hid (HK2.out.text t)
            clear hm21 hM HPL
            go_upto_region 20 with fail
            clear z3 f3
            generalize w21.setCell ⟨Tb, 3, none⟩ (.string (str t)) = w22 at HK3 ⊢
            obtain ⟨⟨z0, z1, z2, z3⟩, z4, z5, z6⟩ := HK3.out.cells
            have HROW := Lib.hid HK3.out.rrow
            go_wp2_with (refine wpList_store_row rfl 34 _ _ rfl Rb (tkC 4 [] (.slice none 0 0) t (n0 : Int) (lineS (preO l r)) (colS (preO l r))) rfl rfl 34 _ HROW.out (by kernel_rfl) rfl (by simp [Value.oneCell']) ?_)
            refine bodyPost_ret (nx_results _ _ Rb (tkC 4 [] (.slice none 0 0) t (n0 : Int) (lineS (preO l r)) (colS (preO l r))) rfl rfl (setRow_heap _ Rb _ _ _ _ HROW.out)) rfl ?_
            exact nx_text HN0.out (by rw [HR0.out]; exact piece_text H60.out) HM.out HK3.out
          case pos =>
            subst h60
            have hq : (((60 : UInt8).toNat : Int) != 60) = false := rfl
            have HSUF1 := Lib.hid (show r0 <:+ l from (List.suffix_cons 60 r0).trans (by have := HSUF.out; rw [HR0.out] at this; exact this))
            have HPT := Lib.hid (piece_tag (o := n0) (r1 := r0) (by have := HE1.out; rw [HR0.out] at this; exact this) (by have := HE2.out; rw [HR0.out] at this; exact this) (by have := HE3.out; rw [HR0.out] at this; exact this))
            rw [show N2 w X Rb Tb l r 0 0 0 [] [] (.slice none 0 0) [] (n0 : Int) (lineS (preO l r)) (colS (preO l r)) w11 = N2 w X Rb Tb l (60 :: r0) 0 0 0 [] [] (.slice none 0 0) [] (n0 : Int) (lineS (preO l r)) (colS (preO l r)) w11 from congrArg (fun z => N2 w X Rb Tb l z 0 0 0 [] [] (.slice none 0 0) [] (n0 : Int) (lineS (preO l r)) (colS (preO l r)) w11) HR0.out] at HN7
            obtain ⟨c0', c1, c2, c3⟩ := HN7.out.rr.cells
            have f1 := HN7.out.rr.frozen 1
            obtain ⟨n8, hn8⟩ : ∃ m, m = l.length - (60 :: r0).length := ⟨_, rfl⟩
            rw [← hn8] at c1
            have hll := suf_len HN7.out.rr.1
            have hn8I : (n8 : Int) ≤ 1000000 := by omega
            have hp := RM.put HN7.out.rr HSUF1.out ((n8 : Int) + 1) (by rw [hn8]; simp only [List.length_cons] at hll ⊢; omega)
            have HN8 := Lib.hid (HN7.out.mv hp)
            clear hp hll hn8
            go_upto_region 22 with fail
            generalize w11.setCell ⟨X, 1, none⟩ (.int .i64 ((n8 : Int) + 1)) = w12 at HN8 ⊢
            clear c0' c1 c2 c3 f1
            go_cut [85] from 6 to 130 (fun t wx => t = .bool (decide ((r0).head? = some 47)) ∧ N2 w X Rb Tb l r0 0 0 0 [] [] (.slice none 0 0) [] (n0 : Int) (lineS (preO l r)) (colS (preO l r)) wx)
            case first =>
              have hsp : r0 = [] ∨ ∃ d rz, r0 = d :: rz := by cases r0 with | nil => exact .inl rfl | cons d rz => exact .inr ⟨d, rz, rfl⟩
              rcases hsp with hrr | ⟨d, rz, hrr⟩
              · rw [hrr] at HN8
                have HRR := Lib.hid hrr
                have HA0 := Lib.hid (rat_none X l [] 0 0 0 (Nat.le_refl _) (by decide) hl w12 HN8.out.rr)
                clear hrr
                go_wp2_with fail
                refine HA0.out.mono ?_
                rintro e wz ⟨rfl, hmz⟩
                have HZ := Lib.hid (HN8.out.mv hmz)
                clear hmz HA0
                go_wp2_with fail
                go_meet
                exact ⟨by rw [HRR.out]; rfl, by rw [HRR.out]; exact HZ.out⟩
              · rw [hrr] at HN8
                have HRR := Lib.hid hrr
                have HA0 := Lib.hid (rat_some X l (d :: rz) 0 0 0 d rfl hl w12 HN8.out.rr)
                clear hrr
                go_wp2_with fail
                refine HA0.out.mono ?_
                rintro e wz ⟨rfl, hmz⟩
                have HZ := Lib.hid (HN8.out.mv hmz)
                clear hmz HA0
                by_cases h47 : d = 47
                · have hq : ((d.toNat : Int) == 47) = true := by rw [h47]; rfl
                  have HD := Lib.hid h47
                  clear h47
                  go_wp2_with fail
                  go_meet
                  exact ⟨by rw [HRR.out, HD.out]; rfl, by rw [HRR.out]; exact HZ.out⟩
                · have hq : ((d.toNat : Int) == 47) = false := u8_ne2 (d := 47) h47
                  have HD := Lib.hid (show decide ((d :: rz).head? = some 47) = false by simpa using h47)
                  clear h47
                  go_wp2_with fail
                  go_meet
                  exact ⟨by rw [HRR.out, HD.out], by rw [HRR.out]; exact HZ.out⟩
            case rest =>
              obtain ⟨rfl, hnd⟩ := hcut
              have HC1 := Lib.hid hnd
              clear hnd
              by_cases h47 : r0.head? = some 47
              · obtain ⟨r2, hr2⟩ : ∃ r2, r0 = 47 :: r2 := by
                  cases r0 with
                  | nil => simp at h47
                  | cons c r2 => simp at h47; exact ⟨r2, by rw [h47]⟩
                subst hr2
                have hdd : decide ((47 :: r2 : List UInt8).head? = some 47) = true := rfl
                have HSUF2 := Lib.hid (show r2 <:+ l from (List.suffix_cons 47 r2).trans HSUF1.out)
                rw [hdd]
                clear hdd
                obtain ⟨c0', c1, c2, c3⟩ := HC1.out.rr.cells
                have f1 := HC1.out.rr.frozen 1
                obtain ⟨n1, hn1⟩ : ∃ m, m = l.length - (47 :: r2).length := ⟨_, rfl⟩
                rw [← hn1] at c1
                have hll := suf_len HC1.out.rr.1
                have hn1I : (n1 : Int) ≤ 1000000 := by omega
                have hp := RM.put HC1.out.rr HSUF2.out ((n1 : Int) + 1) (by rw [hn1]; simp only [List.length_cons] at hll ⊢; omega)
                have HC2 := Lib.hid (HC1.out.mv hp)
                clear hp hll hn1
                go_upto_region 24 with fail
                generalize wc.setCell ⟨X, 1, none⟩ (.int .i64 ((n1 : Int) + 1)) = w20 at HC2 ⊢
                clear c0' c1 c2 c3 f1
                have z0 := HC2.out.cells.1.1
                have f0 := HC2.out.frozen 0
                have HK2 := Lib.hid (HC2.out.kind 3)
                go_upto_region 25 with fail
                clear z0 f0
                generalize w20.setCell ⟨Tb, 0, none⟩ (.int .i64 3) = w21 at HK2 ⊢
                have HNM := Lib.hid ((rname_at X l r2 11 hl w21 HK2.out.rr).mono fun e w' h => name_two (by decide) h)
                go_wp2_with fail
                refine HNM.out.mono ?_
                rintro e w22 ⟨n, e0, o0, r5, rfl, hm22, hnm⟩
                have HK3 := Lib.hid (HK2.out.mv hm22)
                have HNM2 := Lib.hid hnm
                have z1 := HK3.out.cells.1.2.1
                have f1 := HK3.out.frozen 1
                have HK4 := Lib.hid (HK3.out.name n)
                clear hm22 hnm HNM
                go_upto_region 26 with fail
                clear z1 f1
                generalize w22.setCell ⟨Tb, 1, none⟩ (.string (str n)) = w23 at HK4 ⊢
                have HBL := Lib.hid (rblanks_at X l r5 e0 o0 hl w23 HK4.out.rr)
                go_wp2_with fail
                refine HBL.out.mono ?_
                rintro e w24 ⟨rfl, hm24⟩
                have HK5 := Lib.hid (HK4.out.mv hm24)
                clear hm24 HBL
                rcases HNM2.out with ⟨h1, h2, hM⟩ | ⟨h1, h2, r6, hM, h3⟩
                · subst h1
                  subst h2
                  have HM := Lib.hid hM
                  clear hM
                  have HWT := Lib.hid (rwant_at X l (blanksM r5) 62 hl w24 HK5.out.rr)
                  have HEQ := Lib.hid (show pieceM n0 r = (mustM 62 (blanksM r5)).bind fun _ r4 => .ok ⟨3, n, [], [], n0⟩ r4 by
                    rw [HR0.out, HPT.out, if_pos (show (47 :: r2 : List UInt8).head? = some 47 from rfl)]
                    show ((closeM r2).bind _ : Rs Tk) = _
                    rw [closeM, HM.out]
                    show (((mustM 62 (blanksM r5)).bind _).bind _ : Rs Tk) = _
                    cases mustM 62 (blanksM r5) <;> rfl)
                  cases hMM : mustM 62 (blanksM r5) with
                  | bad e6 r6 =>
                    have HFIN := Lib.hid (show pieceM n0 r = .bad e6 r6 by rw [HEQ.out, hMM]; rfl)
                    rw [hMM] at HWT
                    clear hMM
                    go_wp2_with fail
                    refine HWT.out.mono ?_
                    rintro e w30 ⟨rfl, r7, hm30⟩
                    have HW := Lib.hid (HK5.out.mv hm30)
                    clear hm30 HWT
                    obtain ⟨⟨z0, z1, z2, z3⟩, z4, z5, z6⟩ := HW.out.cells
                    have HROW := Lib.hid HW.out.rrow
                    go_wp2_with (refine wpList_store_row rfl 34 _ _ rfl Rb (tkC 3 n (.slice none 0 0) [] (n0 : Int) (lineS (preO l r)) (colS (preO l r))) rfl rfl 34 _ HROW.out (by kernel_rfl) rfl (by simp [Value.oneCell']) ?_)
                    refine bodyPost_ret (nx_results _ _ Rb (tkC 3 n (.slice none 0 0) [] (n0 : Int) (lineS (preO l r)) (colS (preO l r))) rfl rfl (setRow_heap _ Rb _ _ _ _ HROW.out)) rfl ?_
                    exact nx_bad HN0.out HFIN.out HW.out rfl
                  | ok u r6 =>
                    have HFIN := Lib.hid (show pieceM n0 r = .ok ⟨3, n, [], [], n0⟩ r6 by rw [HEQ.out, hMM]; rfl)
                    rw [hMM] at HWT
                    clear hMM
                    go_wp2_with fail
                    refine HWT.out.mono ?_
                    rintro e w30 ⟨rfl, hm30⟩
                    have HW := Lib.hid (HK5.out.mv hm30)
                    clear hm30 HWT
                    obtain ⟨⟨z0, z1, z2, z3⟩, z4, z5, z6⟩ := HW.out.cells
                    have HROW := Lib.hid HW.out.rrow
                    go_wp2_with (refine wpList_store_row rfl 34 _ _ rfl Rb (tkC 3 n (.slice none 0 0) [] (n0 : Int) (lineS (preO l r)) (colS (preO l r))) rfl rfl 34 _ HROW.out (by kernel_rfl) rfl (by simp [Value.oneCell']) ?_)
                    refine bodyPost_ret (nx_results _ _ Rb (tkC 3 n (.slice none 0 0) [] (n0 : Int) (lineS (preO l r)) (colS (preO l r))) rfl rfl (setRow_heap _ Rb _ _ _ _ HROW.out)) rfl ?_
                    exact nx_fin (x := ⟨3, n, [], [], n0⟩) HN0.out HFIN.out HW.out
                · have HCB := Lib.hid (show (e0 == 0) = false by simpa using h1)
                  have HFIN := Lib.hid (show pieceM n0 r = .bad e0 r6 by
                    rw [HR0.out, HPT.out, if_pos (show (47 :: r2 : List UInt8).head? = some 47 from rfl)]
                    show ((closeM r2).bind _ : Rs Tk) = _
                    rw [closeM, hM]
                    rfl)
                  have HO := Lib.hid h3
                  clear h1 h2 hM h3
                  have HWT := Lib.hid (rwant_bad X l (blanksM r5) e0 o0 62 HCB.out w24 HK5.out.rr)
                  go_wp2_with fail
                  refine HWT.out.mono ?_
                  rintro e w30 ⟨rfl, hm30⟩
                  have HW := Lib.hid (HK5.out.mv hm30)
                  clear hm30 HWT
                  obtain ⟨⟨z0, z1, z2, z3⟩, z4, z5, z6⟩ := HW.out.cells
                  have HROW := Lib.hid HW.out.rrow
                  go_wp2_with (refine wpList_store_row rfl 34 _ _ rfl Rb (tkC 3 n (.slice none 0 0) [] (n0 : Int) (lineS (preO l r)) (colS (preO l r))) rfl rfl 34 _ HROW.out (by kernel_rfl) rfl (by simp [Value.oneCell']) ?_)
                  refine bodyPost_ret (nx_results _ _ Rb (tkC 3 n (.slice none 0 0) [] (n0 : Int) (lineS (preO l r)) (colS (preO l r))) rfl rfl (setRow_heap _ Rb _ _ _ _ HROW.out)) rfl ?_
                  exact nx_bad HN0.out HFIN.out HW.out HO.out
              · have hdd : decide (r0.head? = some 47) = false := decide_eq_false h47
                rw [hdd]
                clear hdd
                have z0 := HC1.out.cells.1.1
                have f0 := HC1.out.frozen 0
                have HK2 := Lib.hid (HC1.out.kind 1)
                go_upto_region 30 with fail
                clear z0 f0
                generalize wc.setCell ⟨Tb, 0, none⟩ (.int .i64 1) = w21 at HK2 ⊢
                have HNM := Lib.hid ((rname_at X l r0 11 hl w21 HK2.out.rr).mono fun e w' h => name_two (by decide) h)
                go_wp2_with fail
                refine HNM.out.mono ?_
                rintro e w22 ⟨n, e0, o0, r5, rfl, hm22, hnm⟩
                have HK3 := Lib.hid (HK2.out.mv hm22)
                have HNM2 := Lib.hid hnm
                have z1 := HK3.out.cells.1.2.1
                have f1 := HK3.out.frozen 1
                have HK4 := Lib.hid (HK3.out.name n)
                clear hm22 hnm HNM
                go_upto_region 31 with fail
                clear z1 f1
                generalize w22.setCell ⟨Tb, 1, none⟩ (.string (str n)) = w23 at HK4 ⊢
                rcases HNM2.out with ⟨h1, h2, hM⟩ | ⟨h1, h2, r6, hM, h3⟩
                · subst h1
                  subst h2
                  have HOP := Lib.hid (show pieceM n0 r = ((attrsR (r5.length + 1) [] r5).bind (endM n)).bind fun x r2 => .ok ⟨x.1, x.2.1, x.2.2, [], n0⟩ r2 by
                    rw [HR0.out, HPT.out, if_neg h47, openM_eqR, hM]
                    rfl)
                  have HAA := Lib.hid (rattrs_at X l r5 hl w23 HK4.out.rr)
                  clear hM
                  cases hA : attrsR (r5.length + 1) [] r5 with
                  | bad e6 r6 =>
                    have HCB := Lib.hid (show (e6 == 0) = false by simpa using ne_attrsR _ _ _ _ _ hA)
                    have HFIN := Lib.hid (show pieceM n0 r = .bad e6 r6 by rw [HOP.out, hA]; rfl)
                    rw [hA] at HAA
                    clear hA
                    go_wp2_with fail
                    refine HAA.out.mono ?_
                    rintro e w24 ⟨rfl, r7, hm24⟩
                    have HK5 := Lib.hid (HK4.out.mv hm24)
                    have z2 := HK5.out.cells.1.2.2.1
                    have f2 := HK5.out.frozen 2
                    have HK6 := Lib.hid (HK5.out.attrs (ats' := []) (va' := .slice none 0 0) (World.ownsRow_nil _ _ _ _))
                    clear hm24 HAA
                    go_upto_region 32 with fail
                    clear z2 f2
                    generalize w24.setCell ⟨Tb, 2, none⟩ (.slice none 0 0) = w25 at HK6 ⊢
                    obtain ⟨c0', c1, c2, c3⟩ := HK6.out.rr.cells
                    have hcb := HCB.out
                    have HWT := Lib.hid (rwant_bad X l r7 e6 _ 62 HCB.out w25 HK6.out.rr)
                    go_wp2_with fail
                    refine HWT.out.mono ?_
                    rintro e w30 ⟨rfl, hm30⟩
                    have HW := Lib.hid (HK6.out.mv hm30)
                    clear hm30 HWT
                    obtain ⟨⟨z0, z1, z2, z3⟩, z4, z5, z6⟩ := HW.out.cells
                    have HROW := Lib.hid HW.out.rrow
                    go_wp2_with (refine wpList_store_row rfl 34 _ _ rfl Rb (tkC 1 n (.slice none 0 0) [] (n0 : Int) (lineS (preO l r)) (colS (preO l r))) rfl rfl 34 _ HROW.out (by kernel_rfl) rfl (by simp [Value.oneCell']) ?_)
                    refine bodyPost_ret (nx_results _ _ Rb (tkC 1 n (.slice none 0 0) [] (n0 : Int) (lineS (preO l r)) (colS (preO l r))) rfl rfl (setRow_heap _ Rb _ _ _ _ HROW.out)) rfl ?_
                    exact nx_bad HN0.out HFIN.out HW.out rfl
                  | ok ats r6 =>
                    have HOP2 := Lib.hid (show pieceM n0 r = (endM n ats r6).bind fun x r2 => .ok ⟨x.1, x.2.1, x.2.2, [], n0⟩ r2 by rw [HOP.out, hA]; rfl)
                    rw [hA] at HAA
                    clear hA
                    go_wp2_with fail
                    refine HAA.out.mono ?_
                    rintro e w24 ⟨va, rfl, ha24⟩
                    have HK5 := Lib.hid (HK4.out.mv ha24.rm)
                    obtain ⟨aa, ac, hv⟩ := RdSl.shape ha24.rd
                    subst hv
                    have z2 := HK5.out.cells.1.2.2.1
                    have f2 := HK5.out.frozen 2
                    have HK6 := Lib.hid (HK5.out.attrs (own_mono2 ha24.own (by have := HK4.out.lt; omega)))
                    clear ha24 HAA
                    go_upto_region 32 with fail
                    clear z2 f2
                    generalize w24.setCell ⟨Tb, 2, none⟩ (.slice aa ats.length ac) = w25 at HK6 ⊢
                    go_cut [118] from 6 to 130 (fun t wx => t = .bool (decide ((r6).head? = some 47)) ∧ N2 w X Rb Tb l r6 0 0 1 n ats (.slice aa ats.length ac) [] (n0 : Int) (lineS (preO l r)) (colS (preO l r)) wx)
                    case first =>
                      have c2 := HK6.out.rr.cells.2.2.1
                      have hsp : r6 = [] ∨ ∃ d rz, r6 = d :: rz := by cases r6 with | nil => exact .inl rfl | cons d rz => exact .inr ⟨d, rz, rfl⟩
                      rcases hsp with hrr | ⟨d, rz, hrr⟩
                      · rw [hrr] at HK6
                        have HRR := Lib.hid hrr
                        have HA0 := Lib.hid (rat_none X l [] 0 0 0 (Nat.le_refl _) (by decide) hl w25 HK6.out.rr)
                        clear hrr
                        go_wp2_with fail
                        refine HA0.out.mono ?_
                        rintro e wz ⟨rfl, hmz⟩
                        have HZ := Lib.hid (HK6.out.mv hmz)
                        clear hmz HA0
                        go_wp2_with fail
                        go_meet
                        exact ⟨by rw [HRR.out]; rfl, by rw [HRR.out]; exact HZ.out⟩
                      · rw [hrr] at HK6
                        have HRR := Lib.hid hrr
                        have HA0 := Lib.hid (rat_some X l (d :: rz) 0 0 0 d rfl hl w25 HK6.out.rr)
                        clear hrr
                        go_wp2_with fail
                        refine HA0.out.mono ?_
                        rintro e wz ⟨rfl, hmz⟩
                        have HZ := Lib.hid (HK6.out.mv hmz)
                        clear hmz HA0
                        by_cases h47 : d = 47
                        · have hq : ((d.toNat : Int) == 47) = true := by rw [h47]; rfl
                          have HD := Lib.hid h47
                          clear h47
                          go_wp2_with fail
                          go_meet
                          exact ⟨by rw [HRR.out, HD.out]; rfl, by rw [HRR.out]; exact HZ.out⟩
                        · have hq : ((d.toNat : Int) == 47) = false := u8_ne2 (d := 47) h47
                          have HD := Lib.hid (show decide ((d :: rz).head? = some 47) = false by simpa using h47)
                          clear h47
                          go_wp2_with fail
                          go_meet
                          exact ⟨by rw [HRR.out, HD.out], by rw [HRR.out]; exact HZ.out⟩
                    case rest =>
                      obtain ⟨rfl, hnd⟩ := hcut
                      have HD1 := Lib.hid hnd
                      clear hnd
                      by_cases hd : r6.head? = some 47
                      · obtain ⟨r7, hr7⟩ : ∃ r7, r6 = 47 :: r7 := by
                          cases r6 with
                          | nil => simp at hd
                          | cons c r7 => simp at hd; exact ⟨r7, by rw [hd]⟩
                        subst hr7
                        have hdd : decide ((47 :: r7 : List UInt8).head? = some 47) = true := rfl
                        rw [hdd]
                        clear hd hdd
                        have z0 := HD1.out.cells.1.1
                        have f0 := HD1.out.frozen 0
                        have HD2 := Lib.hid (HD1.out.kind 2)
                        go_upto_region 34 with fail
                        clear z0 f0
                        generalize wc.setCell ⟨Tb, 0, none⟩ (.int .i64 2) = w26 at HD2 ⊢
                        have HSUF7 := Lib.hid (show r7 <:+ l from (List.suffix_cons 47 r7).trans HD2.out.rr.1)
                        obtain ⟨c0', c1, c2, c3⟩ := HD2.out.rr.cells
                        have f1 := HD2.out.rr.frozen 1
                        obtain ⟨n7, hn7⟩ : ∃ m, m = l.length - (47 :: r7).length := ⟨_, rfl⟩
                        rw [← hn7] at c1
                        have hll := suf_len HD2.out.rr.1
                        have hn7I : (n7 : Int) ≤ 1000000 := by omega
                        have hp := RM.put HD2.out.rr HSUF7.out ((n7 : Int) + 1) (by rw [hn7]; simp only [List.length_cons] at hll ⊢; omega)
                        have HD3 := Lib.hid (HD2.out.mv hp)
                        clear hp hll hn7
                        go_upto_region 35 with fail
                        generalize w26.setCell ⟨X, 1, none⟩ (.int .i64 ((n7 : Int) + 1)) = w27 at HD3 ⊢
                        clear c0' c1 c2 c3 f1
                        have HWT := Lib.hid (rwant_at X l r7 62 hl w27 HD3.out.rr)
                        have HEQ := Lib.hid (show pieceM n0 r = (mustM 62 (r7)).bind fun _ r4 => .ok ⟨2, n, ats, [], n0⟩ r4 by
                          rw [HOP2.out, endM_yes]
                          cases mustM 62 r7 <;> rfl)
                        cases hMM : mustM 62 (r7) with
                        | bad e6 r6 =>
                          have HFIN := Lib.hid (show pieceM n0 r = .bad e6 r6 by rw [HEQ.out, hMM]; rfl)
                          rw [hMM] at HWT
                          clear hMM
                          go_wp2_with fail
                          refine HWT.out.mono ?_
                          rintro e w30 ⟨rfl, r7, hm30⟩
                          have HW := Lib.hid (HD3.out.mv hm30)
                          clear hm30 HWT
                          obtain ⟨⟨z0, z1, z2, z3⟩, z4, z5, z6⟩ := HW.out.cells
                          have HROW := Lib.hid HW.out.rrow
                          go_wp2_with (refine wpList_store_row rfl 34 _ _ rfl Rb (tkC 2 n (.slice aa ats.length ac) [] (n0 : Int) (lineS (preO l r)) (colS (preO l r))) rfl rfl 34 _ HROW.out (by kernel_rfl) rfl (by simp [Value.oneCell']) ?_)
                          refine bodyPost_ret (nx_results _ _ Rb (tkC 2 n (.slice aa ats.length ac) [] (n0 : Int) (lineS (preO l r)) (colS (preO l r))) rfl rfl (setRow_heap _ Rb _ _ _ _ HROW.out)) rfl ?_
                          exact nx_bad HN0.out HFIN.out HW.out rfl
                        | ok u r6 =>
                          have HFIN := Lib.hid (show pieceM n0 r = .ok ⟨2, n, ats, [], n0⟩ r6 by rw [HEQ.out, hMM]; rfl)
                          rw [hMM] at HWT
                          clear hMM
                          go_wp2_with fail
                          refine HWT.out.mono ?_
                          rintro e w30 ⟨rfl, hm30⟩
                          have HW := Lib.hid (HD3.out.mv hm30)
                          clear hm30 HWT
                          obtain ⟨⟨z0, z1, z2, z3⟩, z4, z5, z6⟩ := HW.out.cells
                          have HROW := Lib.hid HW.out.rrow
                          go_wp2_with (refine wpList_store_row rfl 34 _ _ rfl Rb (tkC 2 n (.slice aa ats.length ac) [] (n0 : Int) (lineS (preO l r)) (colS (preO l r))) rfl rfl 34 _ HROW.out (by kernel_rfl) rfl (by simp [Value.oneCell']) ?_)
                          refine bodyPost_ret (nx_results _ _ Rb (tkC 2 n (.slice aa ats.length ac) [] (n0 : Int) (lineS (preO l r)) (colS (preO l r))) rfl rfl (setRow_heap _ Rb _ _ _ _ HROW.out)) rfl ?_
                          exact nx_fin (x := ⟨2, n, ats, [], n0⟩) HN0.out HFIN.out HW.out
                      · have hdd : decide (r6.head? = some 47) = false := decide_eq_false hd
                        have HHD := Lib.hid hd
                        rw [hdd]
                        clear hd hdd
                        have HWT := Lib.hid (rwant_at X l r6 62 hl wc HD1.out.rr)
                        have HEQ := Lib.hid (show pieceM n0 r = (mustM 62 (r6)).bind fun _ r4 => .ok ⟨1, n, ats, [], n0⟩ r4 by
                          rw [HOP2.out, endM_no n ats HHD.out]
                          cases mustM 62 r6 <;> rfl)
                        cases hMM : mustM 62 (r6) with
                        | bad e6 r6z =>
                          have HFIN := Lib.hid (show pieceM n0 r = .bad e6 r6z by rw [HEQ.out, hMM]; rfl)
                          rw [hMM] at HWT
                          clear hMM
                          go_wp2_with fail
                          refine HWT.out.mono ?_
                          rintro e w30 ⟨rfl, r7, hm30⟩
                          have HW := Lib.hid (HD1.out.mv hm30)
                          clear hm30 HWT
                          obtain ⟨⟨z0, z1, z2, z3⟩, z4, z5, z6⟩ := HW.out.cells
                          have HROW := Lib.hid HW.out.rrow
                          go_wp2_with (refine wpList_store_row rfl 34 _ _ rfl Rb (tkC 1 n (.slice aa ats.length ac) [] (n0 : Int) (lineS (preO l r)) (colS (preO l r))) rfl rfl 34 _ HROW.out (by kernel_rfl) rfl (by simp [Value.oneCell']) ?_)
                          refine bodyPost_ret (nx_results _ _ Rb (tkC 1 n (.slice aa ats.length ac) [] (n0 : Int) (lineS (preO l r)) (colS (preO l r))) rfl rfl (setRow_heap _ Rb _ _ _ _ HROW.out)) rfl ?_
                          exact nx_bad HN0.out HFIN.out HW.out rfl
                        | ok u r6z =>
                          have HFIN := Lib.hid (show pieceM n0 r = .ok ⟨1, n, ats, [], n0⟩ r6z by rw [HEQ.out, hMM]; rfl)
                          rw [hMM] at HWT
                          clear hMM
                          go_wp2_with fail
                          refine HWT.out.mono ?_
                          rintro e w30 ⟨rfl, hm30⟩
                          have HW := Lib.hid (HD1.out.mv hm30)
                          clear hm30 HWT
                          obtain ⟨⟨z0, z1, z2, z3⟩, z4, z5, z6⟩ := HW.out.cells
                          have HROW := Lib.hid HW.out.rrow
                          go_wp2_with (refine wpList_store_row rfl 34 _ _ rfl Rb (tkC 1 n (.slice aa ats.length ac) [] (n0 : Int) (lineS (preO l r)) (colS (preO l r))) rfl rfl 34 _ HROW.out (by kernel_rfl) rfl (by simp [Value.oneCell']) ?_)
                          refine bodyPost_ret (nx_results _ _ Rb (tkC 1 n (.slice aa ats.length ac) [] (n0 : Int) (lineS (preO l r)) (colS (preO l r))) rfl rfl (setRow_heap _ Rb _ _ _ _ HROW.out)) rfl ?_
                          exact nx_fin (x := ⟨1, n, ats, [], n0⟩) HN0.out HFIN.out HW.out
                · have HCB := Lib.hid (show (e0 == 0) = false by simpa using h1)
                  have HFIN := Lib.hid (show pieceM n0 r = .bad e0 r6 by
                    rw [HR0.out, HPT.out, if_neg h47, openM_eqR, hM]
                    rfl)
                  have HO := Lib.hid h3
                  have HAA := Lib.hid (rattrs_bad X l r5 e0 o0 HCB.out w23 HK4.out.rr)
                  clear h1 h2 hM h3
                  go_wp2_with fail
                  refine HAA.out.mono ?_
                  rintro e w24 ⟨rfl, hw24⟩
                  obtain rfl : w23 = w24 := hw24.symm
                  have z2 := HK4.out.cells.1.2.2.1
                  have f2 := HK4.out.frozen 2
                  have HK6 := Lib.hid (HK4.out.attrs (ats' := []) (va' := .slice none 0 0) (World.ownsRow_nil _ _ _ _))
                  clear hw24 HAA
                  go_upto_region 32 with fail
                  clear z2 f2
                  generalize w23.setCell ⟨Tb, 2, none⟩ (.slice none 0 0) = w25 at HK6 ⊢
                  obtain ⟨c0', c1, c2, c3⟩ := HK6.out.rr.cells
                  have hcb := HCB.out
                  have HWT := Lib.hid (rwant_bad X l r5 e0 o0 62 HCB.out w25 HK6.out.rr)
                  go_wp2_with fail
                  refine HWT.out.mono ?_
                  rintro e w30 ⟨rfl, hm30⟩
                  have HW := Lib.hid (HK6.out.mv hm30)
                  clear hm30 HWT
                  obtain ⟨⟨z0, z1, z2, z3⟩, z4, z5, z6⟩ := HW.out.cells
                  have HROW := Lib.hid HW.out.rrow
                  go_wp2_with (refine wpList_store_row rfl 34 _ _ rfl Rb (tkC 1 n (.slice none 0 0) [] (n0 : Int) (lineS (preO l r)) (colS (preO l r))) rfl rfl 34 _ HROW.out (by kernel_rfl) rfl (by simp [Value.oneCell']) ?_)
                  refine bodyPost_ret (nx_results _ _ Rb (tkC 1 n (.slice none 0 0) [] (n0 : Int) (lineS (preO l r)) (colS (preO l r))) rfl rfl (setRow_heap _ Rb _ _ _ _ HROW.out)) rfl ?_
                  exact nx_bad HN0.out HFIN.out HW.out HO.out
end Go.Proofs.Ytldgjiohigiioaa
