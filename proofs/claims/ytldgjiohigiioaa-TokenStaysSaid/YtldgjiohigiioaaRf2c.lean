/-
  Layer 2: the answer's reader: plain, letters. Own work.
-/
import Derived.Test.YtldgjiohigiioaaRf2b
import Derived.Test.YtldgjiohigiioaaRefRef
import Derived.Test.YtldgjiohigiioaaRd2e
namespace Go.Proofs.Ytldgjiohigiioaa
set_option linter.unusedVariables false
set_option linter.unusedSimpArgs false
open Go.RowKit

/-- what stands ahead of r' and behind r is a text -/
theorem rcut_mid {l r acc r' : List UInt8} (h : r <:+ l) (ha : acc ++ r' = r) : (str l).extract (l.length - r.length) (l.length - r'.length) = str acc := by
  have hl := suf_len h
  have hr : r.length = acc.length + r'.length := by rw [← ha, List.length_append]
  have he : l.length - r'.length - (l.length - r.length) = acc.length := by omega
  rw [ext_str, toList_str, List.drop_take, suf_drop h, he, ← ha, List.take_left]
set_option maxRecDepth 100000 in
set_option maxHeartbeats 4000000 in
theorem rplain_at (X : Nat) (l r back : List UInt8) (n : Nat) (hn : n ≤ r.length) (hbk : back.length ≤ 100) (hbn : back.isPrefixOf [] = false) (hl : l.length ≤ 1000000) (w : World) (h : RR w X l r 0 0) :
    Calls Try.prog 39 #[.pointer (some ⟨X, 0, none⟩), .int .i64 (n : Int), .string (str back)] w (RfP X l (betM back [] (r.drop n)) (fun t => .string (str t)) (.string (str [])) w) := by
  have hsuf0 : r.drop n <:+ l := (List.drop_suffix n r).trans h.1
  have HSUF0 := Lib.hid hsuf0
  have hll := suf_len h.1
  have HLL := Lib.hid hll
  have HN := Lib.hid hn
  obtain ⟨c0, c1, c2, c3⟩ := h.cells
  have f1 := h.frozen 1
  have hsz := size_str l
  have HSZ := Lib.hid hsz
  have hz : ((l.length - r.length : Nat) : Int) + (n : Int) = ((l.length - (r.drop n).length : Nat) : Int) := by rw [List.length_drop]; omega
  have hp := RM.put h hsuf0 (((l.length - r.length : Nat) : Int) + (n : Int)) hz
  have HP := Lib.hid hp
  have hb1 : ((l.length - r.length : Nat) : Int) ≤ 1000000 := by omega
  have hb2 : (n : Int) ≤ 1000000 := by omega
  clear hll hn h hsuf0 hsz
  obtain ⟨m, hm⟩ : ∃ m, m = l.length - (r.drop n).length := ⟨_, rfl⟩
  clear hz
  generalize l.length - r.length = n0 at c1 hp HP hb1
  have HM := Lib.hid hm
  go_enter Try.func39, Try.ntmps39
  go_upto_region 2 with fail
  generalize w.setCell ⟨X, 1, none⟩ (.int .i64 ((n0 : Int) + (n : Int))) = w1 at hp HP ⊢
  clear c0 c1 c2 c3 f1
  obtain ⟨c0, c1, c2, c3⟩ := hp.1.cells
  rw [← hm] at c1
  clear hp hm hb1 hb2
  go_wp2_with fail
  clear c0 c1 c2 c3
  go_loopw [] (fun wr => ∃ acc r', betM back acc r' = betM back [] (r.drop n) ∧ acc ++ r' = r.drop n ∧ RM X l r' 0 0 w wr) (fun wr => l.length - offR X wr)
  case atStart => exact ⟨[], r.drop n, rfl, rfl, HP.out⟩
  case round =>
    obtain ⟨acc, r', hbet, hacc, hmw⟩ := hrel
    have HBET := Lib.hid hbet
    have HACC := Lib.hid hacc
    have HMW := Lib.hid hmw
    have HLL' := Lib.hid (suf_len hmw.1.1)
    have HBG := Lib.hid (rbegins_at X l r' back 0 0 hbk hl wr hmw.1)
    have HOFF := Lib.hid hmw.1.off
    clear hbet hacc hmw
    go_wp2_with fail
    refine HBG.out.mono ?_
    rintro e w2 ⟨rfl, hm2⟩
    have HM2 := Lib.hid (HMW.out.trans hm2)
    clear hm2
    generalize hq : back.isPrefixOf r' = q
    have HQ := Lib.hid hq
    clear hq
    cases q with
    | true =>
      have hpre := List.isPrefixOf_iff_prefix.1 HQ.out
      have hble := hpre.length_le
      have HFIN := Lib.hid (show betM back [] (r.drop n) = .ok acc (r'.drop back.length) by
        rw [← HBET.out]
        cases r' with
        | nil => rw [hbn] at HQ; exact absurd HQ.out (by decide)
        | cons c r' => rw [betM, if_pos HQ.out])
      obtain ⟨c0, c1, c2, c3⟩ := HM2.out.1.cells
      have hcm := rcut_mid HSUF0.out HACC.out
      have hll := HLL'.out
      have hal : (r.drop n).length = acc.length + r'.length := by rw [← HACC.out, List.length_append]
      have hdl := suf_len HSUF0.out
      have h3 := HSZ.out
      have hmm := HM.out
      rw [← hmm] at hcm
      obtain ⟨k, hk⟩ : ∃ k, k = l.length - r'.length := ⟨_, rfl⟩
      rw [← hk] at c1 hcm
      have HK := Lib.hid hk
      have hmk : m ≤ k := by omega
      have hks : k ≤ (str l).size := by omega
      have hsl : ∀ w, (Instr.slice 9 (.string (str l)) (some (.int .i64 (m : Int))) (some (.int .i64 (k : Int))) none).run Try.prog w = .ok (.string (str acc)) w := fun w => by
        rw [run_slice_string w 9 _ _ _ _ _ Try.underlying9 (by omega) (by omega) (by omega), Int.toNat_natCast, Int.toNat_natCast, hcm]
      have hsuf2 : r'.drop back.length <:+ l := (List.drop_suffix _ r').trans HM2.out.1.1
      have HSUF2 := Lib.hid hsuf2
      have HPZ := Lib.hid (show (k : Int) + ((str back).size : Int) = ((l.length - (r'.drop back.length).length : Nat) : Int) by
        rw [List.length_drop, size_str, hk]; omega)
      have hkI : (k : Int) ≤ 1000000 := by omega
      have hbI : ((str back).size : Int) ≤ 100 := by rw [size_str]; omega
      clear hpre hble hcm hll hal hdl h3 hmm hk hmk hks hsuf2
      go_upto_region 4 with fail
      go_quiet (fail)
      rename_i nq
      have hm3 := RM.drew HM2.out.1 nq
      have HM3 := Lib.hid (HM2.out.trans hm3)
      generalize w2.drewN nq = w3 at hm3 HM3 ⊢
      clear c0 c1 c2 c3 hsl
      obtain ⟨c0, c1, c2, c3⟩ := hm3.1.cells
      rw [← HK.out] at c1
      have f1 := hm3.1.frozen 1
      have HP4 := Lib.hid (RM.put hm3.1 HSUF2.out ((k : Int) + ((str back).size : Int)) HPZ.out)
      clear hm3
      go_wp2
      go_ret
      rw [HFIN.out]
      exact ⟨rfl, HM3.out.trans HP4.out⟩
    | false =>
      cases r' with
      | nil =>
        have HE := Lib.hid (rend_ok X l [] w2 HM2.out.1)
        have HFIN := Lib.hid (show betM back [] (r.drop n) = .bad 13 [] by rw [← HBET.out, betM, if_neg (by rw [HQ.out]; decide)])
        go_wp2_with fail
        refine HE.out.mono ?_
        rintro e w3 ⟨rfl, hm3, _⟩
        have HM3 := Lib.hid (HM2.out.trans (hm3 rfl))
        clear hm3
        dsimp only [List.isEmpty]
        go_wp2
        go_ret
        rw [HFIN.out]
        exact ⟨rfl, [], HM3.out⟩
      | cons c r' =>
        have HE := Lib.hid (rend_ok X l (c :: r') w2 HM2.out.1)
        go_wp2_with fail
        refine HE.out.mono ?_
        rintro e w3 ⟨rfl, _, hm3⟩
        have HM3 := Lib.hid (HM2.out.trans (hm3 (by simp)))
        clear hm3
        dsimp only [List.isEmpty]
        obtain ⟨c0, c1, c2, c3⟩ := HM3.out.1.cells
        have hi := fun w => bidx2 (str l) (l.length - (c :: r').length) c (by rw [toList_str]; exact suf_at HM3.out.1.1) w
        have hll := HLL'.out
        have hsz := HSZ.out
        have hlt : l.length - (c :: r').length < (str l).size := by rw [hsz]; simp at hll ⊢; omega
        obtain ⟨k, hk⟩ : ∃ k, k = l.length - (c :: r').length := ⟨_, rfl⟩
        rw [← hk] at c1 hi hlt
        have HK := Lib.hid hk
        have C0 := Lib.hid (fun w1 (hb : Below w3.heap.size w3 w1) => (hb.cell (World.block_lt_of_cell? w3 _ c0)).trans c0)
        have C1 := Lib.hid (fun w1 (hb : Below w3.heap.size w3 w1) => (hb.cell (World.block_lt_of_cell? w3 _ c1)).trans c1)
        generalize htx : tx c = b
        have HTX := Lib.hid htx
        have HIS := Lib.hid (fun w => is_at (c.toNat : Int) 16 b (by decide) (by decide) (by rw [(cls_all _).2.2.2.2]; exact htx) w)
        have hkI : (k : Int) ≤ 1000000 := by omega
        clear hll hsz hk htx c0 c1 c2 c3
        go_upto_region 9 with fail
        refine wp_region_held_drew (S := (fun w1 => Below w3.heap.size w3 w1)) (by kernel_rfl) (by (try dsimp only); exact (Below.refl _ _).drew) (fun hHeld => ?_)
        generalize w3.drew = wd at hHeld ⊢
        refine wpAnyH_take (i := 0) (v := ?_) (by (simp only [List.getElem?_toArray, List.getElem?_cons_succ, List.getElem?_cons_zero]; rfl)) (by kernel_rfl) (by kernel_rfl) (by kernel_rfl) (by intro _ _ _ h; exact h) (Or.inl ⟨by rfl, ?_⟩) (by assumption) ?_
        rotate_left
        · (intro w hSw; (try dsimp only at hSw); go_simp; try (with_reducible rfl))
        simp only [Act.put, List.setIfInBounds_toArray, List.set_cons_zero, List.set_cons_succ]
        refine wpAnyH_take (i := 1) (v := ?_) (by (simp only [List.getElem?_toArray, List.getElem?_cons_succ, List.getElem?_cons_zero]; rfl)) (by kernel_rfl) (by kernel_rfl) (by kernel_rfl) (by intro _ _ _ h; exact h) (Or.inl ⟨by rfl, ?_⟩) (by assumption) ?_
        rotate_left
        · (intro w hSw; (try dsimp only at hSw); go_simp; try (with_reducible rfl))
        simp only [Act.put, List.setIfInBounds_toArray, List.set_cons_zero, List.set_cons_succ]
        refine wpAnyH_take (i := 2) (v := ?_) (by (simp only [List.getElem?_toArray, List.getElem?_cons_succ, List.getElem?_cons_zero]; rfl)) (by kernel_rfl) (by kernel_rfl) (by kernel_rfl) (by intro _ _ _ h; exact h) (Or.inl ⟨by rfl, ?_⟩) (by assumption) ?_
        rotate_left
        · (intro w hSw; (try dsimp only at hSw); go_simp; try (with_reducible rfl))
        simp only [Act.put, List.setIfInBounds_toArray, List.set_cons_zero, List.set_cons_succ]
        refine wpAnyH_take (i := 3) (v := ?_) (by (simp only [List.getElem?_toArray, List.getElem?_cons_succ, List.getElem?_cons_zero]; rfl)) (by kernel_rfl) (by kernel_rfl) (by kernel_rfl) (by intro _ _ _ h; exact h) (Or.inl ⟨by rfl, ?_⟩) (by assumption) ?_
        rotate_left
        · (intro w hSw; have q1 := C0.out w hSw; go_simp; try (with_reducible rfl))
        simp only [Act.put, List.setIfInBounds_toArray, List.set_cons_zero, List.set_cons_succ]
        refine wpAnyH_take (i := 4) (v := ?_) (by (simp only [List.getElem?_toArray, List.getElem?_cons_succ, List.getElem?_cons_zero]; rfl)) (by kernel_rfl) (by kernel_rfl) (by kernel_rfl) (by intro _ _ _ h; exact h) (Or.inl ⟨by rfl, ?_⟩) (by assumption) ?_
        rotate_left
        · (intro w hSw; (try dsimp only at hSw); go_simp; try (with_reducible rfl))
        simp only [Act.put, List.setIfInBounds_toArray, List.set_cons_zero, List.set_cons_succ]
        refine wpAnyH_take (i := 5) (v := ?_) (by (simp only [List.getElem?_toArray, List.getElem?_cons_succ, List.getElem?_cons_zero]; rfl)) (by kernel_rfl) (by kernel_rfl) (by kernel_rfl) (by intro _ _ _ h; exact h) (Or.inl ⟨by rfl, ?_⟩) (by assumption) ?_
        rotate_left
        · (intro w hSw; (try dsimp only at hSw); go_simp; try (with_reducible rfl))
        simp only [Act.put, List.setIfInBounds_toArray, List.set_cons_zero, List.set_cons_succ]
        refine wpAnyH_take (i := 6) (v := ?_) (by (simp only [List.getElem?_toArray, List.getElem?_cons_succ, List.getElem?_cons_zero]; rfl)) (by kernel_rfl) (by kernel_rfl) (by kernel_rfl) (by intro _ _ _ h; exact h) (Or.inl ⟨by rfl, ?_⟩) (by assumption) ?_
        rotate_left
        · (intro w hSw; (try dsimp only at hSw); go_simp; try (with_reducible rfl))
        simp only [Act.put, List.setIfInBounds_toArray, List.set_cons_zero, List.set_cons_succ]
        refine wpAnyH_take (i := 7) (v := ?_) (by (simp only [List.getElem?_toArray, List.getElem?_cons_succ, List.getElem?_cons_zero]; rfl)) (by kernel_rfl) (by kernel_rfl) (by kernel_rfl) (by intro _ _ _ h; exact h) (Or.inl ⟨by rfl, ?_⟩) (by assumption) ?_
        rotate_left
        · (intro w hSw; have q1 := C1.out w hSw; go_simp; try (with_reducible rfl))
        simp only [Act.put, List.setIfInBounds_toArray, List.set_cons_zero, List.set_cons_succ]
        refine wpAnyH_take (i := 8) (v := ?_) (by (simp only [List.getElem?_toArray, List.getElem?_cons_succ, List.getElem?_cons_zero]; rfl)) (by kernel_rfl) (by kernel_rfl) (by kernel_rfl) (by intro _ _ _ h; exact h) (Or.inl ⟨by rfl, ?_⟩) (by assumption) ?_
        rotate_left
        · (intro w hSw; (try dsimp only at hSw); go_simp; try (with_reducible rfl))
        simp only [Act.put, List.setIfInBounds_toArray, List.set_cons_zero, List.set_cons_succ]
        refine wpAnyH_ready (rs := [9]) (by kernel_rfl) (by simp) ?_
        refine AllReadyH.cons (by (simp only [List.getElem?_toArray, List.getElem?_cons_succ, List.getElem?_cons_zero]; rfl)) (fun K hK => ?_) AllReadyH.nil
        go_simp
        go_at_call 21; refine (HIS.out _).mono ?_; rintro e w6 ⟨rfl, hw6⟩
        refine hK.out _ _ (by (try dsimp only); rw [hw6]; exact hHeld) (fun hHeld => ?_)
        clear hK K
        try simp only [Act.put, List.setIfInBounds_toArray, List.set_cons_zero, List.set_cons_succ]
        clear hw6
        refine wpAnyH_take (i := 10) (v := ?_) (by (simp only [List.getElem?_toArray, List.getElem?_cons_succ, List.getElem?_cons_zero]; rfl)) (by kernel_rfl) (by kernel_rfl) (by kernel_rfl) (by intro _ _ _ h; exact h) (Or.inl ⟨by rfl, ?_⟩) (by assumption) ?_
        rotate_left
        · (intro w hSw; (try dsimp only at hSw); go_simp; try (with_reducible rfl))
        simp only [Act.put, List.setIfInBounds_toArray, List.set_cons_zero, List.set_cons_succ]
        refine wpAnyH_done (by kernel_rfl) ?_ _
        have hr6 := HM3.out.1.below hHeld
        have HM6 := Lib.hid (HM3.out.trans (RM.below HM3.out.1 hHeld))
        clear hHeld hi
        obtain ⟨c0, c1, c2, c3⟩ := hr6.cells
        rw [← HK.out] at c1
        have f1 := hr6.frozen 1
        clear hlt
        cases b with
        | false =>
          have HFIN := Lib.hid (show betM back [] (r.drop n) = .bad 10 (c :: r') by rw [← HBET.out, betM, if_neg (by rw [HQ.out]; decide), if_neg (by rw [HTX.out]; decide)])
          have HF := Lib.hid (rfail_yes X l (c :: r') 0 10 (k : Int) w6 hr6)
          clear hr6
          go_wp2_with fail
          refine HF.out.mono ?_
          rintro e w7 ⟨rfl, hm7⟩
          have HM7 := Lib.hid (HM6.out.trans hm7)
          clear hm7
          go_wp2
          go_ret
          rw [HFIN.out]
          exact ⟨rfl, c :: r', by rw [← HK.out]; exact HM7.out⟩
        | true =>
          have hsuf : r' <:+ l := (List.suffix_cons c r').trans hr6.1
          have HP2 := Lib.hid (RM.put hr6 hsuf ((k : Int) + 1) (by
            have h1 := HK.out
            have h2 := HLL'.out
            rw [h1]; simp at h2 ⊢; omega))
          have HO := Lib.hid (show l.length - offR X (w6.setCell ⟨X, 1, none⟩ (.int .i64 ((k : Int) + 1))) < l.length - offR X wr by
            rw [HP2.out.1.off, HOFF.out]
            have h2 := HLL'.out
            simp at h2 ⊢
            omega)
          clear hsuf hr6
          go_wp2
          go_roundw
          case rel => exact ⟨acc ++ [c], r', by rw [← HBET.out]; conv => rhs; rw [betM, if_neg (by rw [HQ.out]; decide), if_pos HTX.out], by rw [← HACC.out]; simp, HM6.out.trans HP2.out⟩
          case measure => exact HO.out
end Go.Proofs.Ytldgjiohigiioaa
