/-
  Layer 2: the answer's reader: letters. Own work.
-/
import Derived.Test.YtldgjiohigiioaaRf2c
namespace Go.Proofs.Ytldgjiohigiioaa
set_option linter.unusedVariables false
set_option linter.unusedSimpArgs false
open Go.RowKit

theorem one_str {l r : List UInt8} {c : UInt8} (h : c :: r <:+ l) : (str l).extract (l.length - (c :: r).length) (l.length - (c :: r).length + 1) = str [c] := by
  rw [ext_str, toList_str, List.drop_take, suf_drop h, Nat.add_sub_cancel_left]
  rfl
set_option maxRecDepth 100000 in
set_option maxHeartbeats 8000000 in
theorem rletters_at (X : Nat) (l r : List UInt8) (stop : UInt8) (hl : l.length ≤ 1000000) (w : World) (h : RR w X l r 0 0) :
    Calls Try.prog 41 #[.pointer (some ⟨X, 0, none⟩), .int .u8 (stop.toNat : Int)] w (RfP X l (letM stop true (r.length + 1) [] r) (fun t => .string (str t)) (.string (str [])) w) := by
  have H := Lib.hid h
  have HLL := Lib.hid (suf_len h.1)
  have HSZ := Lib.hid (size_str l)
  clear h
  go_enter Try.func41, Try.ntmps41
  go_wp2_with fail
  go_loopw [5] (fun s wr => ∃ acc r' f, s = .string (str acc) ∧ r'.length < f ∧ letM stop true f acc r' = letM stop true (r.length + 1) [] r ∧ acc.length + 4 * r'.length ≤ 4 * r.length ∧ RM X l r' 0 0 w wr) (fun _ wr => l.length - offR X wr)
  case atStart => exact ⟨[], r, r.length + 1, rfl, by omega, rfl, by simp, RM.refl H.out⟩
  case round =>
    obtain ⟨acc, r', f, rfl, hf, hmod, hacc, hmw⟩ := hrel
    obtain ⟨g, hg⟩ : ∃ g, f = g + 1 := ⟨f - 1, by omega⟩
    subst hg
    have HG := Lib.hid hf
    have HMOD := Lib.hid hmod
    have HACC := Lib.hid hacc
    have HMW := Lib.hid hmw
    have HLL' := Lib.hid (suf_len hmw.1.1)
    have HOFF := Lib.hid hmw.1.off
    obtain ⟨c0, c1, c2, c3⟩ := hmw.1.cells
    clear hf hmod hacc hmw
    cases r' with
    | nil =>
      have HFIN := Lib.hid (show letM stop true (r.length + 1) [] r = .ok acc [] by rw [← HMOD.out]; rfl)
      have hsz := HSZ.out
      have hn : decide (((l.length - ([] : List UInt8).length : Nat) : Int) < ((str l).size : Int)) = false := decide_eq_false (by rw [hsz]; simp)
      have hnN : decide (l.length - ([] : List UInt8).length < (str l).size) = false := decide_eq_false (by rw [hsz]; simp)
      generalize l.length - ([] : List UInt8).length = n at c1 hn hnN
      clear hsz
      go_upto_region 2 with fail
      go_quiet (fail)
      go_wp2
      go_ret
      rw [HFIN.out]
      exact ⟨rfl, HMW.out.trans (RM.drew HMW.out.1 _)⟩
    | cons c r' =>
      have hsz := HSZ.out
      have hll := HLL'.out
      have hn : decide (((l.length - (c :: r').length : Nat) : Int) < ((str l).size : Int)) = true := decide_eq_true (by rw [hsz]; simp at hll ⊢; omega)
      have hi := fun w => bidx2 (str l) (l.length - (c :: r').length) c (by rw [toList_str]; exact suf_at HMW.out.1.1) w
      have hlt : l.length - (c :: r').length < (str l).size := by rw [hsz]; simp at hll ⊢; omega
      have hx := ext_suf HMW.out.1.1
      have hx1 := one_str HMW.out.1.1
      obtain ⟨k, hk⟩ : ∃ k, k = l.length - (c :: r').length := ⟨_, rfl⟩
      rw [← hk] at c1 hn hi hlt hx hx1
      have HK := Lib.hid hk
      have hkI : (k : Int) ≤ 1000000 := by omega
      have HX := Lib.hid hx
      have HX1 := Lib.hid hx1
      have HI := Lib.hid hi
      have hltI : (k : Int) < ((str l).size : Int) := by omega
      have hszI : ((str l).size : Int) ≤ 1000000 := by omega
      clear hk hsz hll hx hx1
      by_cases hst : c = stop
      · have hne : ((c.toNat : Int) != (stop.toNat : Int)) = false := by rw [hst]; simp
        have HFIN := Lib.hid (show letM stop true (r.length + 1) [] r = .ok acc (c :: r') by rw [← HMOD.out, hst]; exact let_stop)
        clear hst
        go_upto_region 2 with fail
        go_quiet (fail)
        go_wp2
        go_ret
        rw [HFIN.out]
        exact ⟨rfl, HMW.out.trans (RM.drew HMW.out.1 _)⟩
      have hne : ((c.toNat : Int) != (stop.toNat : Int)) = true := by rw [bne, u8_ne2 hst]; rfl
      have HNS := Lib.hid hst
      clear hst
      go_upto_region 2 with fail
      go_quiet (fail)
      rename_i nq
      have hm2 := RM.drew HMW.out.1 nq
      have HM2 := Lib.hid (HMW.out.trans hm2)
      generalize wr.drewN nq = w2 at hm2 HM2 ⊢
      clear c0 c1 c2 c3 hne hn
      obtain ⟨c0, c1, c2, c3⟩ := hm2.1.cells
      rw [← HK.out] at c1
      clear hm2
      go_upto_region 3 with fail
      go_region
      have hm3 := RM.drew0 HM2.out.1
      have HM3 := Lib.hid (HM2.out.trans hm3)
      go_upto_region 4 with fail
      generalize w2.drew = w3 at hm3 HM3 ⊢
      clear c0 c1 c2 c3
      obtain ⟨c0, c1, c2, c3⟩ := hm3.1.cells
      rw [← HK.out] at c1
      clear hm3 hi
      have HACL := Lib.hid (show acc.length ≤ 10000000 by have h2 := HACC.out; have h3 := HLL.out; omega)
      by_cases h38 : c = 38
      · have h38b : ((c.toNat : Int) == 38) = true := by rw [h38]; rfl
        obtain ⟨⟨x, n, y⟩, hxy⟩ : ∃ z, refS (c :: r') = z := ⟨_, rfl⟩
        have HMM := Lib.hid (show letM stop true (r.length + 1) [] r = if y = 0 then letM stop true g (acc ++ x.data.toList) ((c :: r').drop n) else .bad (errno y) (c :: r') by rw [← HMOD.out]; exact let_ref HNS.out h38 hxy)
        have HRF := Lib.hid (fun w => show Calls Try.prog 62 #[.string (str (c :: r'))] w fun e w' => e = .returned (.tuple #[.string x, .int .i64 (n : Int), .int .i64 (y : Int)]) ∧ Below w.heap.size w w' from by
          have hh := refRef_any (str (c :: r')) (by rw [size_str]; have := HLL'.out; omega) w
          rw [toList_str, hxy] at hh
          exact hh)
        have HXY := Lib.hid hxy
        have hx := HX.out
        have hle2 : k ≤ (str l).size := by omega
        have hleI : (k : Int) ≤ ((str l).size : Int) := by omega
        have C0 := Lib.hid (fun w1 (hb : Below w3.heap.size w3 w1) => (hb.cell (World.block_lt_of_cell? w3 _ c0)).trans c0)
        have C1 := Lib.hid (fun w1 (hb : Below w3.heap.size w3 w1) => (hb.cell (World.block_lt_of_cell? w3 _ c1)).trans c1)
        clear h38 hxy c0 c1 c2 c3
        go_upto_region 5 with fail
        refine wp_region_held_drew (S := (fun w1 => Below w3.heap.size w3 w1)) (by kernel_rfl) (by (try dsimp only); exact (Below.refl _ _).drew) (fun hHeld => ?_)
        generalize w3.drew = wd at hHeld ⊢
        refine wpAnyH_take (i := 0) (v := ?_) (by (simp only [List.getElem?_toArray, List.getElem?_cons_succ, List.getElem?_cons_zero]; rfl)) (by kernel_rfl) (by kernel_rfl) (by kernel_rfl) (by intro _ _ _ h; exact h) (Or.inl ⟨by rfl, ?_⟩) (by assumption) ?_
        rotate_left
        · (intro w hSw; (try dsimp only at hSw); go_simp; try (with_reducible rfl))
        simp only [Act.put, List.setIfInBounds_toArray, List.set_cons_zero, List.set_cons_succ]
        refine wpAnyH_take (i := 1) (v := ?_) (by (simp only [List.getElem?_toArray, List.getElem?_cons_succ, List.getElem?_cons_zero]; rfl)) (by kernel_rfl) (by kernel_rfl) (by kernel_rfl) (by intro _ _ _ h; exact h) (Or.inl ⟨by rfl, ?_⟩) (by assumption) ?_
        rotate_left
        · (intro w hSw; (try dsimp only at hSw); go_simp; try (with_reducible rfl))
        simp only [Act.put, List.setIfInBounds_toArray, List.set_cons_zero, List.set_cons_succ]
        refine wpAnyH_take (i := 2) (v := ?_) (by (simp only [List.getElem?_toArray, List.getElem?_cons_succ, List.getElem?_cons_zero]; rfl)) (by kernel_rfl) (by kernel_rfl) (by kernel_rfl) (by intro _ _ _ h; exact h) (Or.inl ⟨by rfl, ?_⟩) (by assumption) ?_
        rotate_left
        · (intro w hSw; (try dsimp only at hSw); go_simp; try (with_reducible rfl))
        simp only [Act.put, List.setIfInBounds_toArray, List.set_cons_zero, List.set_cons_succ]
        refine wpAnyH_take (i := 3) (v := ?_) (by (simp only [List.getElem?_toArray, List.getElem?_cons_succ, List.getElem?_cons_zero]; rfl)) (by kernel_rfl) (by kernel_rfl) (by kernel_rfl) (by intro _ _ _ h; exact h) (Or.inl ⟨by rfl, ?_⟩) (by assumption) ?_
        rotate_left
        · (intro w hSw; have q1 := C0.out w hSw; go_simp; try (with_reducible rfl))
        simp only [Act.put, List.setIfInBounds_toArray, List.set_cons_zero, List.set_cons_succ]
        refine wpAnyH_take (i := 4) (v := ?_) (by (simp only [List.getElem?_toArray, List.getElem?_cons_succ, List.getElem?_cons_zero]; rfl)) (by kernel_rfl) (by kernel_rfl) (by kernel_rfl) (by intro _ _ _ h; exact h) (Or.inl ⟨by rfl, ?_⟩) (by assumption) ?_
        rotate_left
        · (intro w hSw; (try dsimp only at hSw); go_simp; try (with_reducible rfl))
        simp only [Act.put, List.setIfInBounds_toArray, List.set_cons_zero, List.set_cons_succ]
        refine wpAnyH_take (i := 5) (v := ?_) (by (simp only [List.getElem?_toArray, List.getElem?_cons_succ, List.getElem?_cons_zero]; rfl)) (by kernel_rfl) (by kernel_rfl) (by kernel_rfl) (by intro _ _ _ h; exact h) (Or.inl ⟨by rfl, ?_⟩) (by assumption) ?_
        rotate_left
        · (intro w hSw; (try dsimp only at hSw); go_simp; try (with_reducible rfl))
        simp only [Act.put, List.setIfInBounds_toArray, List.set_cons_zero, List.set_cons_succ]
        refine wpAnyH_take (i := 6) (v := ?_) (by (simp only [List.getElem?_toArray, List.getElem?_cons_succ, List.getElem?_cons_zero]; rfl)) (by kernel_rfl) (by kernel_rfl) (by kernel_rfl) (by intro _ _ _ h; exact h) (Or.inl ⟨by rfl, ?_⟩) (by assumption) ?_
        rotate_left
        · (intro w hSw; (try dsimp only at hSw); go_simp; try (with_reducible rfl))
        simp only [Act.put, List.setIfInBounds_toArray, List.set_cons_zero, List.set_cons_succ]
        refine wpAnyH_take (i := 7) (v := ?_) (by (simp only [List.getElem?_toArray, List.getElem?_cons_succ, List.getElem?_cons_zero]; rfl)) (by kernel_rfl) (by kernel_rfl) (by kernel_rfl) (by intro _ _ _ h; exact h) (Or.inl ⟨by rfl, ?_⟩) (by assumption) ?_
        rotate_left
        · (intro w hSw; have q1 := C1.out w hSw; go_simp; try (with_reducible rfl))
        simp only [Act.put, List.setIfInBounds_toArray, List.set_cons_zero, List.set_cons_succ]
        refine wpAnyH_take (i := 8) (v := ?_) (by (simp only [List.getElem?_toArray, List.getElem?_cons_succ, List.getElem?_cons_zero]; rfl)) (by kernel_rfl) (by kernel_rfl) (by kernel_rfl) (by intro _ _ _ h; exact h) (Or.inl ⟨by rfl, ?_⟩) (by assumption) ?_
        rotate_left
        · (intro w hSw; (try dsimp only at hSw); go_simp; try (with_reducible rfl))
        simp only [Act.put, List.setIfInBounds_toArray, List.set_cons_zero, List.set_cons_succ]
        refine wpAnyH_ready (rs := [9]) (by kernel_rfl) (by simp) ?_
        refine AllReadyH.cons (by (simp only [List.getElem?_toArray, List.getElem?_cons_succ, List.getElem?_cons_zero]; rfl)) (fun K hK => ?_) AllReadyH.nil
        go_simp
        go_at_call 62; refine (HRF.out _).mono ?_; rintro e w6 ⟨rfl, hb6⟩
        refine hK.out _ _ (by (try dsimp only); exact hHeld.trans (hb6.mono hHeld.size)) (fun hHeld => ?_)
        clear hK K
        try simp only [Act.put, List.setIfInBounds_toArray, List.set_cons_zero, List.set_cons_succ]
        clear hb6
        refine wpAnyH_take (i := 10) (v := ?_) (by (simp only [List.getElem?_toArray, List.getElem?_cons_succ, List.getElem?_cons_zero]; rfl)) (by kernel_rfl) (by kernel_rfl) (by kernel_rfl) (by intro _ _ _ h; exact h) (Or.inl ⟨by rfl, ?_⟩) (by assumption) ?_
        rotate_left
        · (intro w hSw; (try dsimp only at hSw); go_simp; try (with_reducible rfl))
        simp only [Act.put, List.setIfInBounds_toArray, List.set_cons_zero, List.set_cons_succ]
        refine wpAnyH_take (i := 11) (v := ?_) (by (simp only [List.getElem?_toArray, List.getElem?_cons_succ, List.getElem?_cons_zero]; rfl)) (by kernel_rfl) (by kernel_rfl) (by kernel_rfl) (by intro _ _ _ h; exact h) (Or.inl ⟨by rfl, ?_⟩) (by assumption) ?_
        rotate_left
        · (intro w hSw; (try dsimp only at hSw); go_simp; try (with_reducible rfl))
        simp only [Act.put, List.setIfInBounds_toArray, List.set_cons_zero, List.set_cons_succ]
        refine wpAnyH_take (i := 12) (v := ?_) (by (simp only [List.getElem?_toArray, List.getElem?_cons_succ, List.getElem?_cons_zero]; rfl)) (by kernel_rfl) (by kernel_rfl) (by kernel_rfl) (by intro _ _ _ h; exact h) (Or.inl ⟨by rfl, ?_⟩) (by assumption) ?_
        rotate_left
        · (intro w hSw; (try dsimp only at hSw); go_simp; try (with_reducible rfl))
        simp only [Act.put, List.setIfInBounds_toArray, List.set_cons_zero, List.set_cons_succ]
        refine wpAnyH_take (i := 13) (v := ?_) (by (simp only [List.getElem?_toArray, List.getElem?_cons_succ, List.getElem?_cons_zero]; rfl)) (by kernel_rfl) (by kernel_rfl) (by kernel_rfl) (by intro _ _ _ h; exact h) (Or.inl ⟨by rfl, ?_⟩) (by assumption) ?_
        rotate_left
        · (intro w hSw; (try dsimp only at hSw); go_simp; try (with_reducible rfl))
        simp only [Act.put, List.setIfInBounds_toArray, List.set_cons_zero, List.set_cons_succ]
        refine wpAnyH_take (i := 14) (v := ?_) (by (simp only [List.getElem?_toArray, List.getElem?_cons_succ, List.getElem?_cons_zero]; rfl)) (by kernel_rfl) (by kernel_rfl) (by kernel_rfl) (by intro _ _ _ h; exact h) (Or.inl ⟨by rfl, ?_⟩) (by assumption) ?_
        rotate_left
        · (intro w hSw; (try dsimp only at hSw); go_simp; try (with_reducible rfl))
        simp only [Act.put, List.setIfInBounds_toArray, List.set_cons_zero, List.set_cons_succ]
        refine wpAnyH_take (i := 15) (v := ?_) (by (simp only [List.getElem?_toArray, List.getElem?_cons_succ, List.getElem?_cons_zero]; rfl)) (by kernel_rfl) (by kernel_rfl) (by kernel_rfl) (by intro _ _ _ h; exact h) (Or.inl ⟨by rfl, ?_⟩) (by assumption) ?_
        rotate_left
        · (intro w hSw; (try dsimp only at hSw); go_simp; try (with_reducible rfl))
        simp only [Act.put, List.setIfInBounds_toArray, List.set_cons_zero, List.set_cons_succ]
        refine wpAnyH_take (i := 16) (v := ?_) (by (simp only [List.getElem?_toArray, List.getElem?_cons_succ, List.getElem?_cons_zero]; rfl)) (by kernel_rfl) (by kernel_rfl) (by kernel_rfl) (by intro _ _ _ h; exact h) (Or.inl ⟨by rfl, ?_⟩) (by assumption) ?_
        rotate_left
        · (intro w hSw; (try dsimp only at hSw); go_simp; try (with_reducible rfl))
        simp only [Act.put, List.setIfInBounds_toArray, List.set_cons_zero, List.set_cons_succ]
        refine wpAnyH_done (by kernel_rfl) ?_ _
        have hr6 := HM3.out.1.below hHeld
        have HM6 := Lib.hid (HM3.out.trans (RM.below HM3.out.1 hHeld))
        clear hHeld hx hle2 hleI
        obtain ⟨c0, c1, c2, c3⟩ := hr6.cells
        rw [← HK.out] at c1
        have f1 := hr6.frozen 1
        have HR6 := Lib.hid hr6
        clear hr6 hlt hltI
        rcases refS_bad HXY.out with hy | hy | hy
        · subst hy
          obtain ⟨hn, hn1, hx4⟩ := refS_small HXY.out
          have HNX := Lib.hid (show letM stop true g (acc ++ x.data.toList) ((c :: r').drop n) = letM stop true (r.length + 1) [] r by rw [HMM.out, if_pos rfl])
          have HLEN := Lib.hid (show ((c :: r').drop n).length < g ∧ (acc ++ x.data.toList).length + 4 * ((c :: r').drop n).length ≤ 4 * r.length by
            have h1 := HG.out
            have h2 := HACC.out
            have h3 : x.data.toList.length = x.size := by simp
            simp only [List.length_drop, List.length_append, List.length_cons] at h1 h2 ⊢
            omega)
          have hsuf : (c :: r').drop n <:+ l := (List.drop_suffix n _).trans HR6.out.1
          have HP := Lib.hid (RM.put HR6.out hsuf ((k : Int) + (n : Int)) (by
            have h1 := HK.out
            have h2 := HLL'.out
            rw [h1, List.length_drop]; omega))
          have HO := Lib.hid (show l.length - offR X (w6.setCell ⟨X, 1, none⟩ (.int .i64 ((k : Int) + (n : Int)))) < l.length - offR X wr by
            rw [HP.out.1.off, HOFF.out]
            have h2 := HLL'.out
            simp only [List.length_drop, List.length_cons] at h2 hn ⊢
            omega)
          have hnI : (n : Int) ≤ 1000000 := by have := HLL'.out; omega
          have hxI : (x.size : Int) ≤ 4 := by omega
          have hxx : x = str x.data.toList := by unfold str; rw [Array.toArray_toList]
          have HSN := Lib.hid (show Value.string (str acc ++ x) = .string (str (acc ++ x.data.toList)) by rw [← app_str, ← hxx])
          have hav : ((str acc).size : Int) ≤ 10000000 := by rw [size_str]; have := HACL.out; omega
          clear hn hn1 hx4 hsuf hxx
          go_wp2
          go_roundw
          case rel => exact ⟨acc ++ x.data.toList, (c :: r').drop n, g, HSN.out, HLEN.out.1, HNX.out, HLEN.out.2, HM6.out.trans HP.out⟩
          case measure => exact HO.out
        · subst hy
          have HFIN := Lib.hid (show letM stop true (r.length + 1) [] r = .bad 13 (c :: r') by rw [HMM.out, if_neg (by decide)]; rfl)
          have HF := Lib.hid (rfail_yes X l (c :: r') 0 13 (k : Int) w6 HR6.out)
          go_wp2_with fail
          refine HF.out.mono ?_
          rintro e w7 ⟨rfl, hm7⟩
          have HM7 := Lib.hid (HM6.out.trans hm7)
          clear hm7
          go_wp2
          go_ret
          rw [HFIN.out]
          exact ⟨rfl, c :: r', by rw [← HK.out]; exact HM7.out⟩
        · subst hy
          have HFIN := Lib.hid (show letM stop true (r.length + 1) [] r = .bad 12 (c :: r') by rw [HMM.out, if_neg (by decide)]; rfl)
          have HF := Lib.hid (rfail_yes X l (c :: r') 0 12 (k : Int) w6 HR6.out)
          go_wp2_with fail
          refine HF.out.mono ?_
          rintro e w7 ⟨rfl, hm7⟩
          have HM7 := Lib.hid (HM6.out.trans hm7)
          clear hm7
          go_wp2
          go_ret
          rw [HFIN.out]
          exact ⟨rfl, c :: r', by rw [← HK.out]; exact HM7.out⟩
      · have h38b : ((c.toNat : Int) == 38) = false := u8_ne2 (d := 38) h38
        have HMM := Lib.hid (show letM stop true (r.length + 1) [] r = if c = 60 || !(tx c) then .bad 10 (c :: r') else letM stop true g (acc ++ [c]) r' by rw [← HMOD.out]; rw [letM, if_neg HNS.out, if_neg h38])
        clear h38
        by_cases h60 : c = 60
        · have h60b : ((c.toNat : Int) == 60) = true := by rw [h60]; rfl
          have HFIN := Lib.hid (show letM stop true (r.length + 1) [] r = .bad 10 (c :: r') by rw [HMM.out, if_pos (by simp [h60])])
          have HF := Lib.hid (rfail_yes X l (c :: r') 0 10 (k : Int) w3 HM3.out.1)
          clear h60
          go_wp2_with fail
          refine HF.out.mono ?_
          rintro e w7 ⟨rfl, hm7⟩
          have HM7 := Lib.hid (HM3.out.trans hm7)
          clear hm7
          go_wp2
          go_ret
          rw [HFIN.out]
          exact ⟨rfl, c :: r', by rw [← HK.out]; exact HM7.out⟩
        · have h60b : ((c.toNat : Int) == 60) = false := u8_ne2 (d := 60) h60
          have HMM2 := Lib.hid (show letM stop true (r.length + 1) [] r = if tx c then letM stop true g (acc ++ [c]) r' else .bad 10 (c :: r') by
            rw [HMM.out]
            cases htc : tx c <;> simp [h60])
          clear h60 HMM
          generalize htx : tx c = b at HMM2
          have HIS := Lib.hid (fun w => is_at (c.toNat : Int) 16 b (by decide) (by decide) (by rw [(cls_all _).2.2.2.2]; exact htx) w)
          clear htx
          go_wp2_with fail
          refine (HIS.out _).mono ?_
          rintro e w4 ⟨rfl, hw4⟩
          obtain rfl : w3 = w4 := hw4.symm
          cases b with
          | false =>
            have HFIN := Lib.hid (show letM stop true (r.length + 1) [] r = .bad 10 (c :: r') by rw [HMM2.out, if_neg (by decide)])
            have HF := Lib.hid (rfail_yes X l (c :: r') 0 10 (k : Int) w3 HM3.out.1)
            clear hw4
            go_wp2_with fail
            refine HF.out.mono ?_
            rintro e w7 ⟨rfl, hm7⟩
            have HM7 := Lib.hid (HM3.out.trans hm7)
            clear hm7
            go_wp2
            go_ret
            rw [HFIN.out]
            exact ⟨rfl, c :: r', by rw [← HK.out]; exact HM7.out⟩
          | true =>
            have HNX := Lib.hid (show letM stop true g (acc ++ [c]) r' = letM stop true (r.length + 1) [] r by rw [HMM2.out, if_pos rfl])
            have hsl : ∀ w, (Instr.slice 9 (.string (str l)) (some (.int .i64 (k : Int))) (some (.int .i64 ((k : Int) + 1))) none).run Try.prog w = .ok (.string (str [c])) w := fun w => by
              rw [run_slice_string w 9 _ _ _ _ _ Try.underlying9 (by omega) (by omega) (by omega), ← HX1.out]
              congr 3
            have hcs : ((str [c]).size : Int) ≤ 1 := by rw [size_str]; simp
            have hav : ((str acc).size : Int) ≤ 10000000 := by rw [size_str]; have := HACL.out; omega
            have HSN := Lib.hid (show Value.string (str acc ++ str [c]) = .string (str (acc ++ [c])) by rw [app_str])
            clear hw4
            go_upto_region 17 with fail
            go_quiet (fail)
            have hm5 := RM.drew HM3.out.1 nq
            have HM5 := Lib.hid (HM3.out.trans hm5)
            generalize w3.drewN nq = w5 at hm5 HM5 ⊢
            clear c0 c1 c2 c3 hsl hcs hav
            obtain ⟨c0, c1, c2, c3⟩ := hm5.1.cells
            rw [← HK.out] at c1
            have f1 := hm5.1.frozen 1
            clear hm5
            have hsuf : r' <:+ l := (List.suffix_cons c r').trans HM5.out.1.1
            have HP := Lib.hid (RM.put HM5.out.1 hsuf ((k : Int) + 1) (by
              have h1 := HK.out
              have h2 := HLL'.out
              rw [h1]; simp at h2 ⊢; omega))
            have HO := Lib.hid (show l.length - offR X (w5.setCell ⟨X, 1, none⟩ (.int .i64 ((k : Int) + 1))) < l.length - offR X wr by
              rw [HP.out.1.off, HOFF.out]
              have h2 := HLL'.out
              simp at h2 ⊢
              omega)
            have HLEN := Lib.hid (show r'.length < g ∧ (acc ++ [c]).length + 4 * r'.length ≤ 4 * r.length by
              have h1 := HG.out
              have h2 := HACC.out
              simp only [List.length_append, List.length_cons, List.length_nil] at h1 h2 ⊢
              omega)
            clear hsuf
            go_wp2
            go_roundw
            case rel => exact ⟨acc ++ [c], r', g, HSN.out, HLEN.out.1, HNX.out, HLEN.out.2, HM5.out.trans HP.out⟩
            case measure => exact HO.out
end Go.Proofs.Ytldgjiohigiioaa
