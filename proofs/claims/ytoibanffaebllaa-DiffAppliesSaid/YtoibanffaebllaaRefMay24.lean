/-
  Layer 24: which locks may be: the contracts of the answer's MayPin and May. Own work.
-/
import Derived.Test.YtoibanffaebllaaMayL24
import Derived.Test.YtoibanffaebllaaRefCmp6
namespace Go.Proofs.Ytoibanffaebllaa
set_option linter.unusedVariables false
set_option linter.unusedSimpArgs false
open Go.RowKit

theorem keep6p {w1 w2 W2 : World} {A0 A1 A2 A3 A4 A5 : Addr} {x0 x1 x2 x3 x4 x5 : Value} (h : w1.cell? A0 = some x0 ∧ w1.cell? A1 = some x1 ∧ w1.cell? A2 = some x2 ∧ w1.cell? A3 = some x3 ∧ w1.cell? A4 = some x4 ∧ w1.cell? A5 = some x5 ∧ Below W2.heap.size W2 w1) (hb : Below w1.heap.size w1 w2) :
    w2.cell? A0 = some x0 ∧ w2.cell? A1 = some x1 ∧ w2.cell? A2 = some x2 ∧ w2.cell? A3 = some x3 ∧ w2.cell? A4 = some x4 ∧ w2.cell? A5 = some x5 ∧ Below W2.heap.size W2 w2 := by
  obtain ⟨h0, h1, h2, h3, h4, h5, h6⟩ := h
  have hc : ∀ {A : Addr} {x : Value}, w1.cell? A = some x → w2.cell? A = some x := fun hx => (hb.cell (World.block_lt_of_cell? w1 _ hx)).trans hx
  exact ⟨hc h0, hc h1, hc h2, hc h3, hc h4, hc h5, h6.trans (hb.mono h6.size)⟩
theorem keep6d {w1 W2 : World} {A0 A1 A2 A3 A4 A5 : Addr} {x0 x1 x2 x3 x4 x5 : Value} (h : w1.cell? A0 = some x0 ∧ w1.cell? A1 = some x1 ∧ w1.cell? A2 = some x2 ∧ w1.cell? A3 = some x3 ∧ w1.cell? A4 = some x4 ∧ w1.cell? A5 = some x5 ∧ Below W2.heap.size W2 w1) :
    w1.drew.cell? A0 = some x0 ∧ w1.drew.cell? A1 = some x1 ∧ w1.drew.cell? A2 = some x2 ∧ w1.drew.cell? A3 = some x3 ∧ w1.drew.cell? A4 = some x4 ∧ w1.drew.cell? A5 = some x5 ∧ Below W2.heap.size W2 w1.drew := by
  obtain ⟨h0, h1, h2, h3, h4, h5, h6⟩ := h
  exact ⟨h0, h1, h2, h3, h4, h5, h6.drew⟩
theorem keep6b {w1 W2 : World} {A0 A1 A2 A3 A4 A5 : Addr} {x0 x1 x2 x3 x4 x5 : Value} (h : w1.cell? A0 = some x0 ∧ w1.cell? A1 = some x1 ∧ w1.cell? A2 = some x2 ∧ w1.cell? A3 = some x3 ∧ w1.cell? A4 = some x4 ∧ w1.cell? A5 = some x5 ∧ Below W2.heap.size W2 w1) : Below W2.heap.size W2 w1 := by
  obtain ⟨h0, h1, h2, h3, h4, h5, h6⟩ := h
  exact h6
theorem keep11p {w1 w2 W2 : World} {A0 A1 A2 A3 A4 A5 A6 A7 A8 A9 A10 : Addr} {x0 x1 x2 x3 x4 x5 x6 x7 x8 x9 x10 : Value} (h : w1.cell? A0 = some x0 ∧ w1.cell? A1 = some x1 ∧ w1.cell? A2 = some x2 ∧ w1.cell? A3 = some x3 ∧ w1.cell? A4 = some x4 ∧ w1.cell? A5 = some x5 ∧ w1.cell? A6 = some x6 ∧ w1.cell? A7 = some x7 ∧ w1.cell? A8 = some x8 ∧ w1.cell? A9 = some x9 ∧ w1.cell? A10 = some x10 ∧ Below W2.heap.size W2 w1) (hb : Below w1.heap.size w1 w2) :
    w2.cell? A0 = some x0 ∧ w2.cell? A1 = some x1 ∧ w2.cell? A2 = some x2 ∧ w2.cell? A3 = some x3 ∧ w2.cell? A4 = some x4 ∧ w2.cell? A5 = some x5 ∧ w2.cell? A6 = some x6 ∧ w2.cell? A7 = some x7 ∧ w2.cell? A8 = some x8 ∧ w2.cell? A9 = some x9 ∧ w2.cell? A10 = some x10 ∧ Below W2.heap.size W2 w2 := by
  obtain ⟨h0, h1, h2, h3, h4, h5, h6, h7, h8, h9, h10, h11⟩ := h
  have hc : ∀ {A : Addr} {x : Value}, w1.cell? A = some x → w2.cell? A = some x := fun hx => (hb.cell (World.block_lt_of_cell? w1 _ hx)).trans hx
  exact ⟨hc h0, hc h1, hc h2, hc h3, hc h4, hc h5, hc h6, hc h7, hc h8, hc h9, hc h10, h11.trans (hb.mono h11.size)⟩
theorem keep11d {w1 W2 : World} {A0 A1 A2 A3 A4 A5 A6 A7 A8 A9 A10 : Addr} {x0 x1 x2 x3 x4 x5 x6 x7 x8 x9 x10 : Value} (h : w1.cell? A0 = some x0 ∧ w1.cell? A1 = some x1 ∧ w1.cell? A2 = some x2 ∧ w1.cell? A3 = some x3 ∧ w1.cell? A4 = some x4 ∧ w1.cell? A5 = some x5 ∧ w1.cell? A6 = some x6 ∧ w1.cell? A7 = some x7 ∧ w1.cell? A8 = some x8 ∧ w1.cell? A9 = some x9 ∧ w1.cell? A10 = some x10 ∧ Below W2.heap.size W2 w1) :
    w1.drew.cell? A0 = some x0 ∧ w1.drew.cell? A1 = some x1 ∧ w1.drew.cell? A2 = some x2 ∧ w1.drew.cell? A3 = some x3 ∧ w1.drew.cell? A4 = some x4 ∧ w1.drew.cell? A5 = some x5 ∧ w1.drew.cell? A6 = some x6 ∧ w1.drew.cell? A7 = some x7 ∧ w1.drew.cell? A8 = some x8 ∧ w1.drew.cell? A9 = some x9 ∧ w1.drew.cell? A10 = some x10 ∧ Below W2.heap.size W2 w1.drew := by
  obtain ⟨h0, h1, h2, h3, h4, h5, h6, h7, h8, h9, h10, h11⟩ := h
  exact ⟨h0, h1, h2, h3, h4, h5, h6, h7, h8, h9, h10, h11.drew⟩
theorem keep11b {w1 W2 : World} {A0 A1 A2 A3 A4 A5 A6 A7 A8 A9 A10 : Addr} {x0 x1 x2 x3 x4 x5 x6 x7 x8 x9 x10 : Value} (h : w1.cell? A0 = some x0 ∧ w1.cell? A1 = some x1 ∧ w1.cell? A2 = some x2 ∧ w1.cell? A3 = some x3 ∧ w1.cell? A4 = some x4 ∧ w1.cell? A5 = some x5 ∧ w1.cell? A6 = some x6 ∧ w1.cell? A7 = some x7 ∧ w1.cell? A8 = some x8 ∧ w1.cell? A9 = some x9 ∧ w1.cell? A10 = some x10 ∧ Below W2.heap.size W2 w1) : Below W2.heap.size W2 w1 := by
  obtain ⟨h0, h1, h2, h3, h4, h5, h6, h7, h8, h9, h10, h11⟩ := h
  exact h11
set_option maxRecDepth 100000 in
set_option maxHeartbeats 1000000 in
theorem refMayPin_any (p : Pn) (hok : okP p) (w : World) :
    Calls Try.prog 37 #[pnV p] w fun e w' => e = .returned (.bool (mayP p)) ∧ Below w.heap.size w w' := by
  have hmk := fun w => refMayKey_any p.g p.a p.t p.c hok.1 hok.2.1 hok.2.2.1 hok.2.2.2.1 w
  have hmv := fun w => refMayVer_any p.v hok.2.2.2.2 w
  have hmp : mayP p = (mayKey p.g p.a p.t p.c && mayVer p.v && decide (1 ≤ p.sc) && decide (p.sc ≤ 5)) := rfl
  unfold keyV at hmk
  generalize mayKey p.g p.a p.t p.c = bk at hmk hmp
  generalize mayVer p.v = bv at hmv hmp
  have HMK := Lib.hid hmk
  have HMV := Lib.hid hmv
  have HMP := Lib.hid hmp
  have HNEW := Lib.hid (PinIn.new w p)
  have HB1 := Lib.hid (show Below w.heap.size w (w.alloc (.cells #[.string p.g, .string p.a, .string p.t, .string p.c, .string p.v, .int .i64 p.sc] 48)) from (Below.refl w.heap.size w).alloc (Nat.le_refl _) _)
  clear hmk hmv hmp
  unfold pnV
  cases bk
  · go_enter Try.func37, Try.ntmps37
    go_wp2_with fail
    refine (HMK.out _).mono ?_
    rintro e w2 ⟨rfl, hb2⟩
    have HB2 := Lib.hid (HB1.out.trans (hb2.mono HB1.out.size))
    clear hb2
    go_wp2
    go_ret
    exact ⟨ret_bool (by rw [HMP.out]; simp), HB2.out⟩
  · go_enter Try.func37, Try.ntmps37
    go_wp2_with fail
    refine (HMK.out _).mono ?_
    rintro e w2 ⟨rfl, hb2⟩
    have HB2 := Lib.hid (HB1.out.trans (hb2.mono HB1.out.size))
    obtain ⟨y0, y1, y2, y3, y4, y5⟩ := HNEW.out.below hb2 (Nat.le_refl _)
    clear hb2
    go_wp2_with fail
    refine (HMV.out _).mono ?_
    rintro e w3 ⟨rfl, rfl⟩
    cases bv
    · go_wp2
      go_ret
      exact ⟨ret_bool (by rw [HMP.out]; simp), HB2.out⟩
    · go_wp2
      all_goals
        go_ret
        exact ⟨ret_bool (by rw [HMP.out, Bool.eq_iff_iff]; simp; try omega), HB2.out⟩
set_option maxRecDepth 100000 in
set_option maxHeartbeats 4000000 in
theorem refMay_any (g a v : ByteArray) (hg : okT g) (ha : okT a) (hv : okT v) (pv : Value) (l : List Pn) (hok : ∀ p ∈ l, okP p) (hl : l.length ≤ 1000000) (w : World) (hr : RdN w pv l) :
    Calls Try.prog 18 #[lockV g a v pv] w fun e w' => e = .returned (.bool (mayLock g a v l)) ∧ Below w.heap.size w w' := by
  obtain ⟨pa, pc, rfl⟩ := hr.shape
  have hlI : (l.length : Int) ≤ 1000000 := by omega
  have hmg := fun w => refMayGav_any g a v hg ha hv w
  have hml : mayLock g a v l = (mayGav g a v && decide (l.length ≤ 4096) && allMay l) := rfl
  unfold gavV at hmg
  generalize mayGav g a v = bg at hmg hml
  have HMG := Lib.hid hmg
  have HML := Lib.hid hml
  have HR := Lib.hid hr
  have HOK := Lib.hid hok
  have hb1 : Below w.heap.size w (w.alloc (.cells #[.string g, .string a, .string v, .slice pa l.length pc] 26)) := (Below.refl w.heap.size w).alloc (Nat.le_refl _) _
  have HNEW := Lib.hid (LkIn.new w g a v (.slice pa l.length pc))
  have HB1 := Lib.hid hb1
  clear hmg hml hr hok hb1
  unfold lockV
  cases bg
  · go_enter Try.func18, Try.ntmps18
    go_wp2_with fail
    refine (HMG.out _).mono ?_
    rintro e w2 ⟨rfl, hb2⟩
    have HB2 := Lib.hid (HB1.out.trans (hb2.mono HB1.out.size))
    clear hb2
    go_wp2
    go_ret
    exact ⟨ret_bool (by rw [HML.out]; simp), HB2.out⟩
  by_cases h4 : l.length ≤ 4096
  case neg =>
    have h4I : (4096 : Int) < l.length := by omega
    go_enter Try.func18, Try.ntmps18
    go_wp2_with fail
    refine (HMG.out _).mono ?_
    rintro e w2 ⟨rfl, hb2⟩
    have HB2 := Lib.hid (HB1.out.trans (hb2.mono HB1.out.size))
    obtain ⟨y0, y1, y2, y3⟩ := HNEW.out.below hb2 (Nat.le_refl _)
    clear hb2
    go_wp2
    go_ret
    exact ⟨ret_bool (by rw [HML.out]; simp; omega), HB2.out⟩
  have h4I : (l.length : Int) ≤ 4096 := by omega
  have HM2 := Lib.hid (show mayLock g a v l = allMay l by rw [HML.out, decide_eq_true h4]; simp)
  go_enter Try.func18, Try.ntmps18
  go_wp2_with fail
  refine (HMG.out _).mono ?_
  rintro e w2 ⟨rfl, hb2⟩
  have HB2 := Lib.hid (HB1.out.trans (hb2.mono HB1.out.size))
  have hlk2 := HNEW.out.below hb2 (Nat.le_refl _)
  have HLK2 := Lib.hid hlk2
  obtain ⟨y0, y1, y2, y3⟩ := hlk2
  clear hb2 HNEW
  go_wp2_with fail
  clear y0 y1 y2 y3
  go_loopw [18] (fun i wr => ∃ k : Nat, k ≤ l.length ∧ i = .int .i64 k ∧ (∀ j, j < k → mayAt l j = true) ∧ Below w2.heap.size w2 wr) (fun i _ => l.length - (intOf i).toNat)
  case atStart => exact ⟨0, by omega, rfl, fun j hj => by omega, Below.refl _ _⟩
  case round =>
    obtain ⟨k, hk, rfl, hall, hb⟩ := hrel
    have HALL := Lib.hid hall
    have HB := Lib.hid hb
    have hbw := HB2.out.trans (hb.mono HB2.out.size)
    clear hall
    generalize hI : (k : Int) = I
    have HI := Lib.hid hI
    have hI0 : (0 : Int) ≤ I := by omega
    have hIt : I.toNat = k := by omega
    by_cases hlt : k < l.length
    · obtain ⟨p, hp⟩ : ∃ p, l[k]? = some p := ⟨_, List.getElem?_eq_getElem hlt⟩
      obtain ⟨b, rfl, _, _, _, hc⟩ := HR.out.elem hp
      have hltI : I < l.length := by omega
      have hat := RdN.at hc hp hbw (Nat.le_refl _)
      rw [← hIt] at hat
      obtain ⟨k0, k1, k2, k3, k4, k5⟩ := hat
      have hgd : (k = 0 ∧ decide (0 < I) = false) ∨ (0 < k ∧ decide (0 < I) = true) := by
        rcases Nat.eq_zero_or_pos k with h | h
        · exact .inl ⟨h, by simp; omega⟩
        · exact .inr ⟨h, by simp; omega⟩
      have hmp := fun w => refMayPin_any p (HOK.out p (List.mem_of_getElem? hp)) w
      unfold pnV at hmp
      have hcur : ∃ W : Bool, (mayAt l k = (W && mayP p)) ∧ ((k = 0 ∧ W = true) ∨ ∃ j q, k = j + 1 ∧ l[j]? = some q ∧ W = decide (kcmp q.key p.key < 0)) := by
        match k, hp with
        | 0, hp => exact ⟨true, by rw [mayAt_zero hp]; simp, .inl ⟨rfl, rfl⟩⟩
        | j + 1, hp =>
          obtain ⟨q, hq⟩ : ∃ q, l[j]? = some q := ⟨_, List.getElem?_eq_getElem (by omega)⟩
          exact ⟨_, mayAt_succ hp hq, .inr ⟨j, q, rfl, hq, rfl⟩⟩
      obtain ⟨W, hW, hcase⟩ := hcur
      generalize hbm : mayP p = bm at hmp hW
      have HMP := Lib.hid hmp
      have HW := Lib.hid hW
      have HLKR := Lib.hid (HLK2.out.below hb (Nat.le_refl _))
      have HBW := Lib.hid hbw
      have HCELLS := Lib.hid hc
      have HPIN := Lib.hid (PinIn.new wr p)
      have HBA := Lib.hid (show Below wr.heap.size wr (wr.alloc (.cells #[.string p.g, .string p.a, .string p.t, .string p.c, .string p.v, .int .i64 p.sc] 48)) from (Below.refl _ _).alloc (Nat.le_refl _) _)
      clear hmp hW hbm hb hbw hc hp hI hIt
      go_upto_region 6 with fail
      generalize wr.alloc (.cells #[.string p.g, .string p.a, .string p.t, .string p.c, .string p.v, .int .i64 p.sc] 48) = wa at HPIN HBA ⊢
      generalize wr.heap.size = b5 at HPIN ⊢
      obtain ⟨y0, y1, y2, y3, y4, y5⟩ := HPIN.out
      have hba := Below.refl wa.heap.size wa
      clear k0 k1 k2 k3 k4 k5
      go_cut [42] from 19 to 43 (fun t wx => t = .bool (!(mayAt l k)) ∧ Below wa.heap.size wa wx)
      case first =>
        cases bm
        · have HMAT := Lib.hid (HW.out.trans (Bool.and_false _))
          clear hcase
          refine wp_region_held_drew (S := (fun w' => w'.cell? ⟨b5, 0, none⟩ = some (.string p.g) ∧ w'.cell? ⟨b5, 1, none⟩ = some (.string p.a) ∧ w'.cell? ⟨b5, 2, none⟩ = some (.string p.t) ∧ w'.cell? ⟨b5, 3, none⟩ = some (.string p.c) ∧ w'.cell? ⟨b5, 4, none⟩ = some (.string p.v) ∧ w'.cell? ⟨b5, 5, none⟩ = some (.int .i64 p.sc) ∧ Below wa.heap.size wa w')) (by kernel_rfl) (by (try dsimp only); (first | with_reducible exact keep6d ⟨y0, y1, y2, y3, y4, y5, hba⟩ | with_reducible exact keep6p (by assumption) (by assumption))) (fun hHeld => ?_)
          refine wpAnyH_take (i := 0) (v := ?_) (by (simp only [List.getElem?_toArray, List.getElem?_cons_succ, List.getElem?_cons_zero]; rfl)) (by kernel_rfl) (by kernel_rfl) (by kernel_rfl) (by intro _ _ _ h; exact h) (Or.inl ⟨by rfl, ?_⟩) (by assumption) ?_
          rotate_left
          · (intro w hSw; (try dsimp only at hSw); go_simp; try (with_reducible rfl))
          simp only [Act.put, List.setIfInBounds_toArray, List.set_cons_zero, List.set_cons_succ]
          refine wpAnyH_ready (rs := [1]) (by kernel_rfl) (by simp) ?_
          refine AllReadyH.cons (by (simp only [List.getElem?_toArray, List.getElem?_cons_succ, List.getElem?_cons_zero]; rfl)) (fun K hK => ?_) AllReadyH.nil
          go_simp
          (go_at_call 37; (with_reducible refine (HMP.out _).mono ?_); rintro e wq ⟨rfl, hbq⟩; go_wp2_with fail)
          refine hK.out _ _ (by (try dsimp only); (first | with_reducible exact keep6d ⟨y0, y1, y2, y3, y4, y5, hba⟩ | with_reducible exact keep6p (by assumption) (by assumption))) (fun hHeld => ?_)
          clear hK K
          try simp only [Act.put, List.setIfInBounds_toArray, List.set_cons_zero, List.set_cons_succ]
          refine wpAnyH_take (i := 2) (v := ?_) (by (simp only [List.getElem?_toArray, List.getElem?_cons_succ, List.getElem?_cons_zero]; rfl)) (by kernel_rfl) (by kernel_rfl) (by kernel_rfl) (by intro _ _ _ h; exact h) (Or.inl ⟨by rfl, ?_⟩) (by assumption) ?_
          rotate_left
          · (intro w hSw; (try dsimp only at hSw); go_simp; try (with_reducible rfl))
          simp only [Act.put, List.setIfInBounds_toArray, List.set_cons_zero, List.set_cons_succ]
          refine wpAnyH_take (i := 3) (v := ?_) (by (simp only [List.getElem?_toArray, List.getElem?_cons_succ, List.getElem?_cons_zero]; rfl)) (by kernel_rfl) (by kernel_rfl) (by kernel_rfl) (by intro _ _ _ h; exact h) (Or.inl ⟨by rfl, ?_⟩) (by assumption) ?_
          rotate_left
          · (intro w hSw; (try dsimp only at hSw); go_simp; try (with_reducible rfl))
          simp only [Act.put, List.setIfInBounds_toArray, List.set_cons_zero, List.set_cons_succ]
          refine wpAnyH_take (i := 4) (v := undef) (by (simp only [List.getElem?_toArray, List.getElem?_cons_succ, List.getElem?_cons_zero]; rfl)) (by kernel_rfl) (by kernel_rfl) (by kernel_rfl) (by intro _ _ _ h; exact h) (Or.inr ⟨by rfl, rfl⟩) (by assumption) ?_
          simp only [Act.put, List.setIfInBounds_toArray, List.set_cons_zero, List.set_cons_succ]
          refine wpAnyH_take (i := 5) (v := undef) (by (simp only [List.getElem?_toArray, List.getElem?_cons_succ, List.getElem?_cons_zero]; rfl)) (by kernel_rfl) (by kernel_rfl) (by kernel_rfl) (by intro _ _ _ h; exact h) (Or.inr ⟨by rfl, rfl⟩) (by assumption) ?_
          simp only [Act.put, List.setIfInBounds_toArray, List.set_cons_zero, List.set_cons_succ]
          refine wpAnyH_take (i := 6) (v := undef) (by (simp only [List.getElem?_toArray, List.getElem?_cons_succ, List.getElem?_cons_zero]; rfl)) (by kernel_rfl) (by kernel_rfl) (by kernel_rfl) (by intro _ _ _ h; exact h) (Or.inr ⟨by rfl, rfl⟩) (by assumption) ?_
          simp only [Act.put, List.setIfInBounds_toArray, List.set_cons_zero, List.set_cons_succ]
          refine wpAnyH_take (i := 7) (v := undef) (by (simp only [List.getElem?_toArray, List.getElem?_cons_succ, List.getElem?_cons_zero]; rfl)) (by kernel_rfl) (by kernel_rfl) (by kernel_rfl) (by intro _ _ _ h; exact h) (Or.inr ⟨by rfl, rfl⟩) (by assumption) ?_
          simp only [Act.put, List.setIfInBounds_toArray, List.set_cons_zero, List.set_cons_succ]
          refine wpAnyH_take (i := 8) (v := undef) (by (simp only [List.getElem?_toArray, List.getElem?_cons_succ, List.getElem?_cons_zero]; rfl)) (by kernel_rfl) (by kernel_rfl) (by kernel_rfl) (by intro _ _ _ h; exact h) (Or.inr ⟨by rfl, rfl⟩) (by assumption) ?_
          simp only [Act.put, List.setIfInBounds_toArray, List.set_cons_zero, List.set_cons_succ]
          refine wpAnyH_take (i := 9) (v := undef) (by (simp only [List.getElem?_toArray, List.getElem?_cons_succ, List.getElem?_cons_zero]; rfl)) (by kernel_rfl) (by kernel_rfl) (by kernel_rfl) (by intro _ _ _ h; exact h) (Or.inr ⟨by rfl, rfl⟩) (by assumption) ?_
          simp only [Act.put, List.setIfInBounds_toArray, List.set_cons_zero, List.set_cons_succ]
          refine wpAnyH_take (i := 10) (v := undef) (by (simp only [List.getElem?_toArray, List.getElem?_cons_succ, List.getElem?_cons_zero]; rfl)) (by kernel_rfl) (by kernel_rfl) (by kernel_rfl) (by intro _ _ _ h; exact h) (Or.inr ⟨by rfl, rfl⟩) (by assumption) ?_
          simp only [Act.put, List.setIfInBounds_toArray, List.set_cons_zero, List.set_cons_succ]
          refine wpAnyH_take (i := 11) (v := undef) (by (simp only [List.getElem?_toArray, List.getElem?_cons_succ, List.getElem?_cons_zero]; rfl)) (by kernel_rfl) (by kernel_rfl) (by kernel_rfl) (by intro _ _ _ h; exact h) (Or.inr ⟨by rfl, rfl⟩) (by assumption) ?_
          simp only [Act.put, List.setIfInBounds_toArray, List.set_cons_zero, List.set_cons_succ]
          refine wpAnyH_take (i := 12) (v := undef) (by (simp only [List.getElem?_toArray, List.getElem?_cons_succ, List.getElem?_cons_zero]; rfl)) (by kernel_rfl) (by kernel_rfl) (by kernel_rfl) (by intro _ _ _ h; exact h) (Or.inr ⟨by rfl, rfl⟩) (by assumption) ?_
          simp only [Act.put, List.setIfInBounds_toArray, List.set_cons_zero, List.set_cons_succ]
          refine wpAnyH_take (i := 13) (v := undef) (by (simp only [List.getElem?_toArray, List.getElem?_cons_succ, List.getElem?_cons_zero]; rfl)) (by kernel_rfl) (by kernel_rfl) (by kernel_rfl) (by intro _ _ _ h; exact h) (Or.inr ⟨by rfl, rfl⟩) (by assumption) ?_
          simp only [Act.put, List.setIfInBounds_toArray, List.set_cons_zero, List.set_cons_succ]
          refine wpAnyH_take (i := 14) (v := undef) (by (simp only [List.getElem?_toArray, List.getElem?_cons_succ, List.getElem?_cons_zero]; rfl)) (by kernel_rfl) (by kernel_rfl) (by kernel_rfl) (by intro _ _ _ h; exact h) (Or.inr ⟨by rfl, rfl⟩) (by assumption) ?_
          simp only [Act.put, List.setIfInBounds_toArray, List.set_cons_zero, List.set_cons_succ]
          refine wpAnyH_take (i := 15) (v := undef) (by (simp only [List.getElem?_toArray, List.getElem?_cons_succ, List.getElem?_cons_zero]; rfl)) (by kernel_rfl) (by kernel_rfl) (by kernel_rfl) (by intro _ _ _ h; exact h) (Or.inr ⟨by rfl, rfl⟩) (by assumption) ?_
          simp only [Act.put, List.setIfInBounds_toArray, List.set_cons_zero, List.set_cons_succ]
          refine wpAnyH_take (i := 16) (v := undef) (by (simp only [List.getElem?_toArray, List.getElem?_cons_succ, List.getElem?_cons_zero]; rfl)) (by kernel_rfl) (by kernel_rfl) (by kernel_rfl) (by intro _ _ _ h; exact h) (Or.inr ⟨by rfl, rfl⟩) (by assumption) ?_
          simp only [Act.put, List.setIfInBounds_toArray, List.set_cons_zero, List.set_cons_succ]
          refine wpAnyH_take (i := 17) (v := undef) (by (simp only [List.getElem?_toArray, List.getElem?_cons_succ, List.getElem?_cons_zero]; rfl)) (by kernel_rfl) (by kernel_rfl) (by kernel_rfl) (by intro _ _ _ h; exact h) (Or.inr ⟨by rfl, rfl⟩) (by assumption) ?_
          simp only [Act.put, List.setIfInBounds_toArray, List.set_cons_zero, List.set_cons_succ]
          refine wpAnyH_take (i := 18) (v := undef) (by (simp only [List.getElem?_toArray, List.getElem?_cons_succ, List.getElem?_cons_zero]; rfl)) (by kernel_rfl) (by kernel_rfl) (by kernel_rfl) (by intro _ _ _ h; exact h) (Or.inr ⟨by rfl, rfl⟩) (by assumption) ?_
          simp only [Act.put, List.setIfInBounds_toArray, List.set_cons_zero, List.set_cons_succ]
          refine wpAnyH_take (i := 19) (v := ?_) (by (simp only [List.getElem?_toArray, List.getElem?_cons_succ, List.getElem?_cons_zero]; rfl)) (by kernel_rfl) (by kernel_rfl) (by kernel_rfl) (by intro _ _ _ h; exact h) (Or.inl ⟨by rfl, ?_⟩) (by assumption) ?_
          rotate_left
          · (intro w hSw; (try dsimp only at hSw); go_simp; try (with_reducible rfl))
          simp only [Act.put, List.setIfInBounds_toArray, List.set_cons_zero, List.set_cons_succ]
          refine wpAnyH_done (by kernel_rfl) ?_ _
          have HBF := Lib.hid (keep6b (by assumption))
          go_wp2_with fail
          go_meet
          exact ⟨by rw [HMAT.out]; rfl, HBF.out⟩
        rcases hcase with ⟨rfl, rfl⟩ | ⟨j, q, rfl, hq, rfl⟩
        · have HMAT := Lib.hid (HW.out.trans (Bool.and_true _))
          have hg : decide (0 < I) = false := by rcases hgd with ⟨_, h⟩ | ⟨h, _⟩; exact h; omega
          clear hgd
          refine wp_region_held_drew (S := (fun w' => w'.cell? ⟨b5, 0, none⟩ = some (.string p.g) ∧ w'.cell? ⟨b5, 1, none⟩ = some (.string p.a) ∧ w'.cell? ⟨b5, 2, none⟩ = some (.string p.t) ∧ w'.cell? ⟨b5, 3, none⟩ = some (.string p.c) ∧ w'.cell? ⟨b5, 4, none⟩ = some (.string p.v) ∧ w'.cell? ⟨b5, 5, none⟩ = some (.int .i64 p.sc) ∧ Below wa.heap.size wa w')) (by kernel_rfl) (by (try dsimp only); (first | with_reducible exact keep6d ⟨y0, y1, y2, y3, y4, y5, hba⟩ | with_reducible exact keep6p (by assumption) (by assumption))) (fun hHeld => ?_)
          refine wpAnyH_take (i := 0) (v := ?_) (by (simp only [List.getElem?_toArray, List.getElem?_cons_succ, List.getElem?_cons_zero]; rfl)) (by kernel_rfl) (by kernel_rfl) (by kernel_rfl) (by intro _ _ _ h; exact h) (Or.inl ⟨by rfl, ?_⟩) (by assumption) ?_
          rotate_left
          · (intro w hSw; (try dsimp only at hSw); go_simp; try (with_reducible rfl))
          simp only [Act.put, List.setIfInBounds_toArray, List.set_cons_zero, List.set_cons_succ]
          refine wpAnyH_ready (rs := [1]) (by kernel_rfl) (by simp) ?_
          refine AllReadyH.cons (by (simp only [List.getElem?_toArray, List.getElem?_cons_succ, List.getElem?_cons_zero]; rfl)) (fun K hK => ?_) AllReadyH.nil
          go_simp
          (go_at_call 37; (with_reducible refine (HMP.out _).mono ?_); rintro e wq ⟨rfl, hbq⟩; go_wp2_with fail)
          refine hK.out _ _ (by (try dsimp only); (first | with_reducible exact keep6d ⟨y0, y1, y2, y3, y4, y5, hba⟩ | with_reducible exact keep6p (by assumption) (by assumption))) (fun hHeld => ?_)
          clear hK K
          try simp only [Act.put, List.setIfInBounds_toArray, List.set_cons_zero, List.set_cons_succ]
          refine wpAnyH_take (i := 2) (v := ?_) (by (simp only [List.getElem?_toArray, List.getElem?_cons_succ, List.getElem?_cons_zero]; rfl)) (by kernel_rfl) (by kernel_rfl) (by kernel_rfl) (by intro _ _ _ h; exact h) (Or.inl ⟨by rfl, ?_⟩) (by assumption) ?_
          rotate_left
          · (intro w hSw; (try dsimp only at hSw); go_simp; try (with_reducible rfl))
          simp only [Act.put, List.setIfInBounds_toArray, List.set_cons_zero, List.set_cons_succ]
          refine wpAnyH_take (i := 3) (v := ?_) (by (simp only [List.getElem?_toArray, List.getElem?_cons_succ, List.getElem?_cons_zero]; rfl)) (by kernel_rfl) (by kernel_rfl) (by kernel_rfl) (by intro _ _ _ h; exact h) (Or.inl ⟨by rfl, ?_⟩) (by assumption) ?_
          rotate_left
          · (intro w hSw; (try dsimp only at hSw); go_simp; try (with_reducible rfl))
          simp only [Act.put, List.setIfInBounds_toArray, List.set_cons_zero, List.set_cons_succ]
          refine wpAnyH_take (i := 4) (v := ?_) (by (simp only [List.getElem?_toArray, List.getElem?_cons_succ, List.getElem?_cons_zero]; rfl)) (by kernel_rfl) (by kernel_rfl) (by kernel_rfl) (by intro _ _ _ h; exact h) (Or.inl ⟨by rfl, ?_⟩) (by assumption) ?_
          rotate_left
          · (intro w hSw; (try dsimp only at hSw); go_simp; try (with_reducible rfl))
          simp only [Act.put, List.setIfInBounds_toArray, List.set_cons_zero, List.set_cons_succ]
          refine wpAnyH_take (i := 5) (v := ?_) (by (simp only [List.getElem?_toArray, List.getElem?_cons_succ, List.getElem?_cons_zero]; rfl)) (by kernel_rfl) (by kernel_rfl) (by kernel_rfl) (by intro _ _ _ h; exact h) (Or.inl ⟨by rfl, ?_⟩) (by assumption) ?_
          rotate_left
          · (intro w hSw; (try dsimp only at hSw); go_simp; try (with_reducible rfl))
          simp only [Act.put, List.setIfInBounds_toArray, List.set_cons_zero, List.set_cons_succ]
          refine wpAnyH_take (i := 6) (v := ?_) (by (simp only [List.getElem?_toArray, List.getElem?_cons_succ, List.getElem?_cons_zero]; rfl)) (by kernel_rfl) (by kernel_rfl) (by kernel_rfl) (by intro _ _ _ h; exact h) (Or.inl ⟨by rfl, ?_⟩) (by assumption) ?_
          rotate_left
          · (intro w hSw; (try dsimp only at hSw); go_simp; try (with_reducible rfl))
          simp only [Act.put, List.setIfInBounds_toArray, List.set_cons_zero, List.set_cons_succ]
          refine wpAnyH_take (i := 7) (v := undef) (by (simp only [List.getElem?_toArray, List.getElem?_cons_succ, List.getElem?_cons_zero]; rfl)) (by kernel_rfl) (by kernel_rfl) (by kernel_rfl) (by intro _ _ _ h; exact h) (Or.inr ⟨by rfl, rfl⟩) (by assumption) ?_
          simp only [Act.put, List.setIfInBounds_toArray, List.set_cons_zero, List.set_cons_succ]
          refine wpAnyH_take (i := 8) (v := undef) (by (simp only [List.getElem?_toArray, List.getElem?_cons_succ, List.getElem?_cons_zero]; rfl)) (by kernel_rfl) (by kernel_rfl) (by kernel_rfl) (by intro _ _ _ h; exact h) (Or.inr ⟨by rfl, rfl⟩) (by assumption) ?_
          simp only [Act.put, List.setIfInBounds_toArray, List.set_cons_zero, List.set_cons_succ]
          refine wpAnyH_take (i := 9) (v := undef) (by (simp only [List.getElem?_toArray, List.getElem?_cons_succ, List.getElem?_cons_zero]; rfl)) (by kernel_rfl) (by kernel_rfl) (by kernel_rfl) (by intro _ _ _ h; exact h) (Or.inr ⟨by rfl, rfl⟩) (by assumption) ?_
          simp only [Act.put, List.setIfInBounds_toArray, List.set_cons_zero, List.set_cons_succ]
          refine wpAnyH_take (i := 10) (v := undef) (by (simp only [List.getElem?_toArray, List.getElem?_cons_succ, List.getElem?_cons_zero]; rfl)) (by kernel_rfl) (by kernel_rfl) (by kernel_rfl) (by intro _ _ _ h; exact h) (Or.inr ⟨by rfl, rfl⟩) (by assumption) ?_
          simp only [Act.put, List.setIfInBounds_toArray, List.set_cons_zero, List.set_cons_succ]
          refine wpAnyH_take (i := 11) (v := undef) (by (simp only [List.getElem?_toArray, List.getElem?_cons_succ, List.getElem?_cons_zero]; rfl)) (by kernel_rfl) (by kernel_rfl) (by kernel_rfl) (by intro _ _ _ h; exact h) (Or.inr ⟨by rfl, rfl⟩) (by assumption) ?_
          simp only [Act.put, List.setIfInBounds_toArray, List.set_cons_zero, List.set_cons_succ]
          refine wpAnyH_take (i := 12) (v := undef) (by (simp only [List.getElem?_toArray, List.getElem?_cons_succ, List.getElem?_cons_zero]; rfl)) (by kernel_rfl) (by kernel_rfl) (by kernel_rfl) (by intro _ _ _ h; exact h) (Or.inr ⟨by rfl, rfl⟩) (by assumption) ?_
          simp only [Act.put, List.setIfInBounds_toArray, List.set_cons_zero, List.set_cons_succ]
          refine wpAnyH_take (i := 13) (v := undef) (by (simp only [List.getElem?_toArray, List.getElem?_cons_succ, List.getElem?_cons_zero]; rfl)) (by kernel_rfl) (by kernel_rfl) (by kernel_rfl) (by intro _ _ _ h; exact h) (Or.inr ⟨by rfl, rfl⟩) (by assumption) ?_
          simp only [Act.put, List.setIfInBounds_toArray, List.set_cons_zero, List.set_cons_succ]
          refine wpAnyH_take (i := 14) (v := undef) (by (simp only [List.getElem?_toArray, List.getElem?_cons_succ, List.getElem?_cons_zero]; rfl)) (by kernel_rfl) (by kernel_rfl) (by kernel_rfl) (by intro _ _ _ h; exact h) (Or.inr ⟨by rfl, rfl⟩) (by assumption) ?_
          simp only [Act.put, List.setIfInBounds_toArray, List.set_cons_zero, List.set_cons_succ]
          refine wpAnyH_take (i := 15) (v := undef) (by (simp only [List.getElem?_toArray, List.getElem?_cons_succ, List.getElem?_cons_zero]; rfl)) (by kernel_rfl) (by kernel_rfl) (by kernel_rfl) (by intro _ _ _ h; exact h) (Or.inr ⟨by rfl, rfl⟩) (by assumption) ?_
          simp only [Act.put, List.setIfInBounds_toArray, List.set_cons_zero, List.set_cons_succ]
          refine wpAnyH_take (i := 16) (v := undef) (by (simp only [List.getElem?_toArray, List.getElem?_cons_succ, List.getElem?_cons_zero]; rfl)) (by kernel_rfl) (by kernel_rfl) (by kernel_rfl) (by intro _ _ _ h; exact h) (Or.inr ⟨by rfl, rfl⟩) (by assumption) ?_
          simp only [Act.put, List.setIfInBounds_toArray, List.set_cons_zero, List.set_cons_succ]
          refine wpAnyH_take (i := 17) (v := undef) (by (simp only [List.getElem?_toArray, List.getElem?_cons_succ, List.getElem?_cons_zero]; rfl)) (by kernel_rfl) (by kernel_rfl) (by kernel_rfl) (by intro _ _ _ h; exact h) (Or.inr ⟨by rfl, rfl⟩) (by assumption) ?_
          simp only [Act.put, List.setIfInBounds_toArray, List.set_cons_zero, List.set_cons_succ]
          refine wpAnyH_take (i := 18) (v := ?_) (by (simp only [List.getElem?_toArray, List.getElem?_cons_succ, List.getElem?_cons_zero]; rfl)) (by kernel_rfl) (by kernel_rfl) (by kernel_rfl) (by intro _ _ _ h; exact h) (Or.inl ⟨by rfl, ?_⟩) (by assumption) ?_
          rotate_left
          · (intro w hSw; (try dsimp only at hSw); go_simp; try (with_reducible rfl))
          simp only [Act.put, List.setIfInBounds_toArray, List.set_cons_zero, List.set_cons_succ]
          refine wpAnyH_take (i := 19) (v := ?_) (by (simp only [List.getElem?_toArray, List.getElem?_cons_succ, List.getElem?_cons_zero]; rfl)) (by kernel_rfl) (by kernel_rfl) (by kernel_rfl) (by intro _ _ _ h; exact h) (Or.inl ⟨by rfl, ?_⟩) (by assumption) ?_
          rotate_left
          · (intro w hSw; (try dsimp only at hSw); go_simp; try (with_reducible rfl))
          simp only [Act.put, List.setIfInBounds_toArray, List.set_cons_zero, List.set_cons_succ]
          refine wpAnyH_done (by kernel_rfl) ?_ _
          have HBF := Lib.hid (keep6b (by assumption))
          go_wp2_with fail
          go_meet
          exact ⟨by rw [HMAT.out]; rfl, HBF.out⟩
        · have HMAT := Lib.hid (HW.out.trans (Bool.and_true _))
          obtain ⟨q0, q1, q2, q3, _, _⟩ := RdN.at HCELLS.out hq (HBW.out.trans (HBA.out.mono HBW.out.size)) (Nat.le_refl _)
          obtain ⟨_, _, _, x3⟩ := HLKR.out.below HBA.out (Nat.le_refl _)
          have hjI : (j : Int) < l.length := by omega
          have hcp := fun w => refCompare6_any q.key p.key w
          have hrng := kcmp_ord.rng q.key p.key
          generalize hkn : kcmp q.key p.key = n at hcp hrng
          have HN := Lib.hid hkn
          have HRNG := Lib.hid hrng
          unfold K4.val keyV Pn.key at hcp
          have HCP := Lib.hid hcp
          have hg : decide (0 < I) = true := by rcases hgd with ⟨h, _⟩ | ⟨_, h⟩; omega; exact h
          have hI2 : IntKind.i64.wrap (I - 1) = (j : Int) := by have := HI.out; rw [IntWalk.i64_in _ (by omega)]; omega
          clear hcp hkn hrng hq hltI hgd
          go_region_held3 (fun w' => w'.cell? ⟨b5, 0, none⟩ = some (.string p.g) ∧ w'.cell? ⟨b5, 1, none⟩ = some (.string p.a) ∧ w'.cell? ⟨b5, 2, none⟩ = some (.string p.t) ∧ w'.cell? ⟨b5, 3, none⟩ = some (.string p.c) ∧ w'.cell? ⟨b5, 4, none⟩ = some (.string p.v) ∧ w'.cell? ⟨b5, 5, none⟩ = some (.int .i64 p.sc) ∧ w'.cell? (b.add (j * 6)) = some (.string q.g) ∧ w'.cell? ⟨(b.add (j * 6)).block, (b.add (j * 6)).off + 1, none⟩ = some (.string q.a) ∧ w'.cell? ⟨(b.add (j * 6)).block, (b.add (j * 6)).off + 2, none⟩ = some (.string q.t) ∧ w'.cell? ⟨(b.add (j * 6)).block, (b.add (j * 6)).off + 3, none⟩ = some (.string q.c) ∧ w'.cell? ⟨w.heap.size, 3, none⟩ = some (.slice (some b) l.length pc) ∧ Below wa.heap.size wa w')
            (first | with_reducible exact keep11d ⟨y0, y1, y2, y3, y4, y5, q0, q1, q2, q3, x3, hba⟩ | with_reducible exact keep11p (by assumption) (by assumption))
            (first
              | (go_at_call 37; (with_reducible refine (HMP.out _).mono ?_); rintro e wq ⟨rfl, hbq⟩)
              | (go_at_call 38; (with_reducible refine (HCP.out _).mono ?_); rintro e wq ⟨rfl, hbq⟩))
          have HBF := Lib.hid (keep11b (by assumption))
          go_wp2_with fail
          go_meet
          exact ⟨by rw [HMAT.out, HN.out]; rcases HRNG.out with h | h | h <;> rw [h] <;> rfl, HBF.out⟩
      case rest =>
        obtain ⟨rfl, hbc⟩ := hcut
        have HBC := Lib.hid (HB.out.trans ((HBA.out.trans (hbc.mono HBA.out.size)).mono HB.out.size))
        generalize hmat : mayAt l k = m
        have HMAT := Lib.hid hmat
        clear hbc y0 y1 y2 y3 y4 y5 hcase hba hmat hgd
        cases m
        · go_wp2
          go_ret
          exact ⟨ret_bool (by rw [HM2.out]; exact (allMay_no hlt HMAT.out).symm), HB2.out.trans (HBC.out.mono HB2.out.size)⟩
        · go_wp2
          go_roundw
          case rel =>
            refine ⟨k + 1, by omega, by rw [← HI.out]; go_num, fun j hj => ?_, HBC.out⟩
            by_cases hjk : j = k
            · subst hjk; exact HMAT.out
            · exact HALL.out j (by omega)
          case measure => have := HI.out; simp [intOf]; omega
    · have hkl : k = l.length := by omega
      have hlt' : (l.length : Int) ≤ I := by omega
      have HF := Lib.hid (show allMay l = true from allMay_iff.2 (by rw [← hkl]; exact HALL.out))
      have HBW := Lib.hid hbw
      clear hkl hb hbw hI hIt
      go_wp2
      go_ret
      exact ⟨ret_bool (by rw [HM2.out]; exact HF.out.symm), HBW.out⟩
end Go.Proofs.Ytoibanffaebllaa
