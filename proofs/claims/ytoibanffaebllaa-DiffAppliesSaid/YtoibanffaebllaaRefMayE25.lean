/-
  Layer 25: the contract of the answer's May, over edits. Own work.
-/
import Derived.Test.YtoibanffaebllaaMay25b
import Derived.Test.YtoibanffaebllaaRefCmp6
namespace Go.Proofs.Ytoibanffaebllaa
set_option linter.unusedVariables false
set_option linter.unusedSimpArgs false
open Go.RowKit

theorem neq_key (x y : K4) (w : World) : (binOp .neq 46 (.agg #[.string x.g, .string x.a, .string x.t, .string x.c]) (.agg #[.string y.g, .string y.a, .string y.t, .string y.c])).run Try.prog w = .ok (.bool (!(sameK x y))) w := by
  rw [run_neq_struct, show (10000 : Nat) = 9998 + 2 from rfl, eqI_key]; rfl
set_option maxRecDepth 100000 in
set_option maxHeartbeats 8000000 in
theorem refMayE_any (v1 : Value) (l : List Ed) (hl : l.length ≤ 1000000) (w : World) (h1 : RdE w v1 l) :
    Calls Try.prog 21 #[v1] w fun e w' => e = .returned (.bool (mayEds l)) ∧ Below w.heap.size w w' := by
  obtain ⟨a1, c1, rfl⟩ := h1.shape
  have HR1 := Lib.hid h1
  have hlI : (l.length : Int) ≤ 1000000 := by omega
  clear h1
  go_enter Try.func21, Try.ntmps21
  go_wp2_with fail
  go_loopw [7] (fun i wr => ∃ k : Nat, k ≤ l.length ∧ i = .int .i64 k ∧ (∀ j, j < k → mayEdAt l j = true) ∧ Below w.heap.size w wr) (fun i _ => l.length - (intOf i).toNat)
  case atStart => exact ⟨0, by omega, rfl, fun j hj => by omega, Below.refl _ _⟩
  case round =>
    obtain ⟨k, hk, rfl, hall, hb⟩ := hrel
    have HB := Lib.hid hb
    have HALL := Lib.hid hall
    clear hall
    obtain ⟨I, hI⟩ : ∃ I : Int, I = (k : Int) := ⟨_, rfl⟩
    have hIt : I.toNat = k := by omega
    have hI0 : (0 : Int) ≤ I := by omega
    have HI := Lib.hid hI
    rw [← hI]
    by_cases hlt : k < l.length
    · obtain ⟨p, hp⟩ : ∃ p, l[k]? = some p := ⟨_, List.getElem?_eq_getElem hlt⟩
      obtain ⟨b1, rfl, _, _, _, hc1⟩ := HR1.out.elem hp
      have h1 := RdE.atR hc1 hp hb (Nat.le_refl _)
      rw [← hIt] at h1
      have H1 := Lib.hid h1
      have HC1 := Lib.hid hc1
      have hltI : I < l.length := by omega
      have hcur : ∃ W : Bool, (mayEdAt l k = (W && mayE p)) ∧ ((k = 0 ∧ W = true) ∨ ∃ j q, k = j + 1 ∧ l[j]? = some q ∧ W = decide (kcmp q.key p.key < 0)) := by
        match k, hp with
        | 0, hp => exact ⟨true, by rw [mayEdAt_zero hp]; simp, .inl ⟨rfl, rfl⟩⟩
        | j + 1, hp =>
          obtain ⟨q, hq⟩ : ∃ q, l[j]? = some q := ⟨_, List.getElem?_eq_getElem (by omega)⟩
          exact ⟨_, mayEdAt_succ hp hq, .inr ⟨j, q, rfl, hq, rfl⟩⟩
      obtain ⟨W, hW, hcase⟩ := hcur
      have HW := Lib.hid hW
      have hnew := EdR.new wr p
      have hedin := EdIn.new wr p
      have hb1 := hb.alloc hb.size (.cells #[.string p.key.g, .string p.key.a, .string p.key.t, .string p.key.c, .bool p.had, .bool p.has, .string p.old.g, .string p.old.a, .string p.old.t, .string p.old.c, .string p.old.v, .int .i64 p.old.sc, .string p.new.g, .string p.new.a, .string p.new.t, .string p.new.c, .string p.new.v, .int .i64 p.new.sc] 50)
      clear hc1 hp hb hW h1 hI hIt
      go_upto_region 4 with (first
        | (refine wpList_load_ed rfl _ rfl _ rfl p H1.out ?_)
        | (refine wpList_store_ed rfl _ _ rfl _ rfl rfl p rfl ?_))
      generalize wr.alloc (.cells #[.string p.key.g, .string p.key.a, .string p.key.t, .string p.key.c, .bool p.had, .bool p.has, .string p.old.g, .string p.old.a, .string p.old.t, .string p.old.c, .string p.old.v, .int .i64 p.old.sc, .string p.new.g, .string p.new.a, .string p.new.t, .string p.new.c, .string p.new.v, .int .i64 p.new.sc] 50) = w1 at hnew hedin hb1 ⊢
      generalize wr.heap.size = V at hnew hedin ⊢
      have HED := Lib.hid hedin
      have HB1 := Lib.hid hb1
      simp only [Act.put]
      go_cut [25] from 12 to 26 (fun t wx => t = .bool (!W) ∧ Below w1.heap.size w1 wx)
      case first =>
        rcases hcase with ⟨hk00, rfl⟩ | ⟨j, d, rfl, hd, hWd⟩
        · have hg : decide (0 < I) = false := by have := HI.out; simp; omega
          clear hnew hedin hb1
          refine wp_region_held_drew (S := (fun w' => Below w1.heap.size w1 w')) (by kernel_rfl) (by (try dsimp only); exact (Below.refl _ _).drew) (fun hHeld => ?_)
          refine wpAnyH_take (i := 0) (v := ?_) (by (simp only [List.getElem?_toArray, List.getElem?_cons_succ, List.getElem?_cons_zero]; rfl)) (by kernel_rfl) (by kernel_rfl) (by kernel_rfl) (by intro _ _ _ h; exact h) (Or.inl ⟨by rfl, ?_⟩) (by assumption) ?_
          rotate_left
          · (intro w hSw; (try dsimp only at hSw); go_simp; try (with_reducible rfl))
          simp only [Act.put, List.setIfInBounds_toArray, List.set_cons_zero, List.set_cons_succ]
          refine wpAnyH_take (i := 1) (v := ?_) (by (simp only [List.getElem?_toArray, List.getElem?_cons_succ, List.getElem?_cons_zero]; rfl)) (by kernel_rfl) (by kernel_rfl) (by kernel_rfl) (by intro _ _ _ h; exact h) (Or.inl ⟨by rfl, ?_⟩) (by assumption) ?_
          rotate_left
          · (intro w hSw; (try dsimp only at hSw); go_simp; try (with_reducible rfl))
          simp only [Act.put, List.setIfInBounds_toArray, List.set_cons_zero, List.set_cons_succ]
          refine wpAnyH_take (i := 2) (v := ?_) (by (simp only [List.getElem?_toArray, List.getElem?_cons_succ, List.getElem?_cons_zero]; rfl)) (by kernel_rfl) (by kernel_rfl) (by kernel_rfl) (by intro _ _ _ h; exact h) (Or.inl ⟨by rfl, ?_⟩) (by assumption) ?_
          rotate_left
          · (intro w hSw; (try dsimp only at hSw); go_simp; try (with_reducible rfl))
          simp only [Act.put, List.setIfInBounds_toArray, List.set_cons_zero, List.set_cons_succ]
          refine wpAnyH_take (i := 3) (v := undef) (by (simp only [List.getElem?_toArray, List.getElem?_cons_succ, List.getElem?_cons_zero]; rfl)) (by kernel_rfl) (by kernel_rfl) (by kernel_rfl) (by intro _ _ _ h; exact h) (Or.inr ⟨by rfl, rfl⟩) (by assumption) ?_
          simp only [Act.put, List.setIfInBounds_toArray, List.set_cons_zero, List.set_cons_succ]
          refine wpAnyH_take (i := 4) (v := undef) (by (simp only [List.getElem?_toArray, List.getElem?_cons_succ, List.getElem?_cons_zero]; rfl)) (by kernel_rfl) (by kernel_rfl) (by kernel_rfl) (by intro _ _ _ h; exact h) (Or.inr ⟨by rfl, rfl⟩) (by assumption) ?_
          simp only [Act.put, List.setIfInBounds_toArray, List.set_cons_zero, List.set_cons_succ]
          refine wpAnyH_take (i := 5) (v := undef) (by (simp only [List.getElem?_toArray, List.getElem?_cons_succ, List.getElem?_cons_zero]; rfl)) (by kernel_rfl) (by kernel_rfl) (by kernel_rfl) (by intro _ _ _ h; exact h) (Or.inr ⟨by rfl, rfl⟩) (by assumption) ?_
          simp only [Act.put, List.setIfInBounds_toArray, List.set_cons_zero, List.set_cons_succ]
          refine wpAnyH_take (i := 6) (v := undef) (by (simp only [List.getElem?_toArray, List.getElem?_cons_succ, List.getElem?_cons_zero]; rfl)) (by kernel_rfl) (by kernel_rfl) (by kernel_rfl) (by intro _ _ _ h; exact h) (Or.inr ⟨by rfl, rfl⟩) (by assumption) ?_
          simp only [Act.put, List.setIfInBounds_toArray, List.set_cons_zero, List.set_cons_succ]
          refine wpAnyH_take (i := 7) (v := undef) (by (simp only [List.getElem?_toArray, List.getElem?_cons_succ, List.getElem?_cons_zero]; rfl)) (by kernel_rfl) (by kernel_rfl) (by kernel_rfl) (by intro _ _ _ h; exact h) (Or.inr ⟨by rfl, rfl⟩) (by assumption) ?_
          simp only [Act.put, List.setIfInBounds_toArray, List.set_cons_zero, List.set_cons_succ]
          refine wpAnyH_take (i := 8) (v := undef) (by (simp only [List.getElem?_toArray, List.getElem?_cons_succ, List.getElem?_cons_zero]; rfl)) (by kernel_rfl) (by kernel_rfl) (by kernel_rfl) (by intro _ _ _ h; exact h) (Or.inr ⟨by rfl, rfl⟩) (by assumption) ?_
          simp only [Act.put, List.setIfInBounds_toArray, List.set_cons_zero, List.set_cons_succ]
          refine wpAnyH_take (i := 9) (v := undef) (by (simp only [List.getElem?_toArray, List.getElem?_cons_succ, List.getElem?_cons_zero]; rfl)) (by kernel_rfl) (by kernel_rfl) (by kernel_rfl) (by intro _ _ _ h; exact h) (Or.inr ⟨by rfl, rfl⟩) (by assumption) ?_
          simp only [Act.put, List.setIfInBounds_toArray, List.set_cons_zero, List.set_cons_succ]
          refine wpAnyH_take (i := 10) (v := undef) (by (simp only [List.getElem?_toArray, List.getElem?_cons_succ, List.getElem?_cons_zero]; rfl)) (by kernel_rfl) (by kernel_rfl) (by kernel_rfl) (by intro _ _ _ h; exact h) (Or.inr ⟨by rfl, rfl⟩) (by assumption) ?_
          simp only [Act.put, List.setIfInBounds_toArray, List.set_cons_zero, List.set_cons_succ]
          refine wpAnyH_take (i := 11) (v := undef) (by (simp only [List.getElem?_toArray, List.getElem?_cons_succ, List.getElem?_cons_zero]; rfl)) (by kernel_rfl) (by kernel_rfl) (by kernel_rfl) (by intro _ _ _ h; exact h) (Or.inr ⟨by rfl, rfl⟩) (by assumption) ?_
          simp only [Act.put, List.setIfInBounds_toArray, List.set_cons_zero, List.set_cons_succ]
          refine wpAnyH_take (i := 12) (v := undef) (by (simp only [List.getElem?_toArray, List.getElem?_cons_succ, List.getElem?_cons_zero]; rfl)) (by kernel_rfl) (by kernel_rfl) (by kernel_rfl) (by intro _ _ _ h; exact h) (Or.inr ⟨by rfl, rfl⟩) (by assumption) ?_
          simp only [Act.put, List.setIfInBounds_toArray, List.set_cons_zero, List.set_cons_succ]
          refine wpAnyH_take (i := 13) (v := ?_) (by (simp only [List.getElem?_toArray, List.getElem?_cons_succ, List.getElem?_cons_zero]; rfl)) (by kernel_rfl) (by kernel_rfl) (by kernel_rfl) (by intro _ _ _ h; exact h) (Or.inl ⟨by rfl, ?_⟩) (by assumption) ?_
          rotate_left
          · (intro w hSw; (try dsimp only at hSw); go_simp; try (with_reducible rfl))
          simp only [Act.put, List.setIfInBounds_toArray, List.set_cons_zero, List.set_cons_succ]
          refine wpAnyH_done (by kernel_rfl) ?_ _
          go_wp2_with fail
          go_meet
          exact ⟨rfl, by assumption⟩
        · have hg : decide (0 < I) = true := by have := HI.out; simp; omega
          have hI2 : IntKind.i64.wrap (I - 1) = (j : Int) := by have := HI.out; rw [IntWalk.i64_in _ (by omega)]; omega
          have hjI : (j : Int) < l.length := by omega
          have hj0 : (0 : Int) ≤ (j : Int) := by omega
          have hMS : MS w1 V p (b1.add (j * 18)) d.key w1 := ⟨hnew, (RdE.atR HC1.out hd hb1 (Nat.le_refl _)).keyR, Below.refl _ _⟩
          have hcp := fun w => refCompare6_any d.key p.key w
          unfold K4.val keyV at hcp
          have hrng := kcmp_ord.rng d.key p.key
          have hne : ∀ c : Int, -1 ≤ c → c ≤ 1 → W = decide (c < 0) → (c != -1) = !W := fun c h1 h2 h3 => by rw [h3]; rcases (show c = -1 ∨ c = 0 ∨ c = 1 by omega) with rfl | rfl | rfl <;> rfl
          generalize kcmp d.key p.key = c at hcp hrng hWd
          have HNE := Lib.hid (hne c (by omega) (by omega) hWd)
          have HCP := Lib.hid hcp
          clear hnew hb1 hcp hd hrng hWd hne hedin
          refine wp_region_held_drew (S := (fun w' => MS w1 V p (b1.add (j * 18)) d.key w')) (by kernel_rfl) (by (try dsimp only); exact hMS.drew) (fun hHeld => ?_)
          refine wpAnyH_take (i := 0) (v := ?_) (by (simp only [List.getElem?_toArray, List.getElem?_cons_succ, List.getElem?_cons_zero]; rfl)) (by kernel_rfl) (by kernel_rfl) (by kernel_rfl) (by intro _ _ _ h; exact h) (Or.inl ⟨by rfl, ?_⟩) (by assumption) ?_
          rotate_left
          · (intro w hSw; (try dsimp only at hSw); go_simp; try (with_reducible rfl))
          simp only [Act.put, List.setIfInBounds_toArray, List.set_cons_zero, List.set_cons_succ]
          refine wpAnyH_take (i := 1) (v := ?_) (by (simp only [List.getElem?_toArray, List.getElem?_cons_succ, List.getElem?_cons_zero]; rfl)) (by kernel_rfl) (by kernel_rfl) (by kernel_rfl) (by intro _ _ _ h; exact h) (Or.inl ⟨by rfl, ?_⟩) (by assumption) ?_
          rotate_left
          · (intro w hSw; (try dsimp only at hSw); go_simp; try (with_reducible rfl))
          simp only [Act.put, List.setIfInBounds_toArray, List.set_cons_zero, List.set_cons_succ]
          refine wpAnyH_take (i := 2) (v := ?_) (by (simp only [List.getElem?_toArray, List.getElem?_cons_succ, List.getElem?_cons_zero]; rfl)) (by kernel_rfl) (by kernel_rfl) (by kernel_rfl) (by intro _ _ _ h; exact h) (Or.inl ⟨by rfl, ?_⟩) (by assumption) ?_
          rotate_left
          · (intro w hSw; (try dsimp only at hSw); go_simp; try (with_reducible rfl))
          simp only [Act.put, List.setIfInBounds_toArray, List.set_cons_zero, List.set_cons_succ]
          refine wpAnyH_take (i := 3) (v := ?_) (by (simp only [List.getElem?_toArray, List.getElem?_cons_succ, List.getElem?_cons_zero]; rfl)) (by kernel_rfl) (by kernel_rfl) (by kernel_rfl) (by intro _ _ _ h; exact h) (Or.inl ⟨by rfl, ?_⟩) (by assumption) ?_
          rotate_left
          · (intro w hSw; (try dsimp only at hSw); go_simp; try (with_reducible rfl))
          simp only [Act.put, List.setIfInBounds_toArray, List.set_cons_zero, List.set_cons_succ]
          refine wpAnyH_take (i := 4) (v := ?_) (by (simp only [List.getElem?_toArray, List.getElem?_cons_succ, List.getElem?_cons_zero]; rfl)) (by kernel_rfl) (by kernel_rfl) (by kernel_rfl) (by intro _ _ _ h; exact h) (Or.inl ⟨by rfl, ?_⟩) (by assumption) ?_
          rotate_left
          · (intro w hSw; (try dsimp only at hSw); go_simp; try (with_reducible rfl))
          simp only [Act.put, List.setIfInBounds_toArray, List.set_cons_zero, List.set_cons_succ]
          refine wpAnyH_take (i := 5) (v := ?_) (by (simp only [List.getElem?_toArray, List.getElem?_cons_succ, List.getElem?_cons_zero]; rfl)) (by kernel_rfl) (by kernel_rfl) (by kernel_rfl) (by intro _ _ _ h; exact h) (Or.inl ⟨by rfl, ?_⟩) (by assumption) ?_
          rotate_left
          · (intro w hSw; (try dsimp only at hSw); go_simp; try (with_reducible rfl))
          simp only [Act.put, List.setIfInBounds_toArray, List.set_cons_zero, List.set_cons_succ]
          refine wpAnyH_take (i := 6) (v := ?_) (by (simp only [List.getElem?_toArray, List.getElem?_cons_succ, List.getElem?_cons_zero]; rfl)) (by kernel_rfl) (by kernel_rfl) (by kernel_rfl) (by intro _ _ _ h; exact h) (Or.inl ⟨by rfl, ?_⟩) (by assumption) ?_
          rotate_left
          · (intro w hSw; (try dsimp only at hSw); go_simp; try (with_reducible rfl))
          simp only [Act.put, List.setIfInBounds_toArray, List.set_cons_zero, List.set_cons_succ]
          refine wpAnyH_take (i := 7) (v := ?_) (by (simp only [List.getElem?_toArray, List.getElem?_cons_succ, List.getElem?_cons_zero]; rfl)) (by kernel_rfl) (by kernel_rfl) (by kernel_rfl) (by intro _ _ _ h; exact h) (Or.inl ⟨by rfl, ?_⟩) (by assumption) ?_
          rotate_left
          · (intro w hSw; (try dsimp only at hSw); go_simp; try (with_reducible rfl))
          simp only [Act.put, List.setIfInBounds_toArray, List.set_cons_zero, List.set_cons_succ]
          refine wpAnyH_take (i := 8) (v := _) (by (simp only [List.getElem?_toArray, List.getElem?_cons_succ, List.getElem?_cons_zero]; rfl)) (by kernel_rfl) (by kernel_rfl) (by kernel_rfl) (by intro _ _ _ h; exact h) (yields_load_key (by rfl) _ rfl (b1.add (j * 18)) rfl d.key (fun w h => h.k)) (by assumption) ?_
          simp only [Act.put, List.setIfInBounds_toArray, List.set_cons_zero, List.set_cons_succ]
          refine wpAnyH_take (i := 9) (v := ?_) (by (simp only [List.getElem?_toArray, List.getElem?_cons_succ, List.getElem?_cons_zero]; rfl)) (by kernel_rfl) (by kernel_rfl) (by kernel_rfl) (by intro _ _ _ h; exact h) (Or.inl ⟨by rfl, ?_⟩) (by assumption) ?_
          rotate_left
          · (intro w hSw; (try dsimp only at hSw); go_simp; try (with_reducible rfl))
          simp only [Act.put, List.setIfInBounds_toArray, List.set_cons_zero, List.set_cons_succ]
          refine wpAnyH_take (i := 10) (v := _) (by (simp only [List.getElem?_toArray, List.getElem?_cons_succ, List.getElem?_cons_zero]; rfl)) (by kernel_rfl) (by kernel_rfl) (by kernel_rfl) (by intro _ _ _ h; exact h) (yields_load_key (by rfl) _ rfl ⟨V, 0, none⟩ rfl p.key (fun w h => h.e.keyR)) (by assumption) ?_
          simp only [Act.put, List.setIfInBounds_toArray, List.set_cons_zero, List.set_cons_succ]
          refine wpAnyH_ready (rs := [11]) (by kernel_rfl) (by simp) ?_
          refine AllReadyH.cons (by (simp only [List.getElem?_toArray, List.getElem?_cons_succ, List.getElem?_cons_zero]; rfl)) (fun K hK => ?_) AllReadyH.nil
          go_simp
          (go_at_call 38; (with_reducible refine (HCP.out _).mono ?_); rintro e wx ⟨rfl, hbx⟩; go_wp2_with fail)
          refine hK.out _ _ (by (try dsimp only); exact MS.keep (by assumption) (by assumption)) (fun hHeld => ?_)
          clear hK K
          try simp only [Act.put, List.setIfInBounds_toArray, List.set_cons_zero, List.set_cons_succ]
          refine wpAnyH_take (i := 12) (v := ?_) (by (simp only [List.getElem?_toArray, List.getElem?_cons_succ, List.getElem?_cons_zero]; rfl)) (by kernel_rfl) (by kernel_rfl) (by kernel_rfl) (by intro _ _ _ h; exact h) (Or.inl ⟨by rfl, ?_⟩) (by assumption) ?_
          rotate_left
          · (intro w hSw; (try dsimp only at hSw); go_simp; try (with_reducible rfl))
          simp only [Act.put, List.setIfInBounds_toArray, List.set_cons_zero, List.set_cons_succ]
          refine wpAnyH_take (i := 13) (v := ?_) (by (simp only [List.getElem?_toArray, List.getElem?_cons_succ, List.getElem?_cons_zero]; rfl)) (by kernel_rfl) (by kernel_rfl) (by kernel_rfl) (by intro _ _ _ h; exact h) (Or.inl ⟨by rfl, ?_⟩) (by assumption) ?_
          rotate_left
          · (intro w hSw; (try dsimp only at hSw); go_simp; try (with_reducible rfl))
          simp only [Act.put, List.setIfInBounds_toArray, List.set_cons_zero, List.set_cons_succ]
          refine wpAnyH_done (by kernel_rfl) ?_ _
          have HMB := Lib.hid (MS.b (by assumption))
          clear hMS
          go_wp2_with fail
          go_meet
          exact ⟨congrArg Value.bool HNE.out, HMB.out⟩
      case rest =>
        obtain ⟨rfl, hbx⟩ := hcut
        have HBX := Lib.hid (HB1.out.trans (hbx.mono HB1.out.size))
        obtain ⟨y0, y1, y2, y3, y4, y5, y6, y7, y8, y9, y10, y11, y12, y13, y14, y15, y16, y17⟩ := HED.out.below hbx (Nat.le_refl _)
        clear hcase hnew hedin hb1 hbx HED H1 HC1
        cases W
        · have HMM := Lib.hid (HW.out.trans (Bool.false_and _))
          go_wp2
          go_ret
          exact ⟨ret_bool (mayEds_no hlt (HMM.out.trans (by first | rfl | simp))).symm, HBX.out⟩
        have HMM := Lib.hid (HW.out.trans (Bool.true_and _))
        clear HW
        obtain ⟨ek, had, has, old, new⟩ := p
        simp only at y0 y1 y2 y3 y4 y5 y6 y7 y8 y9 y10 y11 y12 y13 y14 y15 y16 y17
        have hyes : mayEdAt l k = true → ∀ i, i < k + 1 → mayEdAt l i = true := fun h i hi => by
          by_cases hik : i = k
          · subst hik; exact h
          · exact HALL.out i (by omega)
        have HYES := Lib.hid hyes
        clear hyes
        cases had
        · have hn1 := fun w => neq_pin old zP w
          rw [← side_f ek old] at hn1
          unfold zP at hn1
          simp only at hn1
          cases has
          · go_wp2
            go_ret
            exact ⟨ret_bool (mayEds_no hlt (HMM.out.trans (by first | rfl | simp))).symm, HBX.out⟩
          · have hn2 := fun w => neq_key new.key ek w
            rw [← side_t ek new] at hn2
            unfold Pn.key at hn2
            simp only at hn2
            have HME := Lib.hid (HMM.out.trans (show mayE ⟨ek, false, true, old, new⟩ = (sideB ek false old && sideB ek true new) from rfl))
            clear HMM
            generalize sideB ek false old = s1 at hn1 HME
            generalize sideB ek true new = s2 at hn2 HME
            cases s1
            · have HMM := Lib.hid (HME.out.trans (Bool.false_and _))
              go_wp2
              go_ret
              exact ⟨ret_bool (mayEds_no hlt (HMM.out.trans (by first | rfl | simp))).symm, HBX.out⟩
            cases s2
            · have HMM := Lib.hid (HME.out.trans (Bool.and_false _))
              go_wp2
              go_ret
              exact ⟨ret_bool (mayEds_no hlt (HMM.out.trans (by first | rfl | simp))).symm, HBX.out⟩
            go_wp2
            go_roundw
            case rel => exact ⟨k + 1, by omega, by rw [HI.out]; go_num, HYES.out HME.out, HBX.out⟩
            case measure => rw [HI.out]; simp [intOf]; omega
        · have hn1 := fun w => neq_key old.key ek w
          rw [← side_t ek old] at hn1
          unfold Pn.key at hn1
          simp only at hn1
          cases has
          · have hn2 := fun w => neq_pin new zP w
            rw [← side_f ek new] at hn2
            unfold zP at hn2
            simp only at hn2
            have HME := Lib.hid (HMM.out.trans (show mayE ⟨ek, true, false, old, new⟩ = (sideB ek true old && sideB ek false new) from rfl))
            clear HMM
            generalize sideB ek true old = s1 at hn1 HME
            generalize sideB ek false new = s2 at hn2 HME
            cases s1
            · have HMM := Lib.hid (HME.out.trans (Bool.false_and _))
              go_wp2
              go_ret
              exact ⟨ret_bool (mayEds_no hlt (HMM.out.trans (by first | rfl | simp))).symm, HBX.out⟩
            cases s2
            · have HMM := Lib.hid (HME.out.trans (Bool.and_false _))
              go_wp2
              go_ret
              exact ⟨ret_bool (mayEds_no hlt (HMM.out.trans (by first | rfl | simp))).symm, HBX.out⟩
            go_wp2
            go_roundw
            case rel => exact ⟨k + 1, by omega, by rw [HI.out]; go_num, HYES.out HME.out, HBX.out⟩
            case measure => rw [HI.out]; simp [intOf]; omega
          · have hn2 := fun w => neq_key new.key ek w
            rw [← side_t ek new] at hn2
            unfold Pn.key at hn2
            simp only at hn2
            have heq := fun w => eq_pin old new w
            have HMF := Lib.hid (HMM.out.trans (show mayE ⟨ek, true, true, old, new⟩ = (!(sameP old new) && (sideB ek true old && sideB ek true new)) from rfl))
            clear HMM
            generalize sameP old new = b0 at heq HMF
            generalize sideB ek true old = s1 at hn1 HMF
            generalize sideB ek true new = s2 at hn2 HMF
            cases b0
            · have HME := Lib.hid (HMF.out.trans (Bool.true_and _))
              cases s1
              · have HMM := Lib.hid (HME.out.trans (Bool.false_and _))
                go_wp2
                go_ret
                exact ⟨ret_bool (mayEds_no hlt (HMM.out.trans (by first | rfl | simp))).symm, HBX.out⟩
              cases s2
              · have HMM := Lib.hid (HME.out.trans (Bool.and_false _))
                go_wp2
                go_ret
                exact ⟨ret_bool (mayEds_no hlt (HMM.out.trans (by first | rfl | simp))).symm, HBX.out⟩
              go_wp2
              go_roundw
              case rel => exact ⟨k + 1, by omega, by rw [HI.out]; go_num, HYES.out HME.out, HBX.out⟩
              case measure => rw [HI.out]; simp [intOf]; omega
            · have HMM := Lib.hid (HMF.out.trans (Bool.false_and _))
              go_wp2
              go_ret
              exact ⟨ret_bool (mayEds_no hlt (HMM.out.trans (by first | rfl | simp))).symm, HBX.out⟩
    · have hlt' : (l.length : Int) ≤ I := by have := HI.out; omega
      have HF := Lib.hid (show mayEds l = true from mayEds_iff.2 fun i hi => HALL.out i (by omega))
      clear hb hI hIt
      go_wp2
      go_ret
      exact ⟨ret_bool HF.out.symm, HB.out⟩
end Go.Proofs.Ytoibanffaebllaa
