/-
  Layer 17: the contract of cnf.size. Own work.
-/
import Derived.Test.YtgfgajekegfdgaaMap17
namespace Go.Proofs.Ytgfgajekegfdgaa
set_option linter.unusedVariables false
set_option linter.unusedSimpArgs false
open Go.RowKit

/-- how many of the first k are of the key q -/
def cntK (its : List It) (q : Ky) (k : Nat) : Nat := sumN (fun j => if ((its[j]?).map fun y => sameK y.k q) = some true then 1 else 0) k
def cntF (its : List It) (k : Nat) : Ky → Option Int := fun q => if cntK its q k = 0 then none else some (cntK its q k : Nat)
theorem cntK_le (its : List It) (q : Ky) (k : Nat) : cntK its q k ≤ k := by
  have := sumN_le (f := fun j => if ((its[j]?).map fun y => sameK y.k q) = some true then 1 else 0) (b := 1) k (fun i _ => by split <;> omega)
  unfold cntK; omega
theorem cntB_is {its : List It} {k : Nat} {x : It} (hx : its[k]? = some x) : cntB its k = cntK its x.k k := by
  unfold cntB cntK
  refine sumN_congr k fun j hj => ?_
  have hk := (List.getElem?_eq_some_iff.1 hx).1
  obtain ⟨y, hy⟩ : ∃ y, its[j]? = some y := ⟨_, List.getElem?_eq_getElem (by omega)⟩
  rw [sameAt_is hy hx, hy, sameK_comm]
  simp
theorem cntF_start (its : List It) : cntF its 0 = fun _ => none := rfl
theorem cntF_get (its : List It) (q : Ky) (k : Nat) : (cntF its k q).getD 0 = (cntK its q k : Nat) := by
  unfold cntF
  split
  · rename_i h; rw [h]; rfl
  · rfl
theorem cntF_step {its : List It} {k : Nat} {x : It} (hx : its[k]? = some x) : putN (cntF its k) x.k ((cntK its x.k k : Nat) + 1) = cntF its (k + 1) := by
  funext q
  unfold putN cntF
  have hs : cntK its q (k + 1) = cntK its q k + if sameK x.k q = true then 1 else 0 := by
    unfold cntK; rw [sumN, hx]; simp
  by_cases h : sameK q x.k = true
  · have hq := sameK_eq.1 h
    subst hq
    rw [if_pos (sameK_self _), hs, if_pos (sameK_self _), if_neg (by omega)]; rfl
  · have h2 : ¬ sameK x.k q = true := by rw [sameK_comm]; exact h
    rw [if_neg h, hs, if_neg h2]; rfl
theorem sum_cnt_le (its : List It) (k : Nat) (hk : k ≤ 2000) : sumN (cntB its) k ≤ 4000000 := by
  have := sumN_le (f := cntB its) (b := 2000) k (fun i hi => by have := cntB_le its i; omega)
  have h2 : k * 2000 ≤ 2000 * 2000 := Nat.mul_le_mul_right _ hk
  omega
def KyS (N : Nat) (k : Ky) (w : World) : Prop := w.cell? ⟨N, 0, none⟩ = some (.string k.g) ∧ w.cell? ⟨N, 1, none⟩ = some (.string k.a) ∧ w.cell? ⟨N, 2, none⟩ = some (.string k.t) ∧ w.cell? ⟨N, 3, none⟩ = some (.string k.c)
theorem KyS.grown {N b : Nat} {k : Ky} {w w' : World} (h : KyS N k w) (hg : w.grownBy w' (some b)) (hne : N ≠ b) : KyS N k w' := by
  have hN : N < w.heap.size := World.block_lt_of_cell? w ⟨N, 0, none⟩ h.1
  have hb : w'.heap[N]? = w.heap[N]? := hg.block N hN (fun e => hne (Option.some.inj e))
  have hc := fun o => World.cell?_of_block (w := w) (w' := w') (a := ⟨N, o, none⟩) hb
  exact ⟨(hc 0).trans h.1, (hc 1).trans h.2.1, (hc 2).trans h.2.2.1, (hc 3).trans h.2.2.2⟩
set_option maxRecDepth 100000 in
set_option maxHeartbeats 4000000 in
theorem size_any (d : Dl) (vi vw : Value) (hf : fewW d.ws) (hi : d.its.length ≤ 2000) (hw : d.ws.length ≤ 2000) (hok : ∀ x ∈ d.its, okIt x) (w : World) (hr : RdD w vi vw d) :
    Calls Try.prog 22 #[dealV vi vw d.root] w fun e w' => e = .returned (.int .i64 (sizeD d)) ∧ Below w.heap.size w w' := by
  obtain ⟨ai, ci, aw, cw, rfl, rfl⟩ := hr.shape
  have hliI : (d.its.length : Int) ≤ 2000 := by omega
  have hlwI : (d.ws.length : Int) ≤ 2000 := by omega
  have hb0 : Below w.heap.size w (w.alloc (.cells #[.slice ai d.its.length ci, .slice aw d.ws.length cw, .int .i64 d.root] 25)) := (Below.refl w.heap.size w).alloc (Nat.le_refl _) _
  have hk := DlIn.new w (.slice ai d.its.length ci) (.slice aw d.ws.length cw) d.root
  have HR := Lib.hid (hr.below hb0 (Nat.le_refl _))
  have HB0 := Lib.hid hb0
  have HOK := Lib.hid hok
  have HF := Lib.hid (lenTo_le hf)
  have hmm := @run_makeMap Try.prog
  clear hr hb0 hok hf
  unfold dealV
  go_enter Try.func22, Try.ntmps22
  go_upto_region 1 with fail
  generalize w.alloc (.cells #[.slice ai d.its.length ci, .slice aw d.ws.length cw, .int .i64 d.root] 25) = w1 at hk HR HB0 ⊢
  generalize w.heap.size = D at hk ⊢
  have HK := Lib.hid hk
  obtain ⟨x0, x1, x2⟩ := hk
  go_wp2_with fail
  go_loop [3, 12] (fun n i => ∃ k : Nat, k ≤ d.ws.length ∧ i = .int .i64 k ∧ n = .int .i64 ((1 + lenTo d.ws k : Nat) : Int)) (fun _ i => d.ws.length - (intOf i).toNat)
  case atStart => exact ⟨0, by omega, rfl, rfl⟩
  case round =>
    obtain ⟨k, hkl, rfl, rfl⟩ := hrel
    have hlk := HF.out k
    by_cases hlt : k < d.ws.length
    · obtain ⟨x, hx⟩ : ∃ x, d.ws[k]? = some x := ⟨_, List.getElem?_eq_getElem hlt⟩
      obtain ⟨b, r, rfl, hc, hrx⟩ := RdOf.elem HR.out.w hx
      obtain ⟨xa, xc, rfl⟩ := RdOf.shape hrx
      have HS := Lib.hid (lenTo_at hx)
      have hl2 := HF.out (k + 1)
      rw [lenTo_at hx] at hl2
      have hxl : (x.length : Int) ≤ 30000 := by omega
      obtain ⟨M, hM⟩ : ∃ M : Int, M = ((1 + lenTo d.ws k : Nat) : Int) := ⟨_, rfl⟩
      have hM0 : 0 ≤ M := by omega
      have hM1 : M ≤ 30000 := by omega
      rw [← hM]
      have HM := Lib.hid hM
      clear hrx hx hM hlk hl2
      go_wp2
      exact ⟨⟨k + 1, by omega, by go_num, by rw [HM.out, HS.out]; go_num⟩, by simp [intOf]; omega⟩
    · have hle : (d.ws.length : Int) ≤ k := by omega
      have hkk : k = d.ws.length := by omega
      rw [hkk]
      rw [hkk] at hlk
      clear hkk
      obtain ⟨M, hM⟩ : ∃ M : Int, M = ((1 + lenTo d.ws d.ws.length : Nat) : Int) := ⟨_, rfl⟩
      have hM0 : 0 ≤ M := by omega
      have hM1 : M ≤ 30000 := by omega
      rw [← hM]
      have HM := Lib.hid hM
      have HN0 := Lib.hid (Nums.made w1)
      have HBM := Lib.hid ((Below.refl w1.heap.size w1).alloc (Nat.le_refl _) (.map #[] 0))
      clear hM hlk
      go_upto_region 8 with fail
      generalize w1.alloc (.map #[] 0) = w2 at HN0 HBM ⊢
      obtain ⟨MB, hMB⟩ : ∃ b, b = w1.heap.size := ⟨_, rfl⟩
      rw [← hMB] at HN0 ⊢
      have HMB := Lib.hid hMB
      clear hMB x0 x1 x2 hmm
      obtain ⟨x0, x1, x2⟩ := HK.out.below HBM.out (Nat.le_refl _)
      go_wp2_with fail
      go_loopw [3, 25] (fun n i wr => ∃ k : Nat, k ≤ d.its.length ∧ i = .int .i64 k ∧ n = .int .i64 (M + (sumN (cntB d.its) k : Nat)) ∧ Nums wr MB k (cntF d.its k) ∧ Below w1.heap.size w1 wr) (fun _ i _ => d.its.length - (intOf i).toNat)
      case atStart => exact ⟨0, by omega, rfl, by simp [sumN], HN0.out, HBM.out⟩
      case round =>
        obtain ⟨k, hkl, rfl, rfl, hnums, hb⟩ := hrel
        have HB := Lib.hid hb
        have hsc := sum_cnt_le d.its k (by omega)
        have hscI : ((sumN (cntB d.its) k : Nat) : Int) ≤ 4000000 := by omega
        by_cases hlt : k < d.its.length
        · obtain ⟨x, hx⟩ : ∃ x, d.its[k]? = some x := ⟨_, List.getElem?_eq_getElem hlt⟩
          have hrI := HR.out.i.below hb (Nat.le_refl _)
          obtain ⟨b, rfl, hit⟩ := RdI.elem hrI hx
          obtain ⟨hkx, hkv⟩ : okKy x.k ∧ x.v.size ≤ 9223372036854775807 := by
            obtain ⟨p0, p1, p2, p3, p4⟩ := HOK.out x (List.mem_of_getElem? hx)
            exact ⟨⟨by unfold maxLen; exact p0, by unfold maxLen; exact p1, by unfold maxLen; exact p2, by unfold maxLen; exact p3⟩, p4⟩
          have hcb := cntB_is hx
          have hcl := cntK_le d.its x.k k
          have hst := cntF_step hx
          have hcg := cntF_get d.its x.k k
          have hss : ((sumN (cntB d.its) (k + 1) : Nat) : Int) = (sumN (cntB d.its) k : Nat) + ((cntK d.its x.k k : Nat) : Int) := by rw [sumN, hcb]; omega
          generalize cntK d.its x.k k = C at hcb hcl hst hcg hss
          have HSS := Lib.hid hss
          have HST := Lib.hid hst
          obtain ⟨CI, hCI⟩ : ∃ c : Int, c = (C : Int) := ⟨_, rfl⟩
          have hC0 : 0 ≤ CI := by omega
          have hC1 : CI ≤ 2000 := by omega
          rw [← hCI] at hcg
          have HCI := Lib.hid hCI
          have HKX := Lib.hid hkx
          have hbA : Below wr.heap.size wr (wr.alloc (.cells #[.string x.k.g, .string x.k.a, .string x.k.t, .string x.k.c, .string x.v] 50)) := (Below.refl _ _).alloc (Nat.le_refl _) _
          have HBA := Lib.hid (hb.trans (hbA.mono hb.size))
          have HNA := Lib.hid (hnums.alloc (.cells #[.string x.k.g, .string x.k.a, .string x.k.t, .string x.k.c, .string x.v] 50))
          have hrow := heap_alloc_new wr (.cells #[.string x.k.g, .string x.k.a, .string x.k.t, .string x.k.c, .string x.v] 50)
          have HNE := Lib.hid (show wr.heap.size ≠ MB from by have := hnums.lt; omega)
          have hSM : (0 : Int) ≤ (sumN (cntB d.its) k : Nat) := by omega
          generalize ((sumN (cntB d.its) k : Nat) : Int) = SM at hSM hscI HSS ⊢
          obtain ⟨i0, i1, i2, i3, i4⟩ := hit
          clear hnums hb hx hrI hkx hkv hcb hss hst hCI hbA hsc hcl
          go_upto_region 11 with fail
          generalize wr.alloc (.cells #[.string x.k.g, .string x.k.a, .string x.k.t, .string x.k.c, .string x.v] 50) = wa at HBA HNA hrow ⊢
          generalize wr.heap.size = N1 at HNE hrow ⊢
          clear i0 i1 i2 i3 i4
          have k0 : wa.cell? ⟨N1, 0, none⟩ = some (.string x.k.g) := by rw [cell_of_row wa N1 0 _ _ (0, 0) hrow]; rfl
          have k1 : wa.cell? ⟨N1, 1, none⟩ = some (.string x.k.a) := by rw [cell_of_row wa N1 1 _ _ (0, 0) hrow]; rfl
          have k2 : wa.cell? ⟨N1, 2, none⟩ = some (.string x.k.t) := by rw [cell_of_row wa N1 2 _ _ (0, 0) hrow]; rfl
          have k3 : wa.cell? ⟨N1, 3, none⟩ = some (.string x.k.c) := by rw [cell_of_row wa N1 3 _ _ (0, 0) hrow]; rfl
          have hlook := HNA.out.look HKX.out
          rw [hcg] at hlook
          have HCG := Lib.hid hcg
          clear hrow hcg
          go_upto_region 12 with fail
          obtain ⟨st, w3, r1, r2, hg3, r4⟩ := HNA.out.drew.entry HKX.out (by omega)
          rw [HCG.out] at r1 r2
          unfold goInt at r1
          obtain ⟨w4, r5, hn4, hg4⟩ := r4 w3 rfl (CI + 1) (by omega) (by omega)
          unfold goInt at r5
          have hlookd : (Instr.lookup 59 (.map (some MB)) (.agg #[.string x.k.g, .string x.k.a, .string x.k.t, .string x.k.c]) false).run Try.prog wa.drew = .ok (.int .i64 CI) wa.drew := by
            have := HNA.out.drew.look HKX.out
            rwa [HCG.out] at this
          have HL := Lib.hid hlookd
          have HL3 := Lib.hid r2
          have HE := Lib.hid r1
          have HES := Lib.hid r5
          have hS1 : KyS N1 x.k wa.drew := ⟨k0, k1, k2, k3⟩
          have hS3 := hS1.grown hg3 HNE.out
          have hS4 := hS3.grown hg4 HNE.out
          have HS3 := Lib.hid hS3
          have HS4 := Lib.hid hS4
          have HN4 := Lib.hid (show Nums w4 MB (k + 1) (cntF d.its (k + 1)) from by rw [HCI.out, HST.out] at hn4; exact hn4)
          have HB4 := Lib.hid (show Below w1.heap.size w1 w4 from by
            have hbd : Below w1.heap.size w1 wa.drew := HBA.out.drew
            have h3 := hbd.grown hg3 hbd.size (fun q hq => by cases hq; rw [HMB.out]; exact Nat.le_refl _)
            exact h3.grown hg4 h3.size (fun q hq => by cases hq; rw [HMB.out]; exact Nat.le_refl _))
          have hadd : IntKind.i64.wrap (CI + 1) = CI + 1 := IntWalk.i64_in _ (by omega)
          clear hlook hlookd r1 r2 r4 r5 hn4 hg3 hg4 hS3 hS4 k0 k1 k2 k3
          refine wp_region_held_drew (S := (KyS N1 x.k)) (by kernel_rfl) (by (try dsimp only); exact hS1) (fun hHeld => ?_)
          clear hS1
          refine wpAnyH_take (i := 0) (v := ?_) (by (simp only [List.getElem?_toArray, List.getElem?_cons_succ, List.getElem?_cons_zero]; rfl)) (by kernel_rfl) (by kernel_rfl) (by kernel_rfl) (by intro _ _ _ h; exact h) (Or.inl ⟨by rfl, ?_⟩) (by assumption) ?_
          rotate_left
          · (intro w hSw; (try dsimp only at hSw); go_simp; try (with_reducible rfl))
          simp only [Act.put, List.setIfInBounds_toArray, List.set_cons_zero, List.set_cons_succ]
          refine wpAnyH_take (i := 1) (v := ?_) (by (simp only [List.getElem?_toArray, List.getElem?_cons_succ, List.getElem?_cons_zero]; rfl)) (by kernel_rfl) (by kernel_rfl) (by kernel_rfl) (by intro _ _ _ h; exact h) (Or.inl ⟨by rfl, ?_⟩) (by assumption) ?_
          rotate_left
          · (intro w hSw; (try dsimp only at hSw); go_simp; try (with_reducible rfl))
          simp only [Act.put, List.setIfInBounds_toArray, List.set_cons_zero, List.set_cons_succ]
          refine wpAnyH_take (i := 2) (v := .agg #[.string x.k.g, .string x.k.a, .string x.k.t, .string x.k.c]) (by (simp only [List.getElem?_toArray, List.getElem?_cons_succ, List.getElem?_cons_zero]; rfl)) (by kernel_rfl) (by kernel_rfl) (by kernel_rfl) (by intro _ _ _ h; exact h) (Or.inl ⟨by rfl, ?_⟩) (by assumption) ?_
          · (intro w hSw; obtain ⟨q0, q1, q2, q3⟩ := hSw; go_simp; try (with_reducible rfl))
          simp only [Act.put, List.setIfInBounds_toArray, List.set_cons_zero, List.set_cons_succ]
          refine wpAnyH_ready (rs := [3, 5]) (by kernel_rfl) (by simp) ?_
          refine AllReadyH.cons (by (simp only [List.getElem?_toArray, List.getElem?_cons_succ, List.getElem?_cons_zero]; rfl)) (fun K hK => ?_) (AllReadyH.cons (by (simp only [List.getElem?_toArray, List.getElem?_cons_succ, List.getElem?_cons_zero]; rfl)) (fun K hK => ?_) AllReadyH.nil)
          · have hop := HL.out
            go_simp
            clear hop
            refine hK.out _ _ hHeld (fun hHeld => ?_)
            clear hK K
            try simp only [Act.put, List.setIfInBounds_toArray, List.set_cons_zero, List.set_cons_succ]
            refine wpAnyH_take (i := 4) (v := ?_) (by (simp only [List.getElem?_toArray, List.getElem?_cons_succ, List.getElem?_cons_zero]; rfl)) (by kernel_rfl) (by kernel_rfl) (by kernel_rfl) (by intro _ _ _ h; exact h) (Or.inl ⟨by rfl, ?_⟩) (by assumption) ?_
            rotate_left
            · (intro w hSw; (try dsimp only at hSw); go_simp; try (with_reducible rfl))
            simp only [Act.put, List.setIfInBounds_toArray, List.set_cons_zero, List.set_cons_succ]
            refine wpAnyH_ready (rs := [5]) (by kernel_rfl) (by simp) ?_
            refine AllReadyH.cons (by (simp only [List.getElem?_toArray, List.getElem?_cons_succ, List.getElem?_cons_zero]; rfl)) (fun K hK => ?_) AllReadyH.nil
            have hop := HE.out
            go_simp
            clear hop
            refine hK.out _ _ HS3.out (fun hHeld => ?_)
            clear hK K
            try simp only [Act.put, List.setIfInBounds_toArray, List.set_cons_zero, List.set_cons_succ]
            refine wpAnyH_take (i := 6) (v := ?_) (by (simp only [List.getElem?_toArray, List.getElem?_cons_succ, List.getElem?_cons_zero]; rfl)) (by kernel_rfl) (by kernel_rfl) (by kernel_rfl) (by intro _ _ _ h; exact h) (Or.inl ⟨by rfl, ?_⟩) (by assumption) ?_
            rotate_left
            · (intro w hSw; (try dsimp only at hSw); go_simp; try (with_reducible rfl))
            simp only [Act.put, List.setIfInBounds_toArray, List.set_cons_zero, List.set_cons_succ]
            refine wpAnyH_ready (rs := [7]) (by kernel_rfl) (by simp) ?_
            refine AllReadyH.cons (by (simp only [List.getElem?_toArray, List.getElem?_cons_succ, List.getElem?_cons_zero]; rfl)) (fun K hK => ?_) AllReadyH.nil
            have hop := HES.out
            go_simp
            clear hop
            refine hK.out _ _ HS4.out (fun hHeld => ?_)
            clear hK K
            try simp only [Act.put, List.setIfInBounds_toArray, List.set_cons_zero, List.set_cons_succ]
            refine wpAnyH_done (by kernel_rfl) ?_ _
            go_wp2
            go_roundw
            case rel => exact ⟨k + 1, by omega, by go_num, by rw [HSS.out, HCI.out]; go_num, HN4.out, HB4.out⟩
            case measure => simp [intOf]; omega
          · have hop := HE.out
            go_simp
            clear hop
            refine hK.out _ _ HS3.out (fun hHeld => ?_)
            clear hK K
            try simp only [Act.put, List.setIfInBounds_toArray, List.set_cons_zero, List.set_cons_succ]
            refine wpAnyH_take (i := 6) (v := ?_) (by (simp only [List.getElem?_toArray, List.getElem?_cons_succ, List.getElem?_cons_zero]; rfl)) (by kernel_rfl) (by kernel_rfl) (by kernel_rfl) (by intro _ _ _ h; exact h) (Or.inl ⟨by rfl, ?_⟩) (by assumption) ?_
            rotate_left
            · (intro w hSw; (try dsimp only at hSw); go_simp; try (with_reducible rfl))
            simp only [Act.put, List.setIfInBounds_toArray, List.set_cons_zero, List.set_cons_succ]
            refine wpAnyH_ready (rs := [3]) (by kernel_rfl) (by simp) ?_
            refine AllReadyH.cons (by (simp only [List.getElem?_toArray, List.getElem?_cons_succ, List.getElem?_cons_zero]; rfl)) (fun K hK => ?_) AllReadyH.nil
            have hop := HL3.out
            go_simp
            clear hop
            refine hK.out _ _ hHeld (fun hHeld => ?_)
            clear hK K
            try simp only [Act.put, List.setIfInBounds_toArray, List.set_cons_zero, List.set_cons_succ]
            refine wpAnyH_take (i := 4) (v := ?_) (by (simp only [List.getElem?_toArray, List.getElem?_cons_succ, List.getElem?_cons_zero]; rfl)) (by kernel_rfl) (by kernel_rfl) (by kernel_rfl) (by intro _ _ _ h; exact h) (Or.inl ⟨by rfl, ?_⟩) (by assumption) ?_
            rotate_left
            · (intro w hSw; (try dsimp only at hSw); go_simp; try (with_reducible rfl))
            simp only [Act.put, List.setIfInBounds_toArray, List.set_cons_zero, List.set_cons_succ]
            refine wpAnyH_ready (rs := [7]) (by kernel_rfl) (by simp) ?_
            refine AllReadyH.cons (by (simp only [List.getElem?_toArray, List.getElem?_cons_succ, List.getElem?_cons_zero]; rfl)) (fun K hK => ?_) AllReadyH.nil
            have hop := HES.out
            go_simp
            clear hop
            refine hK.out _ _ HS4.out (fun hHeld => ?_)
            clear hK K
            try simp only [Act.put, List.setIfInBounds_toArray, List.set_cons_zero, List.set_cons_succ]
            refine wpAnyH_done (by kernel_rfl) ?_ _
            go_wp2
            go_roundw
            case rel => exact ⟨k + 1, by omega, by go_num, by rw [HSS.out, HCI.out]; go_num, HN4.out, HB4.out⟩
            case measure => simp [intOf]; omega
        · have hle : (d.its.length : Int) ≤ k := by omega
          have hkk : k = d.its.length := by omega
          rw [hkk]
          have HSZ := Lib.hid (show ((sizeD d : Nat) : Int) = M + (sumN (cntB d.its) d.its.length : Nat) from by rw [HM.out]; unfold sizeD; omega)
          rw [hkk] at hscI
          generalize ((sumN (cntB d.its) d.its.length : Nat) : Int) = SM at hscI HSZ ⊢
          clear hnums hb hkk
          go_wp2
          go_ret
          exact ⟨ret_int HSZ.out.symm, HB0.out.trans (HB.out.mono HB0.out.size)⟩
end Go.Proofs.Ytgfgajekegfdgaa
