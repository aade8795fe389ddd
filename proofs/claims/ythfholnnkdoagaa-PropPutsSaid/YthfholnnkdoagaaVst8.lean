/-
  Layer 8: the walk of a property's value. Own work.
-/
import Derived.Test.YthfholnnkdoagaaVal8
import Derived.Deep.AppendLies
namespace Go.Proofs.Ythfholnnkdoagaa
set_option linter.unusedVariables false
set_option linter.unusedSimpArgs false
open Go.RowKit

theorem step_way {ops : Array Oper} {E : Prop} {o : Oper} {a : Act} {K : Act → World → Prop} {Q : Exit → Act → World → Prop} (s x : Operand) (hgd : o.guard = none)
    (ho : o.op = .call { callee := .builtin .append, args := #[s, x], argTypes := #[89, 89] }) (w0 : World) (base n : Nat) (v : Value) (xs : List Value) (y : Int) (hs : a.eval s = v) (hx : a.eval x = .slice (some ⟨w0.heap.size, 0, none⟩) 1 1)
    (hown : w0.ownsRow base 3 1 v n xs) (hn : n ≤ 100000) (hbase : base ≤ w0.heap.size)
    (hk : ∀ v' w', w'.ownsRow base 3 1 v' (n + 1) (xs ++ [.int .i64 y]) → w'.ownsRow base 3 1 v n xs → w0.grownBy w' v.ownBlock → (v'.ownBlock = v.ownBlock ∨ ∀ k, v'.ownBlock = some k → w0.heap.size ≤ k) → K (a.put o.dst v') w') :
    if Region.wanted o (yielded ops a.tmps) = true then Oper.wp Try.prog o a (w0.alloc (.cells #[.int .i64 y] 3)) K Q else E := by
  have hw : Region.wanted o (yielded ops a.tmps) = true := by simp [Region.wanted, hgd]
  rw [if_pos hw]
  obtain ⟨v', w', hr, h1, h2, h3, h4⟩ := run_app_way w0 o.type base n v xs y hown hn hbase
  unfold Oper.wp execOp
  simp only [ho, resolve, invoke, builtin, Sem.run_bind, Sem.run_pure, Result.andThen_ok, List.map_toArray, List.map_cons, List.map_nil, hs, hx, hr]
  exact hk v' w' h1 h2 h3 h4
/-- one text more behind a row of texts -/
theorem app_one {ops : Array Oper} {rest : List Oper} {o : Oper} {a : Act} {Q : Exit → Act → World → Prop} (hgd : o.guard = none) (s x : Operand)
    (ho : o.op = .call { callee := .builtin .append, args := #[s, x], argTypes := #[23, 23] }) (w2 : World) (u : ByteArray) {base n : Nat} {v : Value} {xs : List Value} (hsv : a.eval s = v) (hx : a.eval x = .slice (some ⟨w2.heap.size, 0, none⟩) 1 1)
    (hown : w2.ownsRow base 9 1 v n xs) (hn : n ≤ 100000) (hbase : base ≤ w2.heap.size)
    (hK : ∀ g cap w', w'.ownsRow base 9 1 (.slice (some ⟨g, 0, none⟩) (n + 1) cap) (n + 1) (xs ++ [.string u]) → w2.grownBy w' v.ownBlock → (v.ownBlock = some g ∨ w2.heap.size ≤ g) → wpList Try.prog ops Q rest (a.put o.dst (.slice (some ⟨g, 0, none⟩) (n + 1) cap)) w') :
    wpList Try.prog ops Q (o :: rest) a (w2.alloc (.cells #[.string u] 9)) := by
  obtain ⟨i, hi, hz, hsize, hby⟩ := info_parts str8_info
  refine wpList_append_lies _ hgd s x 23 ho base 9 i _ 1 16 Try.underlying23 hi hz hsize hby rfl (by omega) v n xs hsv (hown.alloc _) ⟨w2.heap.size, 0, none⟩ 1 1 [.string u] hx rfl (cell_one_new w2 _ _) (by simp [Value.oneCell']) (by omega) (by simp only [maxLen]; omega) (by omega) (by simp; omega) _ rfl ?_
  intro g cap w' h2 h3 h4 h5
  refine hK g cap w' h2 ⟨h3.os, h3.tape, h3.output, Nat.le_trans (by simp) h3.size, fun k hk hne => (h3.block k (by simp; omega) hne).trans (Below.heap_alloc _ _ _ hk)⟩ ?_
  rcases h4 with h4 | h4
  · exact .inl h4
  · exact .inr (by rw [h4]; simp)
theorem tab_kept {w w' : World} {T base n : Nat} {cs : Array Value} {v : Value} {xs : List Value} (h : w.heap[T]? = some (Obj.cells cs 75 (0, 0))) (ho : w.ownsRow base 9 1 v n xs) (hg : w.grownBy w' v.ownBlock) : w'.heap[T]? = some (Obj.cells cs 75 (0, 0)) :=
  (hg.block T (Array.getElem?_eq_some_iff.1 h).1 (fun he => by
    obtain ⟨c2, h1, _⟩ := own_ty ho he.symm
    rw [h] at h1; cases h1)).trans h
theorem add_q (g q : Nat) : (⟨g, 0, none⟩ : Addr).add q = ⟨g, q, none⟩ := by unfold Addr.add; split <;> simp_all
theorem own8_base {S : Tb} {U D : List Pp} {X : Nat → Prop} {w : World} (h : St S U D X w) : S.B ≤ w.heap.size := by
  obtain ⟨vv, h1, _⟩ := h
  have := h1.low.1
  have := (Array.getElem?_eq_some_iff.1 h1.tab).1
  omega
set_option maxHeartbeats 4000000 in
set_option maxRecDepth 100000 in
theorem value8_step (S : Tb) (U : List Pp) (hU : UOk U) (k : Nat) (way : List Nat) (wayN : List (List UInt8)) (vw : Value) (hw : WayOk U way wayN) (hl : way.length ≤ 32)
    (HV : ∀ j p vw', U[j]? = some p → way.length < 32 → ValC S U k (way ++ [j]) (wayN ++ [p.1]) vw') : ValC S U (k + 1) way wayN vw := by
  intro X D w j p hj hq hst hwy
  obtain ⟨va, vc, rfl⟩ : ∃ a c, vw = .slice a way.length c := by
    rcases hwy.1.2 with ⟨rfl, h0⟩ | ⟨g, cap, cur, rfl, _⟩
    · exact ⟨none, 0, by rw [h0]⟩
    · exact ⟨_, _, rfl⟩
  have hbase := own8_base hst
  obtain ⟨vv, hv, hX⟩ := hst
  have hjl : j < U.length := (List.getElem?_eq_some_iff.1 hj).1
  have hUl := hU.len
  have hnm := hU.name p (List.mem_of_getElem? hj)
  have hgU := get_at hU hj
  obtain ⟨aP, capP, hvp⟩ := RdSl.shape (RdPs.of_own hv.props)
  have hprops := RdPs.of_own hv.props
  rw [hvp] at hprops
  obtain ⟨a1, e1, p0, p1⟩ := RdSl.elem hprops (prs_at hj)
  subst e1
  have c0 : w.cell? ⟨S.T, 0, none⟩ = some S.vp := by rw [cell_of_row _ _ 0 _ _ (0, 0) hv.tab]; rfl
  rw [hvp] at c0
  have hpl : (prs U).length = U.length := prs_len U
  have hjI : (j : Int) < ((prs U).length : Int) := by rw [hpl]; omega
  have hjI2 : (j : Int) ≤ 1000 := by omega
  dsimp only at p0 p1
  generalize hLU : (prs U).length = LU at hjI c0
  have HLU := Lib.hid hLU
  have hb0 : Below w.heap.size w (w.alloc (.cells #[.string (str p.1), .string (str p.2)] 33)) := (Below.refl w.heap.size w).alloc (Nat.le_refl _) _
  have hnew := heap_alloc_new w (.cells #[.string (str p.1), .string (str p.2)] 33)
  have HB0 := Lib.hid hb0
  have HNE := Lib.hid (show (Value.slice va way.length vc).ownBlock ≠ some w.heap.size from fun e => by
    obtain ⟨cs, h1, _⟩ := own_ty hwy.1 e
    have := (Array.getElem?_eq_some_iff.1 h1).1
    omega)
  have HST := Lib.hid (show St S U D X w from ⟨vv, hv, hX⟩)
  have HWY := Lib.hid hwy
  have HQ := Lib.hid hq
  have HJ := Lib.hid hj
  have HVI := Lib.hid hvp
  have HVV := Lib.hid HV
  have HGU := Lib.hid hgU
  generalize hRES : valueM8 U (k + 1) wayN p.1 D = RES
  have HR := Lib.hid hRES
  clear hRES hv hX hpl hLU hb0 hwy hq hj hvp HV hgU hprops
  go_enter Try.func40, Try.ntmps40
  go_upto_region 2 with fail
  generalize w.alloc (.cells #[.string (str p.1), .string (str p.2)] 33) = w1 at hnew HB0 ⊢
  generalize hP : w.heap.size = P0 at hnew ⊢
  have r0 : w1.cell? ⟨P0, 0, none⟩ = some (.string (str p.1)) := by rw [cell_of_row w1 P0 0 _ _ (0, 0) hnew]; rfl
  have r1 : w1.cell? ⟨P0, 1, none⟩ = some (.string (str p.2)) := by rw [cell_of_row w1 P0 1 _ _ (0, 0) hnew]; rfl
  have HST1 := Lib.hid (HST.out.below HB0.out)
  have HWY1 := Lib.hid (HWY.out.below HB0.out)
  have HK1 := Lib.hid (show Kp S X w w1 from Kp.of_below HB0.out)
  have HC := Lib.hid (contains_way HWY1.out (by omega) j)
  have HP := Lib.hid hP
  have hB1 : S.B ≤ w1.heap.size := Nat.le_trans hbase HB0.out.size
  have HNW := Lib.hid hnew
  clear c0 p0 p1 hnew hP HST HWY HB0
  go_wp2_with fail
  refine HC.out.mono ?_
  rintro e w2 ⟨rfl, hw2⟩
  obtain rfl : w1 = w2 := hw2.symm
  clear HC
  by_cases hin : j ∈ way
  · have hpn : p.1 ∈ wayN := (hw.mem j p HJ.out).1 hin
    rw [decide_eq_true hin]
    have HF := Lib.hid (show ValP S U X way (.slice va way.length vc) RES w (bad8 22 p.1) w1 by
      rw [← HR.out, valueM8, if_pos hpn]
      exact ⟨HST1.out, HWY1.out, HK1.out, rfl⟩)
    clear HR HST1 HWY1 HK1
    go_wp2
    exact ⟨rfl, HF.out⟩
  · have hpn : p.1 ∉ wayN := fun h => hin ((hw.mem j p HJ.out).2 h)
    rw [decide_eq_false hin]
    obtain ⟨vv, hv, hX⟩ := HST1.out
    have t2 : w1.cell? ⟨S.T, 2, none⟩ = some (.map (some S.Dn)) := by rw [cell_of_row _ _ 2 _ _ (0, 0) hv.tab]; rfl
    have hlk := hv.done.look (t := j) (by omega)
    cases hg : getM D p.1 with
    | some v =>
      obtain ⟨q, hq1, hq2⟩ := done_some HJ.out hg
      rw [hq1] at hlk
      simp only [Option.getD_some, Option.isSome_some] at hlk
      have hql : q < D.length := (List.getElem?_eq_some_iff.1 hq2).1
      have hqI : (q : Int) < (D.length : Int) := by omega
      obtain ⟨g3, cap3, hvv, _, _⟩ := hv.vals.form (by omega)
      have t3 : w1.cell? ⟨S.T, 3, none⟩ = some vv := by rw [cell_of_row _ _ 3 _ _ (0, 0) hv.tab]; rfl
      rw [hvv] at t3
      have t4 : w1.cell? ⟨g3, q, none⟩ = some (.string (str v)) := by
        have h1 := hv.vals.cells (g := g3) (by rw [hvv]; rfl) q (.string (str v)) (by unfold strVs; rw [List.getElem?_map, List.getElem?_map, hq2]; rfl)
        rw [add_q] at h1
        exact h1
      have HF := Lib.hid (show ValP S U X way (.slice va way.length vc) RES w (.returned (.string (str v))) w1 by
        rw [← HR.out, valueM8, if_neg hpn, hg]
        exact ⟨HST1.out, HWY1.out, HK1.out, rfl⟩)
      clear HR HST1 HWY1 HK1 hv hX hg hq1 hq2 hvv
      go_wp2
      go_ret
      exact HF.out
    | none =>
      rw [done_none HJ.out hg] at hlk
      simp only [Option.getD_none, Option.isSome_none] at hlk
      have HG := Lib.hid hg
      clear hv hX hg
      by_cases h32 : 32 ≤ way.length
      · have h32I : (32 : Int) ≤ (way.length : Int) := by omega
        have HF := Lib.hid (show ValP S U X way (.slice va way.length vc) RES w (bad8 2 p.1) w1 by
          rw [← HR.out, valueM8, if_neg hpn, HG.out]
          dsimp only
          rw [if_pos (by rw [← hw.len]; exact h32)]
          exact ⟨HST1.out, HWY1.out, HK1.out, rfl⟩)
        clear HR HST1 HWY1 HK1
        go_wp2
        exact ⟨rfl, HF.out⟩
      · have h32I : ¬ (32 : Int) ≤ (way.length : Int) := by omega
        have hrow := HWY1.out.1
        have HRR := Lib.hid (show RES = (textM8 (fun m D' => valueM8 U k (wayN ++ [p.1]) m D') (fun m => (getM U m).isSome) p.1 (p.2.length + 1) [] p.2 D).bind fun v D' => .ok v (D' ++ [(p.1, v)]) by
          rw [← HR.out, valueM8, if_neg hpn, HG.out]
          dsimp only
          rw [if_neg (by rw [← hw.len]; exact h32), HGU.out]
          rfl)
        clear HR
        have HBD := (Below.refl w1.heap.size w1).drew
        go_upto_region 9 with fail
        refine wp_region_held_drew (S := (fun w' => w'.cell? ⟨P0, 0, none⟩ = some (.string (str p.1)) ∧ w'.cell? ⟨P0, 1, none⟩ = some (.string (str p.2)))) (by kernel_rfl) (by (try dsimp only); exact ⟨r0, r1⟩) (fun hHeld => ?_)
        generalize w1.drew = wd at HBD hHeld ⊢
        have HBD0 := Lib.hid hHeld.1
        have HBD1 := Lib.hid hHeld.2
        refine wpAnyH_take (i := 0) (v := ?_) (by (simp only [List.getElem?_toArray, List.getElem?_cons_succ, List.getElem?_cons_zero]; rfl)) (by kernel_rfl) (by kernel_rfl) (by kernel_rfl) (by intro _ _ _ h; exact h) (Or.inl ⟨by rfl, ?_⟩) (by assumption) ?_
        rotate_left
        · (intro w hSw; (try dsimp only at hSw); go_simp; try (with_reducible rfl))
        simp only [Act.put, List.setIfInBounds_toArray, List.set_cons_zero, List.set_cons_succ]
        refine wpAnyH_take (i := 1) (v := ?_) (by (simp only [List.getElem?_toArray, List.getElem?_cons_succ, List.getElem?_cons_zero]; rfl)) (by kernel_rfl) (by kernel_rfl) (by kernel_rfl) (by intro _ _ _ h; exact h) (Or.inl ⟨by rfl, ?_⟩) (by assumption) ?_
        rotate_left
        · (intro w hSw; (try dsimp only at hSw); go_simp; try (with_reducible rfl))
        simp only [Act.put, List.setIfInBounds_toArray, List.set_cons_zero, List.set_cons_succ]
        refine wpAnyH_take (i := 2) (v := ?_) (by (simp only [List.getElem?_toArray, List.getElem?_cons_succ, List.getElem?_cons_zero]; rfl)) (by kernel_rfl) (by kernel_rfl) (by kernel_rfl) (by intro _ _ _ h; exact h) (Or.inl ⟨by rfl, ?_⟩) (by assumption) ?_
        rotate_left
        · (intro w hSw; (try dsimp only at hSw); obtain ⟨q0, q1⟩ := hSw; go_simp; try (with_reducible rfl))
        simp only [Act.put, List.setIfInBounds_toArray, List.set_cons_zero, List.set_cons_succ]
        refine wpAnyH_take (i := 3) (v := ?_) (by (simp only [List.getElem?_toArray, List.getElem?_cons_succ, List.getElem?_cons_zero]; rfl)) (by kernel_rfl) (by kernel_rfl) (by kernel_rfl) (by intro _ _ _ h; exact h) (Or.inl ⟨by rfl, ?_⟩) (by assumption) ?_
        rotate_left
        · (intro w hSw; (try dsimp only at hSw); go_simp; try (with_reducible rfl))
        simp only [Act.put, List.setIfInBounds_toArray, List.set_cons_zero, List.set_cons_succ]
        refine wpAnyH_take (i := 4) (v := ?_) (by (simp only [List.getElem?_toArray, List.getElem?_cons_succ, List.getElem?_cons_zero]; rfl)) (by kernel_rfl) (by kernel_rfl) (by kernel_rfl) (by intro _ _ _ h; exact h) (Or.inl ⟨by rfl, ?_⟩) (by assumption) ?_
        rotate_left
        · (intro w hSw; (try dsimp only at hSw); obtain ⟨q0, q1⟩ := hSw; go_simp; try (with_reducible rfl))
        simp only [Act.put, List.setIfInBounds_toArray, List.set_cons_zero, List.set_cons_succ]
        refine wpAnyH_take (i := 5) (v := ?_) (by (simp only [List.getElem?_toArray, List.getElem?_cons_succ, List.getElem?_cons_zero]; rfl)) (by kernel_rfl) (by kernel_rfl) (by kernel_rfl) (by intro _ _ _ h; exact h) (Or.inl ⟨by rfl, ?_⟩) (by assumption) ?_
        rotate_left
        · (intro w hSw; (try dsimp only at hSw); go_simp; try (with_reducible rfl))
        simp only [Act.put, List.setIfInBounds_toArray, List.set_cons_zero, List.set_cons_succ]
        refine wpAnyH_take (i := 6) (v := ?_) (by (simp only [List.getElem?_toArray, List.getElem?_cons_succ, List.getElem?_cons_zero]; rfl)) (by kernel_rfl) (by kernel_rfl) (by kernel_rfl) (by intro _ _ _ h; exact h) (Or.inl ⟨by rfl, ?_⟩) (by assumption) ?_
        rotate_left
        · (intro w hSw; (try dsimp only at hSw); go_simp; try (with_reducible rfl))
        simp only [Act.put, List.setIfInBounds_toArray, List.set_cons_zero, List.set_cons_succ]
        have HBA := Lib.hid (show Below wd.heap.size wd (wd.alloc (.cells #[.int .i64 (j : Int)] 3)) from (Below.refl _ _).alloc (Nat.le_refl _) _)
        refine wpAnyH_ready (rs := [7]) (by kernel_rfl) (by simp) ?_
        refine AllReadyH.cons (by (simp only [List.getElem?_toArray, List.getElem?_cons_succ, List.getElem?_cons_zero]; rfl)) (fun K hK => ?_) AllReadyH.nil
        go_simp
        refine hK.out _ _ (by (try dsimp only); exact ⟨(HBA.out.cell (World.block_lt_of_cell? wd _ hHeld.1)).trans hHeld.1, (HBA.out.cell (World.block_lt_of_cell? wd _ hHeld.2)).trans hHeld.2⟩) (fun hHeld => ?_)
        clear hK K
        try simp only [Act.put, List.setIfInBounds_toArray, List.set_cons_zero, List.set_cons_succ]
        have hrowd := (HWY1.out.below HBD).1
        have hsd := HBD.size
        refine wpAnyH_ready (rs := [8]) (by kernel_rfl) (by simp) ?_
        refine AllReadyH.cons (by (simp only [List.getElem?_toArray, List.getElem?_cons_succ, List.getElem?_cons_zero]; rfl)) (fun K hK => ?_) AllReadyH.nil
        refine step_way (.tmp 54) (.tmp 56) rfl rfl wd S.B way.length (.slice va way.length vc) (way.map fun i : Nat => Value.int .i64 (i : Int)) (j : Int) rfl rfl hrowd (by omega) (by omega) ?_
        intro vw' w3 ho1 ho2 hg3 hloc
        have HG3 := Lib.hid hg3
        have hP3 : ∀ c u, wd.cell? ⟨P0, c, none⟩ = some u → w3.cell? ⟨P0, c, none⟩ = some u := fun c u h => by
          have h1 := World.block_lt_of_cell? wd _ h
          have h2 := HG3.out.block P0 h1 (fun e => by
            have h3 := HNE.out
            rw [HP.out] at h3
            exact h3 e.symm)
          unfold World.cell? at h ⊢
          dsimp only at h ⊢
          rw [h2]
          exact h
        refine hK.out _ _ (by (try dsimp only); exact ⟨hP3 _ _ HBD0.out, hP3 _ _ HBD1.out⟩) (fun hHeld => ?_)
        clear hK K hP3
        try simp only [Act.put, List.setIfInBounds_toArray, List.set_cons_zero, List.set_cons_succ]
        have HZ := Lib.hid (show ∀ b, (X b ∨ ((Value.slice va way.length vc).ownBlock = some b ∧ vw'.ownBlock ≠ some b)) → X b ∨ (Value.slice va way.length vc).ownBlock = some b from fun b hb => hb.imp id (fun h => h.1))
        have HST3 := Lib.hid ((HST1.out.below HBD).wayed (HWY1.out.below HBD) HG3.out (fun b => X b ∨ ((Value.slice va way.length vc).ownBlock = some b ∧ vw'.ownBlock ≠ some b)) HZ.out)
        have HO1 := Lib.hid ho1
        have HO2 := Lib.hid ho2
        have HK3 := Lib.hid (show Kp S X w w3 from HK1.out.trans ((Kp.of_below HBD).trans (Kp.wayed (HWY1.out.below HBD) HG3.out)))
        have HWY3 := Lib.hid (show Wy S (fun b => X b ∨ ((Value.slice va way.length vc).ownBlock = some b ∧ vw'.ownBlock ≠ some b)) (way ++ [j]) vw' w3 from by
          refine ⟨by rw [List.length_append, List.map_append]; exact ho1, fun b hb e => ?_⟩
          rcases hb with hb | hb
          · rcases hloc with hl2 | hl2
            · rw [hl2] at e; exact HWY1.out.2 b hb e
            · obtain ⟨vvx, _, hx2⟩ := HST1.out.below HBD
              have := hl2 b e
              have := (hx2 b hb).1
              omega
          · exact hb.2 e)
        have HPUT := Lib.hid (put8_any S U hU k (way ++ [j]) (wayN ++ [p.1]) vw' (HVV.out j p vw' HJ.out (by omega)) (fun b => X b ∨ ((Value.slice va way.length vc).ownBlock = some b ∧ vw'.ownBlock ≠ some b)) D w3 p.2 p.1 (by omega) (HQ.out.start HG.out) HST3.out HWY3.out (by have := HG3.out.size; omega))
        have HNW3 := Lib.hid (show w3.heap[P0]? = some (Obj.cells #[.string (str p.1), .string (str p.2)] 33 (0, 0)) from by
          have h1 := (HBD.block P0 (Array.getElem?_eq_some_iff.1 HNW.out).1).trans HNW.out
          refine (HG3.out.block P0 (Array.getElem?_eq_some_iff.1 h1).1 (fun e => ?_)).trans h1
          have h3 := HNE.out
          rw [HP.out] at h3
          exact h3 e.symm)
        clear ho1 ho2 hg3 hloc hrowd HST3 HWY3 HST1 HZ
        refine wpAnyH_ready (rs := [9]) (by kernel_rfl) (by simp) ?_
        refine AllReadyH.cons (by (simp only [List.getElem?_toArray, List.getElem?_cons_succ, List.getElem?_cons_zero]; rfl)) (fun K hK => ?_) AllReadyH.nil
        go_simp
        refine HPUT.out.mono ?_
        rintro e w4 hval
        have HQ4 := Lib.hid (text_q U (k := k) (owner := p.1) (out := []) (s := p.2) (p.2.length + 1) (HQ.out.start HG.out))
        have HVS := Lib.hid (fun (v : List UInt8) (D2 : List Pp) => @text_len (fun m D' => valueM8 U k (wayN ++ [p.1]) m D') (fun m => (getM U m).isSome) p.1 (p.2.length + 1) [] p.2 v D D2)
        clear HPUT
        generalize textM8 (fun m D' => valueM8 U k (wayN ++ [p.1]) m D') (fun m => (getM U m).isSome) p.1 (p.2.length + 1) [] p.2 D = xv at hval HRR HQ4 HVS
        have HST4 := Lib.hid (hval.1.mono (Y := X) fun b hb => .inl hb)
        have HKV := Lib.hid hval.2.2.1
        have HWY4 := Lib.hid (show Wy S X way (.slice va way.length vc) w4 from ⟨way_back HO2.out (ys := [.int .i64 (j : Int)]) HO1.out (by have := hval.2.1.1; rw [List.length_append, List.map_append] at this; exact this) (fun b hb hb2 => HKV.out.x b (.inr ⟨hb, hb2⟩) (by obtain ⟨cs, h1, _⟩ := own_ty HO2.out hb; exact (Array.getElem?_eq_some_iff.1 h1).1)), HWY1.out.2⟩)
        have HK4 := Lib.hid (show Kp S X w w4 from HK3.out.trans (HKV.out.mono fun b hb => .inl hb))
        have HE := Lib.hid hval.2.2.2
        have HNW4 := Lib.hid (HKV.out.ty P0 _ _ _ HNW3.out (by decide) (by decide) (by decide))
        clear hval HO1 HO2 HK3 HNW3 HWY1 HKV
        cases xv with
        | bad er n D2 =>
          obtain rfl := HE.out
          have HF := Lib.hid (show ValP S U X way (.slice va way.length vc) RES w (bad8 er n) w4 by rw [HRR.out]; exact ⟨HST4.out, HWY4.out, HK4.out, rfl⟩)
          clear HST4 HWY4 HK4 HE HQ4 HVS
          exact ⟨rfl, HF.out⟩
        | ok v D2 =>
          obtain rfl := HE.out
          have HRR := Lib.hid (show RES = .ok v (D2 ++ [(p.1, v)]) from HRR.out)
          have hv4k := HVS.out v D2 rfl
          have HQ4 := Lib.hid (show Q8 U (wayN ++ [p.1]) D2 from HQ4.out)
          have HST4 := Lib.hid (show St S U D2 X w4 from HST4.out)
          refine hK.out _ _ (by (try dsimp only); exact ⟨by rw [cell_of_row w4 P0 0 _ _ (0, 0) HNW4.out]; rfl, by rw [cell_of_row w4 P0 1 _ _ (0, 0) HNW4.out]; rfl⟩) (fun hHeld => ?_)
          clear hK K
          try simp only [Act.put, List.setIfInBounds_toArray, List.set_cons_zero, List.set_cons_succ]
          refine wpAnyH_take (i := 10) (v := ?_) (by (simp only [List.getElem?_toArray, List.getElem?_cons_succ, List.getElem?_cons_zero]; rfl)) (by kernel_rfl) (by kernel_rfl) (by kernel_rfl) (by intro _ _ _ h; exact h) (Or.inl ⟨by rfl, ?_⟩) (by assumption) ?_
          rotate_left
          · (intro w hSw; (try dsimp only at hSw); go_simp; try (with_reducible rfl))
          simp only [Act.put, List.setIfInBounds_toArray, List.set_cons_zero, List.set_cons_succ]
          refine wpAnyH_done (by kernel_rfl) ?_ _
          clear hHeld r0 r1 t2 hlk HBD0 HBD1 HBD
          obtain ⟨vv4, hv4, hX4⟩ := HST4.out
          obtain ⟨a4, c4, hvv4⟩ : ∃ a c, vv4 = .slice a D2.length c := by
            rcases hv4.vals.2 with ⟨h, h0⟩ | ⟨g, cap, cur, h, _⟩
            · exact ⟨none, 0, by rw [h, h0]⟩
            · exact ⟨_, _, h⟩
          subst hvv4
          have hD2 : D2.length ≤ 1000 := Nat.le_trans HQ4.out.len hUl
          have t2 : w4.cell? ⟨S.T, 2, none⟩ = some (.map (some S.Dn)) := by rw [cell_of_row _ _ 2 _ _ (0, 0) hv4.tab]; rfl
          have t3 : w4.cell? ⟨S.T, 3, none⟩ = some (.slice a4 D2.length c4) := by rw [cell_of_row _ _ 3 _ _ (0, 0) hv4.tab]; rfl
          have hbd4 := (Below.refl w4.heap.size w4).drew
          obtain ⟨w5, hrun, hpl5, hg5d⟩ := (hv4.below hbd4).done.update (t := j) (m := D2.length) (by omega) (by omega) (by omega)
          have HV4 := Lib.hid hv4
          have HX4 := Lib.hid hX4
          have HPL5 := Lib.hid hpl5
          have HG5 := Lib.hid (show w4.grownBy w5 (some S.Dn) from ⟨hg5d.os.trans hbd4.os, hg5d.tape.trans hbd4.tape, hg5d.output.trans hbd4.output, Nat.le_trans hbd4.size hg5d.size, fun k hk hne => (hg5d.block k (Nat.lt_of_lt_of_le hk hbd4.size) hne).trans (hbd4.block k hk)⟩)
          clear hv4 hX4 hpl5 hg5d hbd4
          go_upto_region 10 with fail
          go_region
          all_goals go_upto_region 11 with fail
          clear t2 t3 hrun
          have hT5 : w5.heap[S.T]? = some (.cells #[S.vp, .map (some S.N), .map (some S.Dn), .slice a4 D2.length c4, .int .i64 (D2.length : Int)] 75 (0, 0)) := (HG5.out.block S.T (Array.getElem?_eq_some_iff.1 HV4.out.tab).1 (fun e => by
            obtain ⟨es, c, h1⟩ := HV4.out.done.mapped
            have h2 := HV4.out.tab
            simp only [Option.some.injEq] at e
            rw [e, h1] at h2; cases h2)).trans HV4.out.tab
          have HT5 := Lib.hid hT5
          have t3 : w5.cell? ⟨S.T, 3, none⟩ = some (.slice a4 D2.length c4) := by rw [cell_of_row _ _ 3 _ _ (0, 0) hT5]; rfl
          have HRow5 := Lib.hid (HV4.out.vals.kept HG5.out (.inr fun e => by
            obtain ⟨cs, h1, _⟩ := own_ty HV4.out.vals e
            obtain ⟨es, c, h2⟩ := HV4.out.done.mapped
            rw [h2] at h1; cases h1))
          have HB5 := Lib.hid (show S.B ≤ w5.heap.size from by
            have h1 := HV4.out.low.1
            have h2 := (Array.getElem?_eq_some_iff.1 HT5.out).1
            omega)
          clear hT5
          go_wp2_with (at_builtin
                       refine app_one rfl (.tmp 73) (.tmp 75) rfl w5 (str v) rfl rfl HRow5.out (by omega) HB5.out ?_)
          intro g6 q6 w6 ho6 hg6 hl6
          have HG6 := Lib.hid hg6
          have HO6 := Lib.hid ho6
          have HL6 := Lib.hid hl6
          have hn6 := tab_kept HT5.out HRow5.out hg6
          have f3 : w6.frozen? ⟨S.T, 3, none⟩ = false := frozen_of_row w6 S.T 3 _ _ hn6
          have c3 : w6.cell? ⟨S.T, 3, none⟩ = some (.slice a4 D2.length c4) := by rw [cell_of_row w6 S.T 3 _ _ (0, 0) hn6]; rfl
          have HN6 := Lib.hid hn6
          clear hn6 ho6 hg6 hl6 t3
          go_upto_region 12 with fail
          have hn7 : (w6.setCell ⟨S.T, 3, none⟩ (.slice (some ⟨g6, 0, none⟩) (D2.length + 1) q6)).heap[S.T]? = some (.cells #[S.vp, .map (some S.N), .map (some S.Dn), .slice (some ⟨g6, 0, none⟩) (D2.length + 1) q6, .int .i64 (D2.length : Int)] 75 (0, 0)) := heap_setCell_same _ S.T 3 _ _ _ HN6.out
          have c4' : (w6.setCell ⟨S.T, 3, none⟩ (.slice (some ⟨g6, 0, none⟩) (D2.length + 1) q6)).cell? ⟨S.T, 4, none⟩ = some (.int .i64 (D2.length : Int)) := by rw [cell_of_row _ S.T 4 _ _ (0, 0) hn7]; rfl
          have HADD := Lib.hid (add8c S.T 4 D2.length _ c4' (frozen_of_row _ S.T 4 _ _ hn7) (by omega))
          have HFIN := Lib.hid (show ValP S U X way (.slice va way.length vc) RES w (.returned (.string (str v))) ((w6.setCell ⟨S.T, 3, none⟩ (.slice (some ⟨g6, 0, none⟩) (D2.length + 1) q6)).setCell ⟨S.T, 4, none⟩ (.int .i64 ((D2.length : Int) + 1))) from by
            rw [HRR.out]
            obtain ⟨h1, h2, h3⟩ := final8 hU HV4.out HX4.out HWY4.out HJ.out (HQ4.out.notin p.1 (by simp)) HPL5.out HG5.out HO6.out HG6.out (by
              rcases HL6.out with h | h
              · exact .inl h.symm
              · refine .inr fun k hk => ?_
                have : g6 = k := by simpa [Value.ownBlock] using hk
                omega) _ rfl
            exact ⟨h1, h2, HK4.out.trans h3, rfl⟩)
          generalize w6.setCell ⟨S.T, 3, none⟩ (.slice (some ⟨g6, 0, none⟩) (D2.length + 1) q6) = w7 at HADD HFIN ⊢
          clear hn7 c4' c3 f3
          go_wp2_with fail
          refine HADD.out.mono ?_
          rintro e w8 ⟨rfl, rfl⟩
          clear HADD
          generalize w7.setCell ⟨S.T, 4, none⟩ (.int .i64 ((D2.length : Int) + 1)) = w8 at HFIN ⊢
          go_wp2
          go_ret
          exact HFIN.out
end Go.Proofs.Ythfholnnkdoagaa
