/-
  Layer 8: the statement PropExpands: for every properties and texts. Own work.
-/
import Derived.Test.YthfholnnkdoagaaBth8
namespace Go.Proofs.Ythfholnnkdoagaa
set_option linter.unusedVariables false
set_option linter.unusedSimpArgs false
open Go.ChangeShapes Go.WideShapes Go.ChangeAt Go.RowKit
open Go.ChangeMaps (open_string shut_string)

theorem RdTx.below {w w' : World} {v : Value} {l : List ByteArray} (h : RdTx w v l) (hb : Below w.heap.size w w') : RdTx w' v l :=
  RdSl.mono h fun a x hx => by unfold TxAt at hx ⊢; exact (hb.cell (World.block_lt_of_cell? w _ hx)).trans hx
theorem Mw.lts {R : Nat} {vd vo vd' vo' : Value} {w w' : World} {B : Nat} {L D : List Pp} {vL : Value} {bad : Int} {nm : List UInt8} {ways : List (List UInt8)} (h : RT8 B R L vL bad nm ways D vd' vo' w') : R < w'.heap.size ∧ (∀ k, vd'.ownBlock = some k → k < w'.heap.size) ∧ ∀ k, vo'.ownBlock = some k → k < w'.heap.size :=
  ⟨h.lts.1, fun k hk => (h.lts.2.1 k hk).2, fun k hk => (h.lts.2.2 k hk).2⟩
theorem own_low {w : World} {base base' e size n : Nat} {v : Value} {xs : List Value} (h : w.ownsRow base e size v n xs) (hb : base' ≤ base) : w.ownsRow base' e size v n xs := by
  refine ⟨h.1, ?_⟩
  rcases h.2 with hn | ⟨g, cap, cur, rfl, h1, rest⟩
  · exact .inl hn
  · exact .inr ⟨g, cap, cur, rfl, Nat.le_trans hb h1, rest⟩
/-- between two texts -/
structure EI (S : Tb) (U L : List Pp) (B R : Nat) (vL : Value) (w0 : World) (D : List Pp) (w : World) : Prop where
  m : ∃ (bad : Int) (nm : List UInt8) (ways : List (List UInt8)) (vd vo : Value), RT8 B R L vL bad nm ways D vd vo w ∧ St S U D (rX R vd vo) w
  q : Q8 U [] D
  b : Below w0.heap.size w0 w
theorem EI.far {S : Tb} {U L : List Pp} {B R : Nat} {vL : Value} {w0 : World} {D : List Pp} {w w' : World} (h : EI S U L B R vL w0 D w) (hb : Below w.heap.size w w') : EI S U L B R vL w0 D w' := by
  obtain ⟨⟨bad, nm, ways, vd, vo, h1, h2⟩, h3, h4⟩ := h
  exact ⟨⟨bad, nm, ways, vd, vo, h1.far hb, h2.below hb⟩, h3, h4.trans (hb.mono h4.size)⟩
theorem expand_q {U : List Pp} {s : List UInt8} {D : List Pp} (h : Q8 U [] D) : Q8 U [] (expandM8 U s D).D := text_q U (k := 33) (s.length + 1) h
def numL : Xp → Int × List UInt8 × List UInt8
  | .ok v _ => (0, v, [])
  | .bad er n _ => (er, [], n)
theorem expV_is (x : Xp) : expV x = .tuple #[.string (str (numL x).2.1), .int .i64 (numL x).1, .string (str (numL x).2.2)] := by
  cases x <;> rfl
set_option maxRecDepth 100000 in
set_option maxHeartbeats 8000000 in
theorem walk_PropExpands (w : World) (m : Int) (hm : w.cell? ⟨0, 0, none⟩ = some (.int .i64 m)) (v0 : Value) (l0 : List Pr) (h0 : RdPs w v0 l0) (ok0 : ∀ p ∈ l0, okPr p) (v1 : Value) (l1 : List ByteArray) (h1 : RdTx w v1 l1) (ok1 : ∀ s ∈ l1, s.size ≤ maxLen) :
    Calls Try.prog 5 #[v0, v1] w fun e w' => e = .returned (.bool true) ∧ Below w.heap.size w w' := by
  obtain ⟨ta, tc, rfl⟩ := RdSl.shape h1
  have hll := RdSl.len h1
  have HF := Lib.hid (few8_any l0 v0 w h0 ok0)
  have HM := Lib.hid hm
  have H1 := Lib.hid h1
  have HK1 := Lib.hid ok1
  clear hm h0 ok0 h1 ok1
  go_enter Try.func5, Try.ntmps5
  go_wp2_with fail
  refine HF.out.mono ?_
  rintro e w1 ⟨vL, L, rfl, hrow, hfit, hb1⟩
  obtain ⟨aL, cL, hvL⟩ := own_shape8 hrow
  have hpl : (prs L).length = L.length := prs_len L
  rw [hpl] at hvL
  subst hvL
  have HROW := Lib.hid hrow
  have HFIT := Lib.hid hfit
  have HB1 := Lib.hid hb1
  have hm1 := (hb1.cell (World.block_lt_of_cell? w _ HM.out)).trans HM.out
  have HN := Lib.hid (New8_any L (.slice aL L.length cL) m w1 (RdPs.of_own hrow) (by have := hfit.1; omega) (fun p hp => (hfit.2 p hp).1) hm1)
  clear HF hrow hfit hb1 hm1 hpl
  go_wp2_with fail
  refine HN.out.mono ?_
  rintro e w2 ⟨S, rfl, hst, hSB, hb2, hSm⟩
  have hwB : w.heap.size ≤ S.B := by rw [hSB]; exact HB1.out.size
  have HST := Lib.hid hst
  have HROW2 := Lib.hid (own_mvd8 HROW.out hb2)
  have HB2 := Lib.hid (HB1.out.trans (hb2.mono HB1.out.size))
  have hU : UOk (firsts [] L) := HFIT.out.ok
  have hG := firsts_get L
  generalize hUe : firsts [] L = U at *
  clear HN hst hb2 HROW HB1 hSm hSB
  have hbb : Below w2.heap.size w2 (w2.alloc (.cells #[.slice aL L.length cL, .slice none 0 0, .int .i64 0, .string ⟨#[]⟩, .int .i64 0, .slice none 0 0] 44)) := (Below.refl _ _).alloc (Nat.le_refl _) _
  have hnew := heap_alloc_new w2 (.cells #[.slice aL L.length cL, .slice none 0 0, .int .i64 0, .string ⟨#[]⟩, .int .i64 0, .slice none 0 0] 44)
  go_upto_region 4 with fail
  have HEI := Lib.hid (show EI S U L w2.heap.size w2.heap.size (.slice aL L.length cL) w [] (w2.alloc (.cells #[.slice aL L.length cL, .slice none 0 0, .int .i64 0, .string ⟨#[]⟩, .int .i64 0, .slice none 0 0] 44)) from by
    refine ⟨⟨0, [], [], .slice none 0 0, .slice none 0 0, ⟨hnew, own_low (own_mvd8 HROW2.out hbb) (Nat.zero_le _), fun k hk => ?_, World.ownsRow_nil _ _ _ _, World.ownsRow_nil _ _ _ _, Nat.le_refl _⟩, ?_⟩, Q8.nil _ _, HB2.out.trans (hbb.mono HB2.out.size)⟩
    · obtain ⟨cs, q1, _⟩ := own_ty HROW2.out hk
      exact (Array.getElem?_eq_some_iff.1 q1).1
    · refine (HST.out.st (X := fun _ => False) rfl (fun _ h => h.elim)).joinZ hbb fun k hk => ?_
      rcases hk with rfl | hk | hk
      · exact .inr ⟨Nat.le_refl _, by simp⟩
      · simp [Value.ownBlock] at hk
      · simp [Value.ownBlock] at hk)
  have HVP := Lib.hid (show (∀ k, S.vp.ownBlock = some k → k < w2.heap.size) ∧ S.B ≤ w2.heap.size from ⟨fun k hk => by
    obtain ⟨cs, q1, _⟩ := own_ty HST.out.props hk
    exact (Array.getElem?_eq_some_iff.1 q1).1, by
    have h1 := HST.out.low.1
    have h2 := (Array.getElem?_eq_some_iff.1 HST.out.tab).1
    omega⟩)
  have HWB := Lib.hid (show w.heap.size ≤ w2.heap.size from HB2.out.size)
  generalize w2.alloc (.cells #[.slice aL L.length cL, .slice none 0 0, .int .i64 0, .string ⟨#[]⟩, .int .i64 0, .slice none 0 0] 44) = w3 at HEI ⊢
  generalize w2.heap.size = B at HEI HVP HWB ⊢
  clear hbb hnew HST HROW2 HB2
  have hllI : (l1.length : Int) ≤ 9223372036854775807 := by omega
  go_wp2_with fail
  go_loopw [24] (fun i wr => ∃ (k : Nat) (D : List Pp), k ≤ l1.length ∧ i = .int .i64 k ∧ EI S U L B B (.slice aL L.length cL) w D wr) (fun i _ => l1.length - (intOf i).toNat)
  case atStart => exact ⟨0, [], by omega, rfl, HEI.out⟩
  case round =>
    obtain ⟨k, D, hk, rfl, hei⟩ := hrel
    have HE := Lib.hid hei
    clear hei HEI
    have HLV := Lib.hid (fun w' (hb : Below w.heap.size w w') => lives8 m w' ((hb.cell (World.block_lt_of_cell? w _ HM.out)).trans HM.out))
    by_cases hlt : k < l1.length
    · obtain ⟨s, hs⟩ : ∃ s, l1[k]? = some s := ⟨_, List.getElem?_eq_getElem hlt⟩
      obtain ⟨a1, e1, p0⟩ := RdSl.elem (RdTx.below H1.out HE.out.b) hs
      subst e1
      unfold TxAt at p0
      rw [Nat.mul_one] at p0
      have hss := HK1.out s (List.mem_of_getElem? hs)
      have hkI : (k : Int) < (l1.length : Int) := by omega
      by_cases h20 : 20 ≤ k
      · have h20I : (20 : Int) ≤ (k : Int) := by omega
        go_wp2_with fail
        refine (HLV.out _ HE.out.b).mono ?_
        rintro e w9 ⟨rfl, hb9⟩
        have HZ := Lib.hid (HE.out.b.trans (hb9.mono HE.out.b.size))
        clear hb9
        go_wp2
        go_ret
        exact ⟨rfl, HZ.out⟩
      · have h20I : ¬ (20 : Int) ≤ (k : Int) := by omega
        have HC := Lib.hid (fun w => cutL8_eq s (by unfold maxLen at hss; exact hss) w)
        have hcl := cut8_len s
        generalize cut8 s = t at HC hcl
        obtain ⟨bad, nm, ways, vd, vo, hrt, hst⟩ := HE.out.m
        have HRT := Lib.hid hrt
        have HX := Lib.hid (Expand8_any S U hU (rX B vd vo) D wr t (by omega) HE.out.q hst)
        clear hrt hst hs
        go_wp2_with fail
        refine (HC.out _).mono ?_
        rintro e w4 ⟨rfl, hw4⟩
        obtain rfl : wr = w4 := hw4.symm
        go_wp2_with fail
        refine HX.out.mono ?_
        rintro e w5 ⟨rfl, hst5, hk5⟩
        have HST5 := Lib.hid hst5
        have HRT5 := Lib.hid (HRT.out.kp hk5 (fun _ h => h))
        have HB5 := Lib.hid (HE.out.b.trans ((hk5.under (own8_base hst5 |> fun _ => (show S.B ≤ wr.heap.size from by obtain ⟨b2, n2, w2', d2, o2, hr2, hs2⟩ := HE.out.m; exact own8_base hs2))).mono hwB))
        have HXR := Lib.hid (rexpand8_any B B L (.slice aL L.length cL) (by have := HFIT.out.1; omega) (fun p hp => (HFIT.out.2 p hp).2) bad nm ways D vd vo w5 t (by omega) (HE.out.q.both hG) HRT5.out)
        rw [← expand_congr hG t D] at HXR
        have HQ5 := Lib.hid (expand_q (s := t) HE.out.q)
        clear hst5 hk5 HX HRT
        rw [expV_is] at *
        go_wp2_with fail
        refine (HC.out _).mono ?_
        rintro e w6 ⟨rfl, hw6⟩
        obtain rfl : w5 = w6 := hw6.symm
        go_wp2_with fail
        refine HXR.out.mono ?_
        rintro e w7 ⟨rfl, bad7, nm7, ways7, vd7, vo7, hrt7, hm7⟩
        have HF7 := Lib.hid (show EI S U L B B (.slice aL L.length cL) w (expandM8 U t D).D w7 from
          ⟨⟨bad7, nm7, ways7, vd7, vo7, hrt7, HST5.out.mw (fun _ h => h) HVP.out HRT5.out hm7 hrt7.lts.1 (fun k hk => (hrt7.lts.2.1 k hk).2) (fun k hk => (hrt7.lts.2.2 k hk).2)⟩, HQ5.out, HB5.out.trans ((hm7.below HRT5.out).mono HWB.out)⟩)
        obtain ⟨vv7, hv7, _⟩ : St S U (expandM8 U t D).D (rX B vd7 vo7) w7 := HST5.out.mw (fun _ h => h) HVP.out HRT5.out hm7 hrt7.lts.1 (fun k hk => (hrt7.lts.2.1 k hk).2) (fun k hk => (hrt7.lts.2.2 k hk).2)
        have hD7 : (expandM8 U t D).D.length ≤ 1000 := Nat.le_trans HQ5.out.len hU.len
        have HKN := Lib.hid (fun (w' : World) (hb : Below w7.heap.size w7 w') => known8_any S.T (expandM8 U t D).D.length w' (by rw [cell_of_row _ _ 4 _ _ (0, 0) (hv7.below hb).tab]; rfl) (by omega))
        obtain ⟨ad, cd, hvd7⟩ := own_shape8 hrt7.done
        rw [prs_len] at hvd7
        subst hvd7
        have c1 : w7.cell? ⟨B, 1, none⟩ = some (.slice ad (expandM8 U t D).D.length cd) := by rw [cell_of_row _ _ 1 _ _ (0, 0) hrt7.tab]; rfl
        generalize hxx : expandM8 U t D = xx at *
        rw [expV_is]
        clear hrt7 hv7 hm7 HRT5 HST5 HB5 HXR HC HLV HQ5
        go_wp2_with fail
        generalize str (numL xx).2.1 = s1
        generalize (numL xx).1 = n1
        generalize str (numL xx).2.2 = s2
        go_upto_region 10 with fail
        refine wp_region_held_drew (S := (fun w' => Below w7.heap.size w7 w')) (by kernel_rfl) (by (try dsimp only); exact (Below.refl _ _).drew) (fun hHeld => ?_)
        generalize w7.drew = wd at hHeld ⊢
        refine wpAnyH_take (i := 0) (v := ?_) (by (simp only [List.getElem?_toArray, List.getElem?_cons_succ, List.getElem?_cons_zero]; rfl)) (by kernel_rfl) (by kernel_rfl) (by kernel_rfl) (by intro _ _ _ h; exact h) (Or.inl ⟨by rfl, ?_⟩) (by assumption) ?_
        rotate_left
        · (intro w hSw; (try dsimp only at hSw); go_simp; try (with_reducible rfl))
        simp only [Act.put, List.setIfInBounds_toArray, List.set_cons_zero, List.set_cons_succ]
        refine wpAnyH_take (i := 1) (v := ?_) (by (simp only [List.getElem?_toArray, List.getElem?_cons_succ, List.getElem?_cons_zero]; rfl)) (by kernel_rfl) (by kernel_rfl) (by kernel_rfl) (by intro _ _ _ h; exact h) (Or.inl ⟨by rfl, ?_⟩) (by assumption) ?_
        rotate_left
        · (intro w hSw; (try dsimp only at hSw); go_simp; try (with_reducible rfl))
        simp only [Act.put, List.setIfInBounds_toArray, List.set_cons_zero, List.set_cons_succ]
        refine wpAnyH_take (i := 2) (v := ?_) (by (simp only [List.getElem?_toArray, List.getElem?_cons_succ, List.getElem?_cons_zero]; rfl)) (by kernel_rfl) (by kernel_rfl) (by kernel_rfl) (by intro _ _ _ h; exact h) (Or.inl ⟨by rfl, ?_⟩) (by assumption) ?_
        rotate_left
        · (intro w hSw; (try dsimp only at hSw); go_simp; try (with_reducible rfl))
        simp only [Act.put, List.setIfInBounds_toArray, List.set_cons_zero, List.set_cons_succ]
        refine wpAnyH_take (i := 3) (v := ?_) (by (simp only [List.getElem?_toArray, List.getElem?_cons_succ, List.getElem?_cons_zero]; rfl)) (by kernel_rfl) (by kernel_rfl) (by kernel_rfl) (by intro _ _ _ h; exact h) (Or.inl ⟨by rfl, ?_⟩) (by assumption) ?_
        rotate_left
        · (intro w hSw; (try dsimp only at hSw); go_simp; try (with_reducible rfl))
        simp only [Act.put, List.setIfInBounds_toArray, List.set_cons_zero, List.set_cons_succ]
        refine wpAnyH_take (i := 4) (v := ?_) (by (simp only [List.getElem?_toArray, List.getElem?_cons_succ, List.getElem?_cons_zero]; rfl)) (by kernel_rfl) (by kernel_rfl) (by kernel_rfl) (by intro _ _ _ h; exact h) (Or.inl ⟨by rfl, ?_⟩) (by assumption) ?_
        rotate_left
        · (intro w hSw; (try dsimp only at hSw); go_simp; try (with_reducible rfl))
        simp only [Act.put, List.setIfInBounds_toArray, List.set_cons_zero, List.set_cons_succ]
        refine wpAnyH_take (i := 5) (v := ?_) (by (simp only [List.getElem?_toArray, List.getElem?_cons_succ, List.getElem?_cons_zero]; rfl)) (by kernel_rfl) (by kernel_rfl) (by kernel_rfl) (by intro _ _ _ h; exact h) (Or.inl ⟨by rfl, ?_⟩) (by assumption) ?_
        rotate_left
        · (intro w hSw; (try dsimp only at hSw); go_simp; try (with_reducible rfl))
        simp only [Act.put, List.setIfInBounds_toArray, List.set_cons_zero, List.set_cons_succ]
        refine wpAnyH_take (i := 6) (v := ?_) (by (simp only [List.getElem?_toArray, List.getElem?_cons_succ, List.getElem?_cons_zero]; rfl)) (by kernel_rfl) (by kernel_rfl) (by kernel_rfl) (by intro _ _ _ h; exact h) (Or.inl ⟨by rfl, ?_⟩) (by assumption) ?_
        rotate_left
        · (intro w hSw; (try dsimp only at hSw); go_simp; try (with_reducible rfl))
        simp only [Act.put, List.setIfInBounds_toArray, List.set_cons_zero, List.set_cons_succ]
        refine wpAnyH_take (i := 7) (v := ?_) (by (simp only [List.getElem?_toArray, List.getElem?_cons_succ, List.getElem?_cons_zero]; rfl)) (by kernel_rfl) (by kernel_rfl) (by kernel_rfl) (by intro _ _ _ h; exact h) (Or.inl ⟨by rfl, ?_⟩) (by assumption) ?_
        rotate_left
        · (intro w hSw; (try dsimp only at hSw); go_simp; try (with_reducible rfl))
        simp only [Act.put, List.setIfInBounds_toArray, List.set_cons_zero, List.set_cons_succ]
        refine wpAnyH_take (i := 8) (v := ?_) (by (simp only [List.getElem?_toArray, List.getElem?_cons_succ, List.getElem?_cons_zero]; rfl)) (by kernel_rfl) (by kernel_rfl) (by kernel_rfl) (by intro _ _ _ h; exact h) (Or.inl ⟨by rfl, ?_⟩) (by assumption) ?_
        rotate_left
        · (intro w hSw; (try dsimp only at hSw); go_simp; try (with_reducible rfl))
        simp only [Act.put, List.setIfInBounds_toArray, List.set_cons_zero, List.set_cons_succ]
        refine wpAnyH_take (i := 9) (v := ?_) (by (simp only [List.getElem?_toArray, List.getElem?_cons_succ, List.getElem?_cons_zero]; rfl)) (by kernel_rfl) (by kernel_rfl) (by kernel_rfl) (by intro _ _ _ h; exact h) (Or.inl ⟨by rfl, ?_⟩) (by assumption) ?_
        rotate_left
        · (intro w hSw; (try dsimp only at hSw); go_simp; try (with_reducible rfl))
        simp only [Act.put, List.setIfInBounds_toArray, List.set_cons_zero, List.set_cons_succ]
        refine wpAnyH_take (i := 10) (v := ?_) (by (simp only [List.getElem?_toArray, List.getElem?_cons_succ, List.getElem?_cons_zero]; rfl)) (by kernel_rfl) (by kernel_rfl) (by kernel_rfl) (by intro _ _ _ h; exact h) (Or.inl ⟨by rfl, ?_⟩) (by assumption) ?_
        rotate_left
        · (intro w hSw; (try dsimp only at hSw); go_simp; try (with_reducible rfl))
        simp only [Act.put, List.setIfInBounds_toArray, List.set_cons_zero, List.set_cons_succ]
        refine wpAnyH_take (i := 11) (v := ?_) (by (simp only [List.getElem?_toArray, List.getElem?_cons_succ, List.getElem?_cons_zero]; rfl)) (by kernel_rfl) (by kernel_rfl) (by kernel_rfl) (by intro _ _ _ h; exact h) (Or.inl ⟨by rfl, ?_⟩) (by assumption) ?_
        rotate_left
        · (intro w hSw; (try dsimp only at hSw); go_simp; try (with_reducible rfl))
        simp only [Act.put, List.setIfInBounds_toArray, List.set_cons_zero, List.set_cons_succ]
        refine wpAnyH_take (i := 12) (v := ?_) (by (simp only [List.getElem?_toArray, List.getElem?_cons_succ, List.getElem?_cons_zero]; rfl)) (by kernel_rfl) (by kernel_rfl) (by kernel_rfl) (by intro _ _ _ h; exact h) (Or.inl ⟨by rfl, ?_⟩) (by assumption) ?_
        rotate_left
        · (intro w hSw; (try dsimp only at hSw); go_simp; try (with_reducible rfl))
        simp only [Act.put, List.setIfInBounds_toArray, List.set_cons_zero, List.set_cons_succ]
        refine wpAnyH_take (i := 13) (v := ?_) (by (simp only [List.getElem?_toArray, List.getElem?_cons_succ, List.getElem?_cons_zero]; rfl)) (by kernel_rfl) (by kernel_rfl) (by kernel_rfl) (by intro _ _ _ h; exact h) (Or.inl ⟨by rfl, ?_⟩) (by assumption) ?_
        rotate_left
        · (intro w hSw; (try dsimp only at hSw); go_simp; try (with_reducible rfl))
        simp only [Act.put, List.setIfInBounds_toArray, List.set_cons_zero, List.set_cons_succ]
        refine wpAnyH_take (i := 14) (v := ?_) (by (simp only [List.getElem?_toArray, List.getElem?_cons_succ, List.getElem?_cons_zero]; rfl)) (by kernel_rfl) (by kernel_rfl) (by kernel_rfl) (by intro _ _ _ h; exact h) (Or.inl ⟨by rfl, ?_⟩) (by assumption) ?_
        rotate_left
        · (intro w hSw; (try dsimp only at hSw); go_simp; try (with_reducible rfl))
        simp only [Act.put, List.setIfInBounds_toArray, List.set_cons_zero, List.set_cons_succ]
        refine wpAnyH_take (i := 16) (v := ?_) (by (simp only [List.getElem?_toArray, List.getElem?_cons_succ, List.getElem?_cons_zero]; rfl)) (by kernel_rfl) (by kernel_rfl) (by kernel_rfl) (by intro _ _ _ h; exact h) (Or.inl ⟨by rfl, ?_⟩) (by assumption) ?_
        rotate_left
        · (intro w hSw; (try dsimp only at hSw); go_simp; try (with_reducible rfl))
        simp only [Act.put, List.setIfInBounds_toArray, List.set_cons_zero, List.set_cons_succ]
        refine wpAnyH_take (i := 17) (v := ?_) (by (simp only [List.getElem?_toArray, List.getElem?_cons_succ, List.getElem?_cons_zero]; rfl)) (by kernel_rfl) (by kernel_rfl) (by kernel_rfl) (by intro _ _ _ h; exact h) (Or.inl ⟨by rfl, ?_⟩) (by assumption) ?_
        rotate_left
        · (intro w hSw; (try dsimp only at hSw); go_simp; try (with_reducible rfl))
        simp only [Act.put, List.setIfInBounds_toArray, List.set_cons_zero, List.set_cons_succ]
        refine wpAnyH_take (i := 18) (v := ?_) (by (simp only [List.getElem?_toArray, List.getElem?_cons_succ, List.getElem?_cons_zero]; rfl)) (by kernel_rfl) (by kernel_rfl) (by kernel_rfl) (by intro _ _ _ h; exact h) (Or.inl ⟨by rfl, ?_⟩) (by assumption) ?_
        rotate_left
        · (intro w hSw; (try dsimp only at hSw); go_simp; try (with_reducible rfl))
        simp only [Act.put, List.setIfInBounds_toArray, List.set_cons_zero, List.set_cons_succ]
        refine wpAnyH_take (i := 19) (v := ?_) (by (simp only [List.getElem?_toArray, List.getElem?_cons_succ, List.getElem?_cons_zero]; rfl)) (by kernel_rfl) (by kernel_rfl) (by kernel_rfl) (by intro _ _ _ h; exact h) (Or.inl ⟨by rfl, ?_⟩) (by assumption) ?_
        rotate_left
        · (intro w hSw; (try dsimp only at hSw); have q1 := (hSw.cell (World.block_lt_of_cell? w7 _ c1)).trans c1; go_simp; try (with_reducible rfl))
        simp only [Act.put, List.setIfInBounds_toArray, List.set_cons_zero, List.set_cons_succ]
        refine wpAnyH_take (i := 20) (v := ?_) (by (simp only [List.getElem?_toArray, List.getElem?_cons_succ, List.getElem?_cons_zero]; rfl)) (by kernel_rfl) (by kernel_rfl) (by kernel_rfl) (by intro _ _ _ h; exact h) (Or.inl ⟨by rfl, ?_⟩) (by assumption) ?_
        rotate_left
        · (intro w hSw; (try dsimp only at hSw); go_simp; try (with_reducible rfl))
        simp only [Act.put, List.setIfInBounds_toArray, List.set_cons_zero, List.set_cons_succ]
        refine wpAnyH_ready (rs := [15]) (by kernel_rfl) (by simp) ?_
        refine AllReadyH.cons (by (simp only [List.getElem?_toArray, List.getElem?_cons_succ, List.getElem?_cons_zero]; rfl)) (fun K hK => ?_) AllReadyH.nil
        go_simp
        (go_at_call 25; refine (HKN.out _ hHeld).mono ?_; rintro e w8 ⟨rfl, hw8⟩; subst hw8)
        refine hK.out _ _ (by (try dsimp only); exact hHeld) (fun hHeld => ?_)
        clear hK K
        try simp only [Act.put, List.setIfInBounds_toArray, List.set_cons_zero, List.set_cons_succ]
        refine wpAnyH_take (i := 21) (v := ?_) (by (simp only [List.getElem?_toArray, List.getElem?_cons_succ, List.getElem?_cons_zero]; rfl)) (by kernel_rfl) (by kernel_rfl) (by kernel_rfl) (by intro _ _ _ h; exact h) (Or.inl ⟨by rfl, ?_⟩) (by assumption) ?_
        rotate_left
        · (intro w hSw; (try dsimp only at hSw); go_simp; try (with_reducible rfl))
        simp only [Act.put, List.setIfInBounds_toArray, List.set_cons_zero, List.set_cons_succ]
        refine wpAnyH_take (i := 22) (v := ?_) (by (simp only [List.getElem?_toArray, List.getElem?_cons_succ, List.getElem?_cons_zero]; rfl)) (by kernel_rfl) (by kernel_rfl) (by kernel_rfl) (by intro _ _ _ h; exact h) (Or.inl ⟨by rfl, ?_⟩) (by assumption) ?_
        rotate_left
        · (intro w hSw; (try dsimp only at hSw); go_simp; try (with_reducible rfl))
        simp only [Act.put, List.setIfInBounds_toArray, List.set_cons_zero, List.set_cons_succ]
        refine wpAnyH_done (by kernel_rfl) ?_ _
        have HF8 := Lib.hid (EI.far HF7.out hHeld)
        clear c1
        go_wp2
        go_roundw
        case rel => exact ⟨k + 1, xx.D, by omega, by go_num, HF8.out⟩
        case measure => simp [intOf]; omega
    · have hle : (l1.length : Int) ≤ k := by omega
      go_wp2_with fail
      refine (HLV.out _ HE.out.b).mono ?_
      rintro e w9 ⟨rfl, hb9⟩
      have HZ := Lib.hid (HE.out.b.trans (hb9.mono HE.out.b.size))
      clear hb9
      go_wp2
      go_ret
      exact ⟨rfl, HZ.out⟩

theorem laid_met_PropExpands (os : Os) : laidMet Try.prog Rows.propExpandsRow.laid ((laidWorld #[.slice none 0 0, .slice none 0 0] os).forCall (fun _ _ => 0) ⟨#[], #[.slice none 0 0, .slice none 0 0], []⟩).memory :=
  laidMet_of_run' 8 (by kernel_rfl) (by kernel_rfl)
theorem reads_PropExpands (os : Os) {H : Type} (enc : TypeId × Value → H) : ∃ places, DataW.whole enc Try.prog ((laidWorld #[.slice none 0 0, .slice none 0 0] os).forCall (fun _ _ => 0) ⟨#[], #[.slice none 0 0, .slice none 0 0], []⟩).memory Try.f5.params.toList Rows.propExpandsSpec.vars false (#[.slice none 0 0, .slice none 0 0] : Array Value).toList 8 = some ([.nil, .nil], [], places) :=
  ⟨[], by kernel_rfl⟩
set_option maxRecDepth 100000 in
theorem lifted_PropExpands (os : Os) (started : os.Started) (H : Type) (enc : TypeId × Value → H) (F : Stop.Interp) :
    ReturnsInHanded {} Try.checked os 5 .any ((OpenSpec.ofChange Rows.propExpandsSpec).preRow enc Try.prog Try.f5 Rows.propExpandsRow.domain false Rows.propExpandsRow.laid) (((OpenSpec.ofChange Rows.propExpandsSpec).at F).post enc Try.prog Try.f5 false true false false) := by
  obtain ⟨places, hx⟩ := reads_PropExpands os enc
  refine returnsInHanded_of_row (C := Try.checked) (s := OpenSpec.ofChange Rows.propExpandsSpec) own_knob started (by kernel_rfl) Try.func5
    (witness_row_at (enc := enc) (C := Try.checked) false (laidWorld #[.slice none 0 0, .slice none 0 0] os) #[.slice none 0 0, .slice none 0 0] rfl (by kernel_rfl) (by kernel_rfl) (by kernel_rfl)
      (OpenSpec.preRow_of_cond 8 hx (by kernel_rfl) (fun k hk => by cases hk) (by kernel_rfl) (laid_met_PropExpands os))) ?_
  intro W base args ds gs before hval0 hW _ _ _ _ hsh _
  have hval : ∀ (j : Nat) t v, Try.f5.params[j]? = some t → args[j]? = some v → Value.okWide Try.prog W .any base t v := hval0
  obtain ⟨m, hm⟩ := maxLen_cell W hsh
  have hW' := hW
  obtain ⟨p, q, hA0, hV, rfl, _, _⟩ := hW
  have hA : DataW.TrodAll enc Try.prog W 0 (fun _ => true) true Try.f5.params.toList args.toList ds p := hA0
  rw [Try.params5] at hA hval
  obtain ⟨v0, vs0, d0, ds0, p0, q0, hargs, rfl, rfl, h0, r0⟩ := trodAll_cons hA
  obtain ⟨v1, vs1, d1, ds1, p1, q1, rfl, rfl, rfl, h1, r1⟩ := trodAll_cons r0
  obtain ⟨rfl, rfl, rfl⟩ := trodAll_nil r1
  obtain rfl : args = #[v0, v1] := by cases args; simp_all
  obtain ⟨rfl, rfl⟩ := trodVars_none hV
  obtain ⟨l0, g0, w0⟩ := open_props (hval 0 27 v0 rfl rfl) h0
  obtain ⟨l1, g1, w1⟩ := open_texts (hval 1 23 v1 rfl rfl) h1
  clear hA0 hval0
  refine (walk_PropExpands W m hm v0 l0 g0 w0 v1 l1 g1 w1).mono fun e W' ⟨he, hb⟩ => ?_
  subst he
  exact ⟨_, rfl, law_post (by kernel_rfl) rfl rfl rfl hW' hb⟩
/-- the statement of PropExpands -/
theorem proved_PropExpands : Rows.PropExpandsSaid :=
  OpenClaim.holds_of_cond 5 Try.f5 rfl rfl rfl rfl rfl rfl rfl ⟨rfl, rfl, rfl, rfl, rfl⟩ rfl rfl rfl rfl rfl (by kernel_rfl) Try.func5 (by kernel_rfl)
    (of_decide_eq_true (by kernel_rfl)) (by unfold Func.isWrapper; first | (rw [if_pos (by decide +kernel)]; kernel_rfl) | (rw [if_neg (by decide +kernel)]; exact ⟨rfl, rfl⟩))
    (fun os started H enc _ F => by rw [OpenClaim.pre_eq_preRow]; exact lifted_PropExpands os started H enc F)
end Go.Proofs.Ythfholnnkdoagaa
