/-
  Layer 6: the card CoordIds. Own work.
-/
import Derived.Test.YtinhedegbaegnaaDoorPat6
import Derived.Deep.RegionHeld3
namespace Go.Proofs.YtinhedegbaegnaaDoor
set_option linter.unusedVariables false
set_option linter.unusedSimpArgs false
open Go.ChangeShapes Go.WideShapes Go.ChangeAt Go.RowKit
open Go.ChangeMaps (open_string shut_string)
theorem keepI {w w1 w2 : World} {x0 x1 x2 y0 y1 y2 y3 z0 z1 : Value} (h : w1.cell? ⟨w.heap.size, 0, none⟩ = some x0 ∧ w1.cell? ⟨w.heap.size, 1, none⟩ = some x1 ∧ w1.cell? ⟨w.heap.size, 2, none⟩ = some x2 ∧ w1.cell? ⟨w.heap.size + 1, 0, none⟩ = some y0 ∧ w1.cell? ⟨w.heap.size + 1, 1, none⟩ = some y1 ∧ w1.cell? ⟨w.heap.size + 1, 2, none⟩ = some y2 ∧ w1.cell? ⟨w.heap.size + 1, 3, none⟩ = some y3 ∧ w1.cell? ⟨w.heap.size + 1 + 1, 0, none⟩ = some z0 ∧ w1.cell? ⟨w.heap.size + 1 + 1, 1, none⟩ = some z1 ∧ w.heap.size + 3 ≤ w1.heap.size ∧ Below w.heap.size w w1) (hb : Below w1.heap.size w1 w2) :
    w2.cell? ⟨w.heap.size, 0, none⟩ = some x0 ∧ w2.cell? ⟨w.heap.size, 1, none⟩ = some x1 ∧ w2.cell? ⟨w.heap.size, 2, none⟩ = some x2 ∧ w2.cell? ⟨w.heap.size + 1, 0, none⟩ = some y0 ∧ w2.cell? ⟨w.heap.size + 1, 1, none⟩ = some y1 ∧ w2.cell? ⟨w.heap.size + 1, 2, none⟩ = some y2 ∧ w2.cell? ⟨w.heap.size + 1, 3, none⟩ = some y3 ∧ w2.cell? ⟨w.heap.size + 1 + 1, 0, none⟩ = some z0 ∧ w2.cell? ⟨w.heap.size + 1 + 1, 1, none⟩ = some z1 ∧ w.heap.size + 3 ≤ w2.heap.size ∧ Below w.heap.size w w2 := by
  obtain ⟨h0, h1, h2, h3, h4, h5, h6, h7, h8, h9, h10⟩ := h
  exact ⟨below_cell hb (by simp only; omega) h0, below_cell hb (by simp only; omega) h1, below_cell hb (by simp only; omega) h2, below_cell hb (by simp only; omega) h3, below_cell hb (by simp only; omega) h4, below_cell hb (by simp only; omega) h5, below_cell hb (by simp only; omega) h6, below_cell hb (by simp only; omega) h7, below_cell hb (by simp only; omega) h8, Nat.le_trans h9 hb.size, h10.trans (hb.mono (by omega))⟩
theorem keepIB {w w1 : World} {x0 x1 x2 y0 y1 y2 y3 z0 z1 : Value} (h : w1.cell? ⟨w.heap.size, 0, none⟩ = some x0 ∧ w1.cell? ⟨w.heap.size, 1, none⟩ = some x1 ∧ w1.cell? ⟨w.heap.size, 2, none⟩ = some x2 ∧ w1.cell? ⟨w.heap.size + 1, 0, none⟩ = some y0 ∧ w1.cell? ⟨w.heap.size + 1, 1, none⟩ = some y1 ∧ w1.cell? ⟨w.heap.size + 1, 2, none⟩ = some y2 ∧ w1.cell? ⟨w.heap.size + 1, 3, none⟩ = some y3 ∧ w1.cell? ⟨w.heap.size + 1 + 1, 0, none⟩ = some z0 ∧ w1.cell? ⟨w.heap.size + 1 + 1, 1, none⟩ = some z1 ∧ w.heap.size + 3 ≤ w1.heap.size ∧ Below w.heap.size w w1) : Below w.heap.size w w1 := h.2.2.2.2.2.2.2.2.2.2
set_option maxHeartbeats 8000000 in
theorem walk_CoordIds (g a v : ByteArray) (z0 : g.size ≤ 9223372036854775807) (z1 : a.size ≤ 9223372036854775807) (z2 : v.size ≤ 9223372036854775807) (kg ka kt kc : ByteArray) (z3 : kg.size ≤ 9223372036854775807) (z4 : ka.size ≤ 9223372036854775807) (z5 : kt.size ≤ 9223372036854775807) (z6 : kc.size ≤ 9223372036854775807) (pg pa : ByteArray) (z7 : pg.size ≤ 9223372036854775807) (z8 : pa.size ≤ 9223372036854775807) (w : World) (hm : MaxOk w) :
    Calls Tryd.prog 3 #[gavV g a v, keyV kg ka kt kc, idV pg pa] w fun e w' => e = .returned (.bool true) ∧ Below w.heap.size w w' := by
  unfold gavV keyV idV
  have HM := Lib.hid hm; clear hm
  have hlives : ∀ w', Below w.heap.size w w' → Calls Tryd.prog 11 #[] w' fun e w2 => e = .returned (.bool true) ∧ Below w.heap.size w w2 := fun w' hb =>
    (lives06 w' (HM.out.below hb (Nat.le_refl _))).mono fun e w2 ⟨he, hb2⟩ => ⟨he, hb.trans (hb2.mono hb.size)⟩
  have HL := Lib.hid hlives; clear hlives
  go_enter Tryd.func3, Tryd.ntmps3
  go_wp2_with fail
  refine wp_loop_rounds 10 ?_
  rw [rounds_succ]
  go_wp2_with (go_at_call 11; refine (HL.out _ (by repeat (first | exact Below.refl _ _ | apply Below.drew | refine below_al' _ ?_ (Nat.le_refl _)))).mono ?_; rintro e w' ⟨rfl, hb⟩)
  any_goals (first | (go_ret; exact ⟨rfl, by assumption⟩) | skip)
  rw [rounds_succ]
  go_wp2_with (go_at_call 11; refine (HL.out _ (by repeat (first | exact Below.refl _ _ | apply Below.drew | refine below_al' _ ?_ (Nat.le_refl _)))).mono ?_; rintro e w' ⟨rfl, hb⟩)
  any_goals (first | (go_ret; exact ⟨rfl, by assumption⟩) | skip)
  rw [rounds_succ]
  go_wp2_with (go_at_call 11; refine (HL.out _ (by repeat (first | exact Below.refl _ _ | apply Below.drew | refine below_al' _ ?_ (Nat.le_refl _)))).mono ?_; rintro e w' ⟨rfl, hb⟩)
  any_goals (first | (go_ret; exact ⟨rfl, by assumption⟩) | skip)
  rw [rounds_succ]
  go_wp2_with (go_at_call 11; refine (HL.out _ (by repeat (first | exact Below.refl _ _ | apply Below.drew | refine below_al' _ ?_ (Nat.le_refl _)))).mono ?_; rintro e w' ⟨rfl, hb⟩)
  any_goals (first | (go_ret; exact ⟨rfl, by assumption⟩) | skip)
  rw [rounds_succ]
  go_wp2_with (go_at_call 11; refine (HL.out _ (by repeat (first | exact Below.refl _ _ | apply Below.drew | refine below_al' _ ?_ (Nat.le_refl _)))).mono ?_; rintro e w' ⟨rfl, hb⟩)
  any_goals (first | (go_ret; exact ⟨rfl, by assumption⟩) | skip)
  rw [rounds_succ]
  go_wp2_with (go_at_call 11; refine (HL.out _ (by repeat (first | exact Below.refl _ _ | apply Below.drew | refine below_al' _ ?_ (Nat.le_refl _)))).mono ?_; rintro e w' ⟨rfl, hb⟩)
  any_goals (first | (go_ret; exact ⟨rfl, by assumption⟩) | skip)
  rw [rounds_succ]
  go_wp2_with (go_at_call 11; refine (HL.out _ (by repeat (first | exact Below.refl _ _ | apply Below.drew | refine below_al' _ ?_ (Nat.le_refl _)))).mono ?_; rintro e w' ⟨rfl, hb⟩)
  any_goals (first | (go_ret; exact ⟨rfl, by assumption⟩) | skip)
  rw [rounds_succ]
  go_wp2_with (go_at_call 11; refine (HL.out _ (by repeat (first | exact Below.refl _ _ | apply Below.drew | refine below_al' _ ?_ (Nat.le_refl _)))).mono ?_; rintro e w' ⟨rfl, hb⟩)
  any_goals (first | (go_ret; exact ⟨rfl, by assumption⟩) | skip)
  rw [rounds_succ]
  go_wp2_with (go_at_call 11; refine (HL.out _ (by repeat (first | exact Below.refl _ _ | apply Below.drew | refine below_al' _ ?_ (Nat.le_refl _)))).mono ?_; rintro e w' ⟨rfl, hb⟩)
  any_goals (first | (go_ret; exact ⟨rfl, by assumption⟩) | skip)
  rw [rounds_succ]
  have b0 : g.size ≤ 1000000 := by omega
  have b1 : a.size ≤ 1000000 := by omega
  have b2 : v.size ≤ 1000000 := by omega
  have b3 : kg.size ≤ 1000000 := by omega
  have b4 : ka.size ≤ 1000000 := by omega
  have b5 : kt.size ≤ 1000000 := by omega
  have b6 : kc.size ≤ 1000000 := by omega
  have b7 : pg.size ≤ 1000000 := by omega
  have b8 : pa.size ≤ 1000000 := by omega
  have c1 := fun w => refIsId_any pg b7 w
  have c2 := fun w => refIsId_any pa b8 w
  have c3 := fun w => IsId_any g b0 w
  have c4 := fun w => refIsId_any g b0 w
  have c5 := fun w => MayGav_any g a v b0 b1 b2 w
  have c6 := fun w => refMayGav_any g a v b0 b1 b2 w
  have c7 := fun w => MayKey_any kg ka kt kc b3 b4 b5 b6 w
  have c8 := fun w => refMayKey_any kg ka kt kc b3 b4 b5 b6 w
  have c9 := fun w => MayPattern_any pg pa b7 b8 w
  clear b0 b1 b2 b3 b4 b5 b6 b7 b8
  unfold mayPat at c9
  unfold gavV at c5 c6
  unfold keyV at c7 c8
  unfold idV at c9
  generalize mayGav g a v = i4 at c5 c6
  generalize mayKey kg ka kt kc = i5 at c7 c8
  generalize isId g = i3 at c3 c4
  generalize isId pg = i1 at c1 c9
  generalize isId pa = i2 at c2 c9
  have C3 := Lib.hid c3; clear c3
  have C4 := Lib.hid c4; clear c4
  have C5 := Lib.hid c5; clear c5
  have C6 := Lib.hid c6; clear c6
  have C7 := Lib.hid c7; clear c7
  have C8 := Lib.hid c8; clear c8
  cases e1 : (pg.toList == [42]) <;> cases e2 : (pa.toList == [42]) <;> cases i1 <;> cases i2
  all_goals rw [e1, e2] at c9
  all_goals have C1 := Lib.hid c1
  all_goals have C2 := Lib.hid c2
  all_goals have C9 := Lib.hid c9
  all_goals clear c1 c2 c9
  all_goals
    go_wp2_with (first
      | (go_at_call 12; with_reducible refine (C1.out _).mono ?_; rintro e w' ⟨rfl, rfl⟩)
      | (go_at_call 12; with_reducible refine (C2.out _).mono ?_; rintro e w' ⟨rfl, rfl⟩))
    go_region_held3 (fun w' => w'.cell? ⟨w.heap.size, 0, none⟩ = some (.string g) ∧ w'.cell? ⟨w.heap.size, 1, none⟩ = some (.string a) ∧ w'.cell? ⟨w.heap.size, 2, none⟩ = some (.string v) ∧ w'.cell? ⟨w.heap.size + 1, 0, none⟩ = some (.string kg) ∧ w'.cell? ⟨w.heap.size + 1, 1, none⟩ = some (.string ka) ∧ w'.cell? ⟨w.heap.size + 1, 2, none⟩ = some (.string kt) ∧ w'.cell? ⟨w.heap.size + 1, 3, none⟩ = some (.string kc) ∧ w'.cell? ⟨w.heap.size + 1 + 1, 0, none⟩ = some (.string pg) ∧ w'.cell? ⟨w.heap.size + 1 + 1, 1, none⟩ = some (.string pa) ∧ w.heap.size + 3 ≤ w'.heap.size ∧ Below w.heap.size w w')
      (first | exact keepI (by assumption) (by assumption) | exact keepI (by assumption) (Below.refl _ _) | (refine ⟨?_, ?_, ?_, ?_, ?_, ?_, ?_, ?_, ?_, ?_, ?_⟩ <;> first | (simp [go_sem]; done) | (simp [go_sem]; omega) | (repeat (first | exact Below.refl _ _ | apply Below.drew | refine below_al' _ ?_ (Nat.le_refl _)))))
      (first
        | (go_at_call 13; with_reducible refine (C3.out _).mono ?_; rintro e w' ⟨rfl, rfl⟩)
        | (go_at_call 12; with_reducible refine (C4.out _).mono ?_; rintro e w' ⟨rfl, rfl⟩)
        | (go_at_call 14; with_reducible refine (C5.out _).mono ?_; rintro e w1 ⟨rfl, hb1⟩)
        | (go_at_call 15; with_reducible refine (C6.out _).mono ?_; rintro e w1 ⟨rfl, hb1⟩)
        | (go_at_call 16; with_reducible refine (C7.out _).mono ?_; rintro e w1 ⟨rfl, hb1⟩)
        | (go_at_call 17; with_reducible refine (C8.out _).mono ?_; rintro e w1 ⟨rfl, hb1⟩)
        | (go_at_call 18; with_reducible refine (C9.out _).mono ?_; rintro e w1 ⟨rfl, hb1⟩)
        | (go_at_call 11; with_reducible refine (lives06 _ (HM.out.below (keepIB (by assumption)) (Nat.le_refl _))).mono ?_; rintro e w1 ⟨rfl, hb1⟩))
    go_wp2
    go_ret
    exact ⟨rfl, keepIB (by assumption)⟩

theorem laid_met_CoordIds (os : Os) : laidMet Tryd.prog Rows.coordIdsRow.laid ((laidWorld #[.agg #[.string .empty, .string .empty, .string .empty], .agg #[.string .empty, .string .empty, .string .empty, .string .empty], .agg #[.string .empty, .string .empty]] os).forCall (fun _ _ => 0) ⟨#[], #[.agg #[.string .empty, .string .empty, .string .empty], .agg #[.string .empty, .string .empty, .string .empty, .string .empty], .agg #[.string .empty, .string .empty]], []⟩).memory :=
  laidMet_of_run' 8 (by kernel_rfl) (by kernel_rfl)
theorem reads_CoordIds (os : Os) {H : Type} (enc : TypeId × Value → H) : ∃ places, DataW.whole enc Tryd.prog ((laidWorld #[.agg #[.string .empty, .string .empty, .string .empty], .agg #[.string .empty, .string .empty, .string .empty, .string .empty], .agg #[.string .empty, .string .empty]] os).forCall (fun _ _ => 0) ⟨#[], #[.agg #[.string .empty, .string .empty, .string .empty], .agg #[.string .empty, .string .empty, .string .empty, .string .empty], .agg #[.string .empty, .string .empty]], []⟩).memory Tryd.f3.params.toList Rows.coordIdsSpec.vars false (#[.agg #[.string .empty, .string .empty, .string .empty], .agg #[.string .empty, .string .empty, .string .empty, .string .empty], .agg #[.string .empty, .string .empty]] : Array Value).toList 8 = some ([.agg [.lit (.string []), .lit (.string []), .lit (.string [])], .agg [.lit (.string []), .lit (.string []), .lit (.string []), .lit (.string [])], .agg [.lit (.string []), .lit (.string [])]], [], places) :=
  ⟨[], by kernel_rfl⟩
set_option maxRecDepth 100000 in
theorem lifted_CoordIds (os : Os) (started : os.Started) (H : Type) (enc : TypeId × Value → H) (F : Stop.Interp) :
    ReturnsInHanded {} Tryd.checked os 3 .any ((OpenSpec.ofChange Rows.coordIdsSpec).preRow enc Tryd.prog Tryd.f3 Rows.coordIdsRow.domain false Rows.coordIdsRow.laid) (((OpenSpec.ofChange Rows.coordIdsSpec).at F).post enc Tryd.prog Tryd.f3 false true false false) := by
  obtain ⟨places, hx⟩ := reads_CoordIds os enc
  refine returnsInHanded_of_row (C := Tryd.checked) (s := OpenSpec.ofChange Rows.coordIdsSpec) own_knob started (by kernel_rfl) Tryd.func3
    (witness_row_at (enc := enc) (C := Tryd.checked) false (laidWorld #[.agg #[.string .empty, .string .empty, .string .empty], .agg #[.string .empty, .string .empty, .string .empty, .string .empty], .agg #[.string .empty, .string .empty]] os) #[.agg #[.string .empty, .string .empty, .string .empty], .agg #[.string .empty, .string .empty, .string .empty, .string .empty], .agg #[.string .empty, .string .empty]] rfl (by kernel_rfl) (by kernel_rfl) (by kernel_rfl)
      (OpenSpec.preRow_of_cond 8 hx (by kernel_rfl) (fun k hk => by cases hk) (by kernel_rfl) (laid_met_CoordIds os))) ?_
  intro W base args ds gs before hval0 hW _ _ _ _ hsh _
  have hval : ∀ (j : Nat) t v, Tryd.f3.params[j]? = some t → args[j]? = some v → Value.okWide Tryd.prog W .any base t v := hval0
  have hm : MaxOk W := maxOk_of (maxLen_cell W hsh)
  have hW' := hW
  obtain ⟨p, q, hA0, hV, rfl, _, _⟩ := hW
  have hA : DataW.TrodAll enc Tryd.prog W 0 (fun _ => true) true Tryd.f3.params.toList args.toList ds p := hA0
  rw [Tryd.params3] at hA hval
  obtain ⟨v0, vs0, d0, ds0, p0, q0, hargs, rfl, rfl, h0, r0⟩ := trodAll_cons hA
  obtain ⟨v1, vs1, d1, ds1, p1, q1, rfl, rfl, rfl, h1, r1⟩ := trodAll_cons r0
  obtain ⟨v2, vs2, d2, ds2, p2, q2, rfl, rfl, rfl, h2, r2⟩ := trodAll_cons r1
  obtain ⟨rfl, rfl, rfl⟩ := trodAll_nil r2
  obtain rfl : args = #[v0, v1, v2] := by cases args; simp_all
  obtain ⟨rfl, rfl⟩ := trodVars_none hV
  obtain ⟨a0_0, a0_1, a0_2, rfl, z0_0, z0_1, z0_2⟩ := open_gav (hval 0 23 v0 rfl rfl) h0
  obtain ⟨a1_0, a1_1, a1_2, a1_3, rfl, z1_0, z1_1, z1_2, z1_3⟩ := open_key (hval 1 25 v1 rfl rfl) h1
  obtain ⟨a2_0, a2_1, rfl, z2_0, z2_1⟩ := open_id (hval 2 27 v2 rfl rfl) h2
  clear hA0 hval0
  refine (walk_CoordIds a0_0 a0_1 a0_2 z0_0 z0_1 z0_2 a1_0 a1_1 a1_2 a1_3 z1_0 z1_1 z1_2 z1_3 a2_0 a2_1 z2_0 z2_1 W hm).mono fun e W' ⟨he, hb⟩ => ?_
  subst he
  exact ⟨_, rfl, law_post (by kernel_rfl) rfl rfl rfl hW' hb⟩
theorem said_CoordIds : Rows.CoordIdsSaid :=
  OpenClaim.holds_of_cond 3 Tryd.f3 rfl rfl rfl rfl rfl rfl rfl ⟨rfl, rfl, rfl, rfl, rfl⟩ rfl rfl rfl rfl rfl (by kernel_rfl) Tryd.func3 (by kernel_rfl)
    (of_decide_eq_true (by kernel_rfl)) (by unfold Func.isWrapper; first | (rw [if_pos (by decide +kernel)]; kernel_rfl) | (rw [if_neg (by decide +kernel)]; exact ⟨rfl, rfl⟩))
    (fun os started H enc _ F => by rw [OpenClaim.pre_eq_preRow]; exact lifted_CoordIds os started H enc F)
theorem plain_CoordIds (f : FuncId) (fn : Func) (hf : Tryd.pinned.checked.prog.funcNamed "pomace/pomacelaw06.CoordIds" = some f) (hfn : Tryd.pinned.checked.prog.funcs[f]? = some fn) :
    false = Tryd.pinned.checked.prog.looks [] ∧ ∀ (j : Nat) t, fn.params[j]? = some t → Tryd.pinned.checked.prog.wantsStandIn t = false := by
  obtain rfl : f = 3 := Option.some.inj ((show Tryd.prog.funcNamed "pomace/pomacelaw06.CoordIds" = some 3 by kernel_rfl).symm.trans hf) |>.symm
  obtain rfl : fn = Tryd.f3 := (Option.some.inj (Tryd.func3.symm.trans hfn)).symm
  refine ⟨by kernel_rfl, fun j t ht => ?_⟩
  rw [Tryd.params3] at ht
  have h := Array.mem_of_getElem? ht
  simp only [List.mem_toArray, List.mem_cons, List.not_mem_nil, or_false] at h
  rcases h with rfl | rfl | rfl
  all_goals first
    | exact (show Tryd.prog.wantsStandIn 23 = false by kernel_rfl)
    | exact (show Tryd.prog.wantsStandIn 25 = false by kernel_rfl)
    | exact (show Tryd.prog.wantsStandIn 27 = false by kernel_rfl)

/-- the statement of CoordIds: its card -/
theorem proved_CoordIds : Rows.CoordIdsCardSaid :=
  Claim7.holds_tied_plain_at .later [] _ _ _ _ said_CoordIds (fun _ h => by cases h) (by kernel_rfl) (fun _ h => by cases h) coordIds_row_tie rfl ⟨rfl, rfl⟩ (by kernel_rfl) rfl plain_CoordIds (by kernel_rfl)
end Go.Proofs.YtinhedegbaegnaaDoor
