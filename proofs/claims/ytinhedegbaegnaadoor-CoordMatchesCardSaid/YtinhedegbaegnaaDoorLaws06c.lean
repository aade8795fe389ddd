/-
  Layer 6: the card CoordMatches.
-/
import Derived.Test.YtinhedegbaegnaaDoorOpen6
import Derived.Deep.RegionHeld3
namespace Go.Proofs.YtinhedegbaegnaaDoor
set_option linter.unusedVariables false
set_option linter.unusedSimpArgs false
open Go.ChangeShapes Go.WideShapes Go.ChangeAt Go.RowKit
open Go.ChangeMaps (open_string shut_string)

theorem keep4 {w w1 w2 : World} {x0 x1 y0 y1 : Value} (h : w1.cell? ⟨w.heap.size, 0, none⟩ = some x0 ∧ w1.cell? ⟨w.heap.size, 1, none⟩ = some x1 ∧ w1.cell? ⟨w.heap.size + 1, 0, none⟩ = some y0 ∧ w1.cell? ⟨w.heap.size + 1, 1, none⟩ = some y1 ∧ w.heap.size + 2 ≤ w1.heap.size ∧ Below w.heap.size w w1) (hb : Below w1.heap.size w1 w2) :
    w2.cell? ⟨w.heap.size, 0, none⟩ = some x0 ∧ w2.cell? ⟨w.heap.size, 1, none⟩ = some x1 ∧ w2.cell? ⟨w.heap.size + 1, 0, none⟩ = some y0 ∧ w2.cell? ⟨w.heap.size + 1, 1, none⟩ = some y1 ∧ w.heap.size + 2 ≤ w2.heap.size ∧ Below w.heap.size w w2 := by
  obtain ⟨h0, h1, h2, h3, h4, h5⟩ := h
  exact ⟨below_cell hb (by simp only; omega) h0, below_cell hb (by simp only; omega) h1, below_cell hb (by simp only; omega) h2, below_cell hb (by simp only; omega) h3, Nat.le_trans h4 hb.size, h5.trans (hb.mono (by omega))⟩
theorem keepB {w w1 : World} {x0 x1 y0 y1 : Value} (h : w1.cell? ⟨w.heap.size, 0, none⟩ = some x0 ∧ w1.cell? ⟨w.heap.size, 1, none⟩ = some x1 ∧ w1.cell? ⟨w.heap.size + 1, 0, none⟩ = some y0 ∧ w1.cell? ⟨w.heap.size + 1, 1, none⟩ = some y1 ∧ w.heap.size + 2 ≤ w1.heap.size ∧ Below w.heap.size w w1) : Below w.heap.size w w1 := h.2.2.2.2.2
theorem matchB_self (g a : ByteArray) : matchB g a g a = true := by simp [matchB]
theorem matchB_star (g a : ByteArray) : matchB ⟨#[42]⟩ ⟨#[42]⟩ g a = true := by
  have h : ((⟨#[42]⟩ : ByteArray).toList == [42]) = true := by kernel_rfl
  unfold matchB
  rw [h]; rfl

set_option maxHeartbeats 2000000 in
theorem walk_CoordMatches (pg pa : ByteArray) (z0 : pg.size ≤ 9223372036854775807) (z1 : pa.size ≤ 9223372036854775807) (g a : ByteArray) (z2 : g.size ≤ 9223372036854775807) (z3 : a.size ≤ 9223372036854775807) (w : World) (hm : MaxOk w) :
    Calls Tryd.prog 10 #[idV pg pa, idV g a] w fun e w' => e = .returned (.bool true) ∧ Below w.heap.size w w' := by
  have h1 := fun w => Matches_any pg pa g a w
  have h2 := fun w => refMatches_any pg pa g a w
  have h3 := fun w => Matches_any g a g a w
  have h4 := fun w => Matches_any ⟨#[42]⟩ ⟨#[42]⟩ g a w
  rw [matchB_self] at h3
  rw [matchB_star] at h4
  unfold idV at h1 h2 h3 h4 ⊢
  generalize matchB pg pa g a = r at h1 h2
  have H1 := Lib.hid h1; clear h1
  have H2 := Lib.hid h2; clear h2
  have H3 := Lib.hid h3; clear h3
  have H4 := Lib.hid h4; clear h4
  have HM := Lib.hid hm; clear hm
  have hlives : ∀ w', Below w.heap.size w w' → Calls Tryd.prog 11 #[] w' fun e w2 => e = .returned (.bool true) ∧ Below w.heap.size w w2 := fun w' hb =>
    (lives06 w' (HM.out.below hb (Nat.le_refl _))).mono fun e w2 ⟨he, hb2⟩ => ⟨he, hb.trans (hb2.mono hb.size)⟩
  have HL := Lib.hid hlives; clear hlives
  by_cases hbig : (pg.size > 400 ∨ pa.size > 400) ∨ (g.size > 400 ∨ a.size > 400)
  · go_enter Tryd.func10, Tryd.ntmps10
    go_wp2_with fail
    all_goals
      refine (HL.out _ (by repeat (first | exact Below.refl _ _ | refine below_al' _ ?_ (Nat.le_refl _)))).mono ?_
      rintro e w2 ⟨rfl, hb⟩
      go_wp2
      go_ret
      exact ⟨rfl, hb⟩
  · have b1 : (pg.size : Int) ≤ 400 := by omega
    have b2 : (pa.size : Int) ≤ 400 := by omega
    have b3 : (g.size : Int) ≤ 400 := by omega
    have b4 : (a.size : Int) ≤ 400 := by omega
    clear hbig
    go_enter Tryd.func10, Tryd.ntmps10
    go_wp2_with fail
    go_region_held3 (fun w' => w'.cell? ⟨w.heap.size, 0, none⟩ = some (.string pg) ∧ w'.cell? ⟨w.heap.size, 1, none⟩ = some (.string pa) ∧ w'.cell? ⟨w.heap.size + 1, 0, none⟩ = some (.string g) ∧ w'.cell? ⟨w.heap.size + 1, 1, none⟩ = some (.string a) ∧ w.heap.size + 2 ≤ w'.heap.size ∧ Below w.heap.size w w')
      (first | exact keep4 (by assumption) (by assumption) | (refine ⟨?_, ?_, ?_, ?_, ?_, ?_⟩ <;> first | (simp [go_sem]; done) | (simp [go_sem]; omega) | (repeat (first | exact Below.refl _ _ | apply Below.drew | refine below_al' _ ?_ (Nat.le_refl _)))))
      (first
        | (go_at_call 37; first | (with_reducible refine (H1.out _).mono ?_; rintro e w1 ⟨rfl, hb1⟩) | (with_reducible refine (H3.out _).mono ?_; rintro e w1 ⟨rfl, hb1⟩) | (with_reducible refine (H4.out _).mono ?_; rintro e w1 ⟨rfl, hb1⟩))
        | (go_at_call 11; with_reducible refine (lives06 _ (HM.out.below (keepB (by assumption)) (Nat.le_refl _))).mono ?_; rintro e w1 ⟨rfl, hb1⟩)
        | (go_at_call 38; refine (H2.out _).mono ?_; rintro e w1 ⟨rfl, hb1⟩))
    go_wp2
    go_ret
    exact ⟨rfl, keepB (by assumption)⟩

theorem laid_met_CoordMatches (os : Os) : laidMet Tryd.prog Rows.coordMatchesRow.laid ((laidWorld #[.agg #[.string .empty, .string .empty], .agg #[.string .empty, .string .empty]] os).forCall (fun _ _ => 0) ⟨#[], #[.agg #[.string .empty, .string .empty], .agg #[.string .empty, .string .empty]], []⟩).memory :=
  laidMet_of_run' 8 (by kernel_rfl) (by kernel_rfl)
theorem reads_CoordMatches (os : Os) {H : Type} (enc : TypeId × Value → H) : ∃ places, DataW.whole enc Tryd.prog ((laidWorld #[.agg #[.string .empty, .string .empty], .agg #[.string .empty, .string .empty]] os).forCall (fun _ _ => 0) ⟨#[], #[.agg #[.string .empty, .string .empty], .agg #[.string .empty, .string .empty]], []⟩).memory Tryd.f10.params.toList Rows.coordMatchesSpec.vars false (#[.agg #[.string .empty, .string .empty], .agg #[.string .empty, .string .empty]] : Array Value).toList 8 = some ([.agg [.lit (.string []), .lit (.string [])], .agg [.lit (.string []), .lit (.string [])]], [], places) :=
  ⟨[], by kernel_rfl⟩
set_option maxRecDepth 100000 in
theorem lifted_CoordMatches (os : Os) (started : os.Started) (H : Type) (enc : TypeId × Value → H) (F : Stop.Interp) :
    ReturnsInHanded {} Tryd.checked os 10 .any ((OpenSpec.ofChange Rows.coordMatchesSpec).preRow enc Tryd.prog Tryd.f10 Rows.coordMatchesRow.domain false Rows.coordMatchesRow.laid) (((OpenSpec.ofChange Rows.coordMatchesSpec).at F).post enc Tryd.prog Tryd.f10 false true false false) := by
  obtain ⟨places, hx⟩ := reads_CoordMatches os enc
  refine returnsInHanded_of_row (C := Tryd.checked) (s := OpenSpec.ofChange Rows.coordMatchesSpec) own_knob started (by kernel_rfl) Tryd.func10
    (witness_row_at (enc := enc) (C := Tryd.checked) false (laidWorld #[.agg #[.string .empty, .string .empty], .agg #[.string .empty, .string .empty]] os) #[.agg #[.string .empty, .string .empty], .agg #[.string .empty, .string .empty]] rfl (by kernel_rfl) (by kernel_rfl) (by kernel_rfl)
      (OpenSpec.preRow_of_cond 8 hx (by kernel_rfl) (fun k hk => by cases hk) (by kernel_rfl) (laid_met_CoordMatches os))) ?_
  intro W base args ds gs before hval0 hW _ _ _ _ hsh _
  have hval : ∀ (j : Nat) t v, Tryd.f10.params[j]? = some t → args[j]? = some v → Value.okWide Tryd.prog W .any base t v := hval0
  have hm : MaxOk W := maxOk_of (maxLen_cell W hsh)
  have hW' := hW
  obtain ⟨p, q, hA0, hV, rfl, _, _⟩ := hW
  have hA : DataW.TrodAll enc Tryd.prog W 0 (fun _ => true) true Tryd.f10.params.toList args.toList ds p := hA0
  rw [Tryd.params10] at hA hval
  obtain ⟨v0, vs0, d0, ds0, p0, q0, hargs, rfl, rfl, h0, r0⟩ := trodAll_cons hA
  obtain ⟨v1, vs1, d1, ds1, p1, q1, rfl, rfl, rfl, h1, r1⟩ := trodAll_cons r0
  obtain ⟨rfl, rfl, rfl⟩ := trodAll_nil r1
  obtain rfl : args = #[v0, v1] := by cases args; simp_all
  obtain ⟨rfl, rfl⟩ := trodVars_none hV
  obtain ⟨a0_0, a0_1, rfl, z0_0, z0_1⟩ := open_id (hval 0 27 v0 rfl rfl) h0
  obtain ⟨a1_0, a1_1, rfl, z1_0, z1_1⟩ := open_id (hval 1 27 v1 rfl rfl) h1
  clear hA0 hval0
  refine (walk_CoordMatches a0_0 a0_1 z0_0 z0_1 a1_0 a1_1 z1_0 z1_1 W hm).mono fun e W' ⟨he, hb⟩ => ?_
  subst he
  exact ⟨_, rfl, law_post (by kernel_rfl) rfl rfl rfl hW' hb⟩
theorem said_CoordMatches : Rows.CoordMatchesSaid :=
  OpenClaim.holds_of_cond 10 Tryd.f10 rfl rfl rfl rfl rfl rfl rfl ⟨rfl, rfl, rfl, rfl, rfl⟩ rfl rfl rfl rfl rfl (by kernel_rfl) Tryd.func10 (by kernel_rfl)
    (of_decide_eq_true (by kernel_rfl)) (by unfold Func.isWrapper; first | (rw [if_pos (by decide +kernel)]; kernel_rfl) | (rw [if_neg (by decide +kernel)]; exact ⟨rfl, rfl⟩))
    (fun os started H enc _ F => by rw [OpenClaim.pre_eq_preRow]; exact lifted_CoordMatches os started H enc F)
theorem plain_CoordMatches (f : FuncId) (fn : Func) (hf : Tryd.pinned.checked.prog.funcNamed "pomace/pomacelaw06.CoordMatches" = some f) (hfn : Tryd.pinned.checked.prog.funcs[f]? = some fn) :
    false = Tryd.pinned.checked.prog.looks [] ∧ ∀ (j : Nat) t, fn.params[j]? = some t → Tryd.pinned.checked.prog.wantsStandIn t = false := by
  obtain rfl : f = 10 := Option.some.inj ((show Tryd.prog.funcNamed "pomace/pomacelaw06.CoordMatches" = some 10 by kernel_rfl).symm.trans hf) |>.symm
  obtain rfl : fn = Tryd.f10 := (Option.some.inj (Tryd.func10.symm.trans hfn)).symm
  refine ⟨by kernel_rfl, fun j t ht => ?_⟩
  rw [Tryd.params10] at ht
  have h := Array.mem_of_getElem? ht
  simp only [List.mem_toArray, List.mem_cons, List.not_mem_nil, or_false] at h
  rcases h with rfl | rfl
  all_goals first
    | exact (show Tryd.prog.wantsStandIn 27 = false by kernel_rfl)

/-- the statement of CoordMatches: its card -/
theorem proved_CoordMatches : Rows.CoordMatchesCardSaid :=
  Claim7.holds_tied_plain_at .later [] _ _ _ _ said_CoordMatches (fun _ h => by cases h) (by kernel_rfl) (fun _ h => by cases h) coordMatches_row_tie rfl ⟨rfl, rfl⟩ (by kernel_rfl) rfl plain_CoordMatches (by kernel_rfl)
end Go.Proofs.YtinhedegbaegnaaDoor
