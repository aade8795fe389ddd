/-
  Layer 5: the card BoundsHas: whether any range has any version. For every input. Own work.
-/
import Derived.Test.YtnghagikchffiaaDoorHas5b
import Derived.Test.YtnghagikchffiaaDoorLives5
import Derived.Test.YtnghagikchffiaaDoorDoor
import Derived.Lib.LaidU8
namespace Go.Proofs.YtnghagikchffiaaDoor
set_option linter.unusedVariables false
set_option linter.unusedSimpArgs false
open Go.ChangeShapes Go.WideShapes Go.ChangeAt Go.RowKit
open Go.ChangeMaps (open_string shut_string)

/-- the cells of the variable that holds the range -/
theorem keep_rng {w w1 w2 : World} {B : Nat} {x0 x1 x2 : Value} (h : w1.cell? ⟨B, 0, none⟩ = some x0 ∧ w1.cell? ⟨B, 1, none⟩ = some x1 ∧ w1.cell? ⟨B, 2, none⟩ = some x2 ∧ Below w.heap.size w w1) (hb : Below w1.heap.size w1 w2) :
    w2.cell? ⟨B, 0, none⟩ = some x0 ∧ w2.cell? ⟨B, 1, none⟩ = some x1 ∧ w2.cell? ⟨B, 2, none⟩ = some x2 ∧ Below w.heap.size w w2 := by
  obtain ⟨h0, h1, h2, h3⟩ := h
  have hc : ∀ {A : Addr} {x : Value}, w1.cell? A = some x → w2.cell? A = some x := fun hx => (hb.cell (World.block_lt_of_cell? w1 _ hx)).trans hx
  exact ⟨hc h0, hc h1, hc h2, h3.trans (hb.mono h3.size)⟩
theorem keep_rngd {w w1 : World} {B : Nat} {x0 x1 x2 : Value} (h : w1.cell? ⟨B, 0, none⟩ = some x0 ∧ w1.cell? ⟨B, 1, none⟩ = some x1 ∧ w1.cell? ⟨B, 2, none⟩ = some x2 ∧ Below w.heap.size w w1) :
    w1.drew.cell? ⟨B, 0, none⟩ = some x0 ∧ w1.drew.cell? ⟨B, 1, none⟩ = some x1 ∧ w1.drew.cell? ⟨B, 2, none⟩ = some x2 ∧ Below w.heap.size w w1.drew := ⟨h.1, h.2.1, h.2.2.1, h.2.2.2.drew⟩
theorem rng_below {w w1 : World} {B : Nat} {x0 x1 x2 : Value} (h : w1.cell? ⟨B, 0, none⟩ = some x0 ∧ w1.cell? ⟨B, 1, none⟩ = some x1 ∧ w1.cell? ⟨B, 2, none⟩ = some x2 ∧ Below w.heap.size w w1) : Below w.heap.size w w1 := h.2.2.2
set_option maxRecDepth 100000 in
set_option maxHeartbeats 2000000 in
theorem walk_BoundsHas (hard : Bool) (ver : ByteArray) (pv : Value) (l : List Iv) (hver : okV ver) (hl : ∀ p ∈ l, okV p.lo.ver ∧ okV p.hi.ver) (w : World) (hr : RdI w pv l) (v : ByteArray) (hv : v.size ≤ 9223372036854775807) (hT : Lib.Utf8Tabs 1 2 w) :
    Calls Tryd.prog 5 #[.agg #[.bool hard, .string ver, pv], .string v] w fun e w' => e = .returned (.bool true) ∧ Below w.heap.size w w' := by
  obtain ⟨pa, pc, rfl⟩ := rd_shape hr
  have HL := Lib.hid (fun w' (hb : Below w.heap.size w w') => (lives05 w' (Utf8Tabs_below hT hb)).mono fun e w2 (h : e = .returned (.bool true) ∧ Below w'.heap.size w' w2) => h)
  have HCUT := Lib.hid (fun w => cut_at v hv w)
  have HLI := Lib.hid (fun w' (hb : Below w.heap.size w w') => Light_at hard ver _ l hver hl w' (hr.below hb (Nat.le_refl _)))
  have HRR := Lib.hid (fun w' (hb : Below w.heap.size w w') => hr.below hb (Nat.le_refl _))
  have hb0 : Below w.heap.size w (w.alloc (.cells #[.bool hard, .string ver, .slice pa l.length pc] 25)) := (Below.refl w.heap.size w).alloc (Nat.le_refl _) _
  have HB0 := Lib.hid hb0
  clear hb0 hr hT hver hl
  go_enter Tryd.func5, Tryd.ntmps5
  go_wp2_with fail
  refine (HCUT.out _).mono ?_
  rintro e w1 ⟨t, rfl, ht, rfl⟩
  go_wp2_with fail
  refine (HLI.out _ HB0.out).mono ?_
  rintro e w2 ⟨b, rfl, hlight, hb2⟩
  have a0 : w2.cell? ⟨w.heap.size, 0, none⟩ = some (.bool hard) := (hb2.cell (p := ⟨w.heap.size, 0, none⟩) (by simp)).trans (by simp [go_sem])
  have a1 : w2.cell? ⟨w.heap.size, 1, none⟩ = some (.string ver) := (hb2.cell (p := ⟨w.heap.size, 1, none⟩) (by simp)).trans (by simp [go_sem])
  have a2 : w2.cell? ⟨w.heap.size, 2, none⟩ = some (.slice pa l.length pc) := (hb2.cell (p := ⟨w.heap.size, 2, none⟩) (by simp)).trans (by simp [go_sem])
  have HB2 := Lib.hid (HB0.out.trans (hb2.mono HB0.out.size))
  clear hb2
  cases b
  · clear hlight
    go_wp2_with fail
    refine (HL.out _ HB2.out).mono ?_
    rintro e w3 ⟨rfl, hb3⟩
    go_wp2
    go_ret
    exact ⟨rfl, HB2.out.trans (hb3.mono HB2.out.size)⟩
  have hsm := (hlight rfl).small
  have H1 := Lib.hid (fun w' (hb : Below w.heap.size w w') => Has_any hard ver _ l t hsm (by omega) w' (HRR.out w' hb))
  have H2 := Lib.hid (fun w' (hb : Below w.heap.size w w') => refHas_at hard ver _ l t hsm (by omega) w' (HRR.out w' hb))
  clear hlight hsm
  generalize (!hard || l.any fun p => inB p t) = hb at H1 H2
  have hst := HB2.out
  cases hb
  all_goals
    go_wp2_with fail
    go_region_held3 (fun w' => w'.cell? ⟨w.heap.size, 0, none⟩ = some (.bool hard) ∧ w'.cell? ⟨w.heap.size, 1, none⟩ = some (.string ver) ∧ w'.cell? ⟨w.heap.size, 2, none⟩ = some (.slice pa l.length pc) ∧ Below w.heap.size w w')
      (first | exact ⟨a0, a1, a2, hst.drew⟩ | (with_reducible exact keep_rngd (by assumption)) | (with_reducible exact keep_rng (by assumption) (by assumption)))
      (first
        | (go_at_call 17; with_reducible refine (H1.out _ (rng_below (by assumption))).mono ?_; rintro e wq ⟨rfl, hbq⟩)
        | (go_at_call 18; with_reducible refine (H2.out _ (rng_below (by assumption))).mono ?_; rintro e wq ⟨rfl, hbq⟩)
        | (go_at_call 13; with_reducible refine (HL.out _ (rng_below (by assumption))).mono ?_; rintro e wq ⟨rfl, hbq⟩))
    go_wp2
    go_ret
    exact ⟨rfl, rng_below (by assumption)⟩

theorem laid_met_BoundsHas (os : Os) : laidMet Tryd.prog Rows.boundsHasRow.laid ((laidWorld #[.agg #[.bool false, .string .empty, .slice none 0 0], .string .empty] os).forCall (fun _ _ => 0) ⟨#[], #[.agg #[.bool false, .string .empty, .slice none 0 0], .string .empty], []⟩).memory :=
  laidMet_of_run' 8 (by kernel_rfl) (by kernel_rfl)
theorem reads_BoundsHas (os : Os) {H : Type} (enc : TypeId × Value → H) : ∃ places, DataW.whole enc Tryd.prog ((laidWorld #[.agg #[.bool false, .string .empty, .slice none 0 0], .string .empty] os).forCall (fun _ _ => 0) ⟨#[], #[.agg #[.bool false, .string .empty, .slice none 0 0], .string .empty], []⟩).memory Tryd.f5.params.toList Rows.boundsHasSpec.vars false (#[.agg #[.bool false, .string .empty, .slice none 0 0], .string .empty] : Array Value).toList 8 = some ([.agg [.lit (.bool false), .lit (.string []), .nil], .lit (.string [])], [], places) :=
  ⟨[], by kernel_rfl⟩
set_option maxRecDepth 100000 in
theorem lifted_BoundsHas (os : Os) (started : os.Started) (H : Type) (enc : TypeId × Value → H) (F : Stop.Interp) :
    ReturnsInHanded {} Tryd.checked os 5 .any ((OpenSpec.ofChange Rows.boundsHasSpec).preRow enc Tryd.prog Tryd.f5 Rows.boundsHasRow.domain false Rows.boundsHasRow.laid) (((OpenSpec.ofChange Rows.boundsHasSpec).at F).post enc Tryd.prog Tryd.f5 false true false false) := by
  obtain ⟨places, hx⟩ := reads_BoundsHas os enc
  refine returnsInHanded_of_row (C := Tryd.checked) (s := OpenSpec.ofChange Rows.boundsHasSpec) own_knob started (by kernel_rfl) Tryd.func5
    (witness_row_at (enc := enc) (C := Tryd.checked) false (laidWorld #[.agg #[.bool false, .string .empty, .slice none 0 0], .string .empty] os) #[.agg #[.bool false, .string .empty, .slice none 0 0], .string .empty] rfl (by kernel_rfl) (by kernel_rfl) (by kernel_rfl)
      (OpenSpec.preRow_of_cond 8 hx (by kernel_rfl) (fun k hk => by cases hk) (by kernel_rfl) (laid_met_BoundsHas os))) ?_
  intro W base args ds gs before hval0 hW _ _ _ hL hsh _
  have hU : Lib.Utf8Tabs 1 2 W :=
    utf8Tabs_of_reads (ρ := Tryd.lays260_ren) { Tryd.lays260 with } ⟨by kernel_rfl, by kernel_rfl, by kernel_rfl, by kernel_rfl, by kernel_rfl, by kernel_rfl, by kernel_rfl⟩ (Lib.laidMet.reads hL (.tail _ (.head _))) (Lib.laidMet.reads hL (.head _))
  have hval : ∀ (j : Nat) t v, Tryd.f5.params[j]? = some t → args[j]? = some v → Value.okWide Tryd.prog W .any base t v := hval0
  have hW' := hW
  obtain ⟨p, q, hA0, hV, rfl, _, _⟩ := hW
  have hA : DataW.TrodAll enc Tryd.prog W 0 (fun _ => true) true Tryd.f5.params.toList args.toList ds p := hA0
  rw [Tryd.params5] at hA hval
  obtain ⟨v0, vs0, d0, ds0, p0, q0, hargs, rfl, rfl, h0, r0⟩ := trodAll_cons hA
  obtain ⟨v1, vs1, d1, ds1, p1, q1, rfl, rfl, rfl, h1, r1⟩ := trodAll_cons r0
  obtain ⟨rfl, rfl, rfl⟩ := trodAll_nil r1
  obtain rfl : args = #[v0, v1] := by cases args; simp_all
  obtain ⟨rfl, rfl⟩ := trodVars_none hV
  obtain ⟨hd0, vr0, pv0, l0, rfl, rd0, ov0, ol0⟩ := open_range (hval 0 25 v0 rfl rfl) h0
  obtain ⟨a1, rfl, rfl, rfl, w1⟩ := open_string Tryd.underlying9 (hval 1 9 v1 rfl rfl) h1
  clear hA0 hval0
  refine (walk_BoundsHas hd0 vr0 pv0 l0 ov0 ol0 W rd0 a1 (by unfold maxLen at w1; exact w1) hU).mono fun e W' ⟨he, hb⟩ => ?_
  subst he
  exact ⟨_, rfl, law_post (by kernel_rfl) rfl rfl rfl hW' hb⟩
theorem said_BoundsHas : Rows.BoundsHasSaid :=
  OpenClaim.holds_of_cond 5 Tryd.f5 rfl rfl rfl rfl rfl rfl rfl ⟨rfl, rfl, rfl, rfl, rfl⟩ rfl rfl rfl rfl rfl (by kernel_rfl) Tryd.func5 (by kernel_rfl)
    (of_decide_eq_true (by kernel_rfl)) (by unfold Func.isWrapper; first | (rw [if_pos (by decide +kernel)]; kernel_rfl) | (rw [if_neg (by decide +kernel)]; exact ⟨rfl, rfl⟩))
    (fun os started H enc _ F => by rw [OpenClaim.pre_eq_preRow]; exact lifted_BoundsHas os started H enc F)
set_option maxRecDepth 100000 in
theorem plain_BoundsHas (f : FuncId) (fn : Func) (hf : Tryd.pinned.checked.prog.funcNamed "pomace/pomacelaw05.BoundsHas" = some f) (hfn : Tryd.pinned.checked.prog.funcs[f]? = some fn) :
    true = Tryd.pinned.checked.prog.looks [] ∧ ∀ (j : Nat) t, fn.params[j]? = some t → Tryd.pinned.checked.prog.wantsStandIn t = false := by
  obtain rfl : f = 5 := Option.some.inj ((show Tryd.prog.funcNamed "pomace/pomacelaw05.BoundsHas" = some 5 by kernel_rfl).symm.trans hf) |>.symm
  obtain rfl : fn = Tryd.f5 := (Option.some.inj (Tryd.func5.symm.trans hfn)).symm
  refine ⟨by kernel_rfl, fun j t ht => ?_⟩
  rw [Tryd.params5] at ht
  have h := Array.mem_of_getElem? ht
  simp only [List.mem_toArray, List.mem_cons, List.not_mem_nil, or_false] at h
  rcases h with rfl | rfl
  all_goals first
    | exact (show Tryd.prog.wantsStandIn 25 = false by kernel_rfl)
    | exact (show Tryd.prog.wantsStandIn 9 = false by kernel_rfl)

/-- the statement of BoundsHas: its card -/
theorem proved_BoundsHas : Rows.BoundsHasCardSaid :=
  Claim7.holds_tied_plain_at .later [] _ _ _ _ said_BoundsHas (fun _ h => by cases h) (by kernel_rfl) (fun _ h => by cases h) boundsHas_row_tie rfl ⟨rfl, rfl⟩ (by kernel_rfl) rfl plain_BoundsHas (by kernel_rfl)
end Go.Proofs.YtnghagikchffiaaDoor
