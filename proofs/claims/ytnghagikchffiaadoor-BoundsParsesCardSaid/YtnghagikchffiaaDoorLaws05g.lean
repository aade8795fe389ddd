/-
  Layer 5: the card BoundsParses: the range of any text, or that it is none. For every input. Own work.
-/
import Derived.Test.YtnghagikchffiaaDoorRefParse5
import Derived.Test.YtnghagikchffiaaDoorRefSame5
import Derived.Test.YtnghagikchffiaaDoorHas5
import Derived.Test.YtnghagikchffiaaDoorLives5
import Derived.Test.YtnghagikchffiaaDoorMeet5b
import Derived.Test.YtnghagikchffiaaDoorDoor
import Derived.Lib.LaidU8
namespace Go.Proofs.YtnghagikchffiaaDoor
set_option linter.unusedVariables false
set_option linter.unusedSimpArgs false
open Go.ChangeShapes Go.WideShapes Go.ChangeAt Go.RowKit
open Go.ChangeMaps (open_string shut_string)

set_option maxRecDepth 100000 in
set_option maxHeartbeats 4000000 in
theorem walk_BoundsParses (s : ByteArray) (hs : s.size ≤ 9223372036854775807) (w : World) (hT : Lib.Utf8Tabs 1 2 w) :
    Calls Tryd.prog 3 #[.string s] w fun e w' => e = .returned (.bool true) ∧ Below w.heap.size w w' := by
  have HCUT := Lib.hid (fun w => cut_at s hs w)
  have HLV := Lib.hid (fun w' (hb : Below w.heap.size w w') => lives05 w' (Utf8Tabs_below hT hb))
  have HT := Lib.hid hT
  have HB0 := Lib.hid (Below.refl w.heap.size w)
  clear hT hs
  go_enter Tryd.func3, Tryd.ntmps3
  go_wp2_with fail
  refine (HCUT.out _).mono ?_
  rintro e wq ⟨t, rfl, htz, rfl⟩
  have HRP := Lib.hid (fun w' => refParse_any t (by omega) w')
  cases hm : parseM t with
  | none =>
    have HP := Lib.hid (fun w' hb => parse_not hm (by omega) _ w' HT.out hb)
    have HM := Lib.hid hm
    clear hm
    go_wp2_with fail
    refine (HP.out _ HB0.out).mono ?_
    rintro e w2 ⟨rfl, hb2⟩
    have hb2a := hb2.alloc hb2.size (.cells #[.bool false, .string .empty, .slice none 0 0] 25)
    have HB2 := Lib.hid (HB0.out.trans (hb2a.mono HB0.out.size))
    have Q2 := Lib.hid (show VarR (w2.alloc (.cells #[.bool false, .string .empty, .slice none 0 0] 25)) w2.heap.size false .empty (.slice none 0 0) [] from VarR.new (.inl ⟨rfl, rfl⟩))
    clear hb2 hb2a
    go_upto_region 3 with fail
    generalize (w2.alloc (.cells #[.bool false, .string .empty, .slice none 0 0] 25)) = w3 at HB2 Q2 ⊢
    generalize w2.heap.size = R1 at Q2 ⊢
    go_wp2_with fail
    refine (HRP.out _).mono ?_
    rintro e w4 ⟨h, v, l, pa, pc, ok, rfl, hrd, hb4, hor⟩
    obtain rfl : ok = false := by
      rcases hor with ⟨_, hc⟩ | ⟨h, _⟩
      · rw [HM.out] at hc; cases hc
      · exact h
    have hb4a := hb4.alloc hb4.size (.cells #[.bool h, .string v, .slice pa l.length pc] 25)
    have HB4 := Lib.hid (HB2.out.trans (hb4a.mono HB2.out.size))
    have Q4 := Lib.hid (Q2.out.below hb4a)
    clear hb4 hb4a hrd hor Q2 HB2
    go_upto_region 4 with fail
    generalize (w4.alloc (.cells #[.bool h, .string v, .slice pa l.length pc] 25)) = w5 at HB4 Q4 ⊢
    obtain ⟨x0, x1, x2⟩ := Q4.out.cells
    go_wp2_with fail
    refine (refSame_eq false .empty _ _ [] _ Q4.out.2 (.inl ⟨rfl, rfl⟩)).mono ?_
    rintro e w6 ⟨rfl, hb6⟩
    have HB6 := Lib.hid (HB4.out.trans (hb6.mono HB4.out.size))
    clear hb6 x0 x1 x2 Q4 HB4
    go_wp2_with fail
    refine (HLV.out _ HB6.out).mono ?_
    rintro e wz ⟨rfl, hbz⟩
    go_wp2
    go_ret
    exact ⟨rfl, (HB6.out).trans (hbz.mono (HB6.out).size)⟩
  | some r =>
    obtain ⟨h, v, l⟩ := r
    have HP := Lib.hid (fun w' hb => parse_ok hm (by omega) _ w' HT.out hb)
    have HM := Lib.hid hm
    clear hm
    go_wp2_with fail
    refine (HP.out _ HB0.out).mono ?_
    rintro e w2 ⟨qa, qc, rfl, hrq, hb2⟩
    have hb2a := hb2.alloc hb2.size (.cells #[.bool h, .string v, .slice qa l.length qc] 25)
    have HB2 := Lib.hid (HB0.out.trans (hb2a.mono HB0.out.size))
    have Q2 := Lib.hid (show VarR (w2.alloc (.cells #[.bool h, .string v, .slice qa l.length qc] 25)) w2.heap.size h v (.slice qa l.length qc) l from VarR.new hrq)
    clear hb2 hb2a hrq
    go_upto_region 3 with fail
    generalize (w2.alloc (.cells #[.bool h, .string v, .slice qa l.length qc] 25)) = w3 at HB2 Q2 ⊢
    generalize w2.heap.size = R1 at Q2 ⊢
    go_wp2_with fail
    refine (HRP.out _).mono ?_
    rintro e w4 ⟨h', v', l', pa, pc, ok, rfl, hrd, hb4, hor⟩
    obtain ⟨rfl, hc⟩ : ok = true ∧ parseM t = some (h', v', l') := by
      rcases hor with hc | ⟨_, hc⟩
      · exact hc
      · rw [HM.out] at hc; cases hc
    obtain ⟨rfl, rfl, rfl⟩ : h = h' ∧ v = v' ∧ l = l' := by
      rw [HM.out] at hc
      cases hc
      exact ⟨rfl, rfl, rfl⟩
    have hb4a := hb4.alloc hb4.size (.cells #[.bool h, .string v, .slice pa l.length pc] 25)
    have HB4 := Lib.hid (HB2.out.trans (hb4a.mono HB2.out.size))
    have Q4 := Lib.hid (Q2.out.below hb4a)
    have QQ := Lib.hid (show VarR (w4.alloc (.cells #[.bool h, .string v, .slice pa l.length pc] 25)) w4.heap.size h v (.slice pa l.length pc) l from VarR.new hrd)
    clear hb4 hb4a hrd hor hc Q2 HB2
    go_upto_region 4 with fail
    generalize (w4.alloc (.cells #[.bool h, .string v, .slice pa l.length pc] 25)) = w5 at HB4 Q4 QQ ⊢
    generalize w4.heap.size = R2 at QQ ⊢
    obtain ⟨x0, x1, x2⟩ := Q4.out.cells
    obtain ⟨y0, y1, y2⟩ := QQ.out.cells
    go_wp2_with fail
    refine (refSame_eq h v _ _ l _ Q4.out.2 QQ.out.2).mono ?_
    rintro e w6 ⟨rfl, hb6⟩
    have HB6 := Lib.hid (HB4.out.trans (hb6.mono HB4.out.size))
    clear hb6 x0 x1 x2 y0 y1 y2 Q4 QQ HB4
    go_wp2_with fail
    refine (HLV.out _ HB6.out).mono ?_
    rintro e wz ⟨rfl, hbz⟩
    go_wp2
    go_ret
    exact ⟨rfl, (HB6.out).trans (hbz.mono (HB6.out).size)⟩

theorem laid_met_BoundsParses (os : Os) : laidMet Tryd.prog Rows.boundsParsesRow.laid ((laidWorld #[.string .empty] os).forCall (fun _ _ => 0) ⟨#[], #[.string .empty], []⟩).memory :=
  laidMet_of_run' 8 (by kernel_rfl) (by kernel_rfl)
theorem reads_BoundsParses (os : Os) {H : Type} (enc : TypeId × Value → H) : ∃ places, DataW.whole enc Tryd.prog ((laidWorld #[.string .empty] os).forCall (fun _ _ => 0) ⟨#[], #[.string .empty], []⟩).memory Tryd.f3.params.toList Rows.boundsParsesSpec.vars false (#[.string .empty] : Array Value).toList 8 = some ([.lit (.string [])], [], places) :=
  ⟨[], by kernel_rfl⟩
set_option maxRecDepth 100000 in
theorem lifted_BoundsParses (os : Os) (started : os.Started) (H : Type) (enc : TypeId × Value → H) (F : Stop.Interp) :
    ReturnsInHanded {} Tryd.checked os 3 .any ((OpenSpec.ofChange Rows.boundsParsesSpec).preRow enc Tryd.prog Tryd.f3 Rows.boundsParsesRow.domain false Rows.boundsParsesRow.laid) (((OpenSpec.ofChange Rows.boundsParsesSpec).at F).post enc Tryd.prog Tryd.f3 false true false false) := by
  obtain ⟨places, hx⟩ := reads_BoundsParses os enc
  refine returnsInHanded_of_row (C := Tryd.checked) (s := OpenSpec.ofChange Rows.boundsParsesSpec) own_knob started (by kernel_rfl) Tryd.func3
    (witness_row_at (enc := enc) (C := Tryd.checked) false (laidWorld #[.string .empty] os) #[.string .empty] rfl (by kernel_rfl) (by kernel_rfl) (by kernel_rfl)
      (OpenSpec.preRow_of_cond 8 hx (by kernel_rfl) (fun k hk => by cases hk) (by kernel_rfl) (laid_met_BoundsParses os))) ?_
  intro W base args ds gs before hval0 hW _ _ _ hL hsh _
  have hU : Lib.Utf8Tabs 1 2 W :=
    utf8Tabs_of_reads (ρ := Tryd.lays260_ren) { Tryd.lays260 with } ⟨by kernel_rfl, by kernel_rfl, by kernel_rfl, by kernel_rfl, by kernel_rfl, by kernel_rfl, by kernel_rfl⟩ (Lib.laidMet.reads hL (.tail _ (.head _))) (Lib.laidMet.reads hL (.head _))
  have hval : ∀ (j : Nat) t v, Tryd.f3.params[j]? = some t → args[j]? = some v → Value.okWide Tryd.prog W .any base t v := hval0
  have hW' := hW
  obtain ⟨p, q, hA0, hV, rfl, _, _⟩ := hW
  have hA : DataW.TrodAll enc Tryd.prog W 0 (fun _ => true) true Tryd.f3.params.toList args.toList ds p := hA0
  rw [Tryd.params3] at hA hval
  obtain ⟨v0, vs0, d0, ds0, p0, q0, hargs, rfl, rfl, h0, r0⟩ := trodAll_cons hA
  obtain ⟨rfl, rfl, rfl⟩ := trodAll_nil r0
  obtain rfl : args = #[v0] := by cases args; simp_all
  obtain ⟨rfl, rfl⟩ := trodVars_none hV
  obtain ⟨a0, rfl, rfl, rfl, w0⟩ := open_string Tryd.underlying9 (hval 0 9 v0 rfl rfl) h0
  clear hA0 hval0
  refine (walk_BoundsParses a0 (by unfold maxLen at w0; exact w0) W hU).mono fun e W' ⟨he, hb⟩ => ?_
  subst he
  exact ⟨_, rfl, law_post (by kernel_rfl) rfl rfl rfl hW' hb⟩
theorem said_BoundsParses : Rows.BoundsParsesSaid :=
  OpenClaim.holds_of_cond 3 Tryd.f3 rfl rfl rfl rfl rfl rfl rfl ⟨rfl, rfl, rfl, rfl, rfl⟩ rfl rfl rfl rfl rfl (by kernel_rfl) Tryd.func3 (by kernel_rfl)
    (of_decide_eq_true (by kernel_rfl)) (by unfold Func.isWrapper; first | (rw [if_pos (by decide +kernel)]; kernel_rfl) | (rw [if_neg (by decide +kernel)]; exact ⟨rfl, rfl⟩))
    (fun os started H enc _ F => by rw [OpenClaim.pre_eq_preRow]; exact lifted_BoundsParses os started H enc F)
set_option maxRecDepth 100000 in
theorem plain_BoundsParses (f : FuncId) (fn : Func) (hf : Tryd.pinned.checked.prog.funcNamed "pomace/pomacelaw05.BoundsParses" = some f) (hfn : Tryd.pinned.checked.prog.funcs[f]? = some fn) :
    true = Tryd.pinned.checked.prog.looks [] ∧ ∀ (j : Nat) t, fn.params[j]? = some t → Tryd.pinned.checked.prog.wantsStandIn t = false := by
  obtain rfl : f = 3 := Option.some.inj ((show Tryd.prog.funcNamed "pomace/pomacelaw05.BoundsParses" = some 3 by kernel_rfl).symm.trans hf) |>.symm
  obtain rfl : fn = Tryd.f3 := (Option.some.inj (Tryd.func3.symm.trans hfn)).symm
  refine ⟨by kernel_rfl, fun j t ht => ?_⟩
  rw [Tryd.params3] at ht
  have h := Array.mem_of_getElem? ht
  simp only [List.mem_toArray, List.mem_cons, List.not_mem_nil, or_false] at h
  rcases h with rfl
  all_goals first
    | exact (show Tryd.prog.wantsStandIn 9 = false by kernel_rfl)

/-- the statement of BoundsParses: its card -/
theorem proved_BoundsParses : Rows.BoundsParsesCardSaid :=
  Claim7.holds_tied_plain_at .later [] _ _ _ _ said_BoundsParses (fun _ h => by cases h) (by kernel_rfl) (fun _ h => by cases h) boundsParses_row_tie rfl ⟨rfl, rfl⟩ (by kernel_rfl) rfl plain_BoundsParses (by kernel_rfl)
end Go.Proofs.YtnghagikchffiaaDoor
