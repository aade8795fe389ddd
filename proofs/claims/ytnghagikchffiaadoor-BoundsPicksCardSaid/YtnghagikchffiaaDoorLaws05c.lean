/-
  Layer 5: the card BoundsPicks: which ones of any row any range has, and which of them is picked. For every input. Own work.
-/
import Derived.Test.YtnghagikchffiaaDoorHas5b
import Derived.Test.YtnghagikchffiaaDoorPicks5b
import Derived.Test.YtnghagikchffiaaDoorDoor
import Derived.Lib.LaidU8
namespace Go.Proofs.YtnghagikchffiaaDoor
set_option linter.unusedVariables false
set_option linter.unusedSimpArgs false
open Go.ChangeShapes Go.WideShapes Go.ChangeAt Go.RowKit
open Go.ChangeMaps (open_string shut_string)

section
variable {H : Type} {enc : TypeId × Value → H} {W : World} {b0 base : Nat} {v : Value} {d : DataW H} {p : List MemPlace}
set_option maxRecDepth 100000 in
theorem open_strs (hv : Value.okWide Tryd.prog W .any b0 42 v) (h : DataW.Trod enc Tryd.prog W base (fun _ => true) true 42 v d p) :
    ∃ l : List ByteArray, RdS W v l ∧ ∀ s ∈ l, s.size ≤ 9223372036854775807 := by
  obtain ⟨a0, len, cap, rfl⟩ := okWide_slice Tryd.underlying42 hv
  obtain ⟨fuel, hf⟩ := h
  rcases open_strings Tryd.underlying42 Tryd.underlying9 (by kernel_rfl) hf with ⟨hcs, hx⟩ | ⟨a, len', cap', ss, hcs, _, hl, hm, hz, hx, hcell, hsz⟩
  · simp [Value.cells] at hcs
    obtain ⟨rfl, rfl, rfl⟩ := hcs
    exact ⟨[], .inl ⟨rfl, rfl⟩, by simp⟩
  · simp [Value.cells] at hcs
    obtain ⟨rfl, rfl, rfl⟩ := hcs
    simp only [if_true] at hz
    have hlen : (ss.take len).length = len := by rw [List.length_take]; omega
    refine ⟨ss.take len, .inr ⟨a, cap, by rw [hlen], by omega, by unfold maxLen at hm; exact hm, fun j s hj => ?_⟩, fun s hs => by have := hsz s (List.mem_of_mem_take hs); unfold maxLen at this; exact this⟩
    have hjl : j < len := by have := (List.getElem?_eq_some_iff.1 hj).1; omega
    rw [List.getElem?_take, if_pos hjl] at hj
    rw [hcell j (by omega)]
    simp only [List.getD_eq_getElem?_getD, hj, Option.getD_some]
end
theorem walk_BoundsPicks (hard : Bool) (ver : ByteArray) (pv : Value) (iv : List Iv) (hver : okV ver) (hl : ∀ p ∈ iv, okV p.lo.ver ∧ okV p.hi.ver) (w : World) (hr : RdI w pv iv) (lv : Value) (l : List ByteArray) (hs : RdS w lv l) (hz : ∀ s ∈ l, s.size ≤ 9223372036854775807) (hT : Lib.Utf8Tabs 1 2 w) :
    Calls Tryd.prog 8 #[.agg #[.bool hard, .string ver, pv], lv] w fun e w' => e = .returned (.bool true) ∧ Below w.heap.size w w' := by
  obtain ⟨pa, pc, rfl⟩ := rd_shape hr
  obtain ⟨la, lc, rfl⟩ := hs.shape
  exact walk_Picks0 hard ver pa pc iv la lc l w hr hs hz (fun s t hs ht w => refCompare_any s t hs ht w)
    (fun w' hb => (Light_at hard ver _ iv hver hl w' (hr.below hb (Nat.le_refl _))).mono fun e w2 ⟨bb, he, hs, hb2⟩ => ⟨bb, he, fun h => (hs h).small, hb2⟩)
    (fun w' hb => lives05 w' (Utf8Tabs_below hT hb))

theorem laid_met_BoundsPicks (os : Os) : laidMet Tryd.prog Rows.boundsPicksRow.laid ((laidWorld #[.agg #[.bool false, .string .empty, .slice none 0 0], .slice none 0 0] os).forCall (fun _ _ => 0) ⟨#[], #[.agg #[.bool false, .string .empty, .slice none 0 0], .slice none 0 0], []⟩).memory :=
  laidMet_of_run' 8 (by kernel_rfl) (by kernel_rfl)
theorem reads_BoundsPicks (os : Os) {H : Type} (enc : TypeId × Value → H) : ∃ places, DataW.whole enc Tryd.prog ((laidWorld #[.agg #[.bool false, .string .empty, .slice none 0 0], .slice none 0 0] os).forCall (fun _ _ => 0) ⟨#[], #[.agg #[.bool false, .string .empty, .slice none 0 0], .slice none 0 0], []⟩).memory Tryd.f8.params.toList Rows.boundsPicksSpec.vars false (#[.agg #[.bool false, .string .empty, .slice none 0 0], .slice none 0 0] : Array Value).toList 8 = some ([.agg [.lit (.bool false), .lit (.string []), .nil], .nil], [], places) :=
  ⟨[], by kernel_rfl⟩
set_option maxRecDepth 100000 in
theorem lifted_BoundsPicks (os : Os) (started : os.Started) (H : Type) (enc : TypeId × Value → H) (F : Stop.Interp) :
    ReturnsInHanded {} Tryd.checked os 8 .any ((OpenSpec.ofChange Rows.boundsPicksSpec).preRow enc Tryd.prog Tryd.f8 Rows.boundsPicksRow.domain false Rows.boundsPicksRow.laid) (((OpenSpec.ofChange Rows.boundsPicksSpec).at F).post enc Tryd.prog Tryd.f8 false true false false) := by
  obtain ⟨places, hx⟩ := reads_BoundsPicks os enc
  refine returnsInHanded_of_row (C := Tryd.checked) (s := OpenSpec.ofChange Rows.boundsPicksSpec) own_knob started (by kernel_rfl) Tryd.func8
    (witness_row_at (enc := enc) (C := Tryd.checked) false (laidWorld #[.agg #[.bool false, .string .empty, .slice none 0 0], .slice none 0 0] os) #[.agg #[.bool false, .string .empty, .slice none 0 0], .slice none 0 0] rfl (by kernel_rfl) (by kernel_rfl) (by kernel_rfl)
      (OpenSpec.preRow_of_cond 8 hx (by kernel_rfl) (fun k hk => by cases hk) (by kernel_rfl) (laid_met_BoundsPicks os))) ?_
  intro W base args ds gs before hval0 hW _ _ _ hL hsh _
  have hU : Lib.Utf8Tabs 1 2 W :=
    utf8Tabs_of_reads (ρ := Tryd.lays260_ren) { Tryd.lays260 with } ⟨by kernel_rfl, by kernel_rfl, by kernel_rfl, by kernel_rfl, by kernel_rfl, by kernel_rfl, by kernel_rfl⟩ (Lib.laidMet.reads hL (.tail _ (.head _))) (Lib.laidMet.reads hL (.head _))
  have hval : ∀ (j : Nat) t v, Tryd.f8.params[j]? = some t → args[j]? = some v → Value.okWide Tryd.prog W .any base t v := hval0
  have hW' := hW
  obtain ⟨p, q, hA0, hV, rfl, _, _⟩ := hW
  have hA : DataW.TrodAll enc Tryd.prog W 0 (fun _ => true) true Tryd.f8.params.toList args.toList ds p := hA0
  rw [Tryd.params8] at hA hval
  obtain ⟨v0, vs0, d0, ds0, p0, q0, hargs, rfl, rfl, h0, r0⟩ := trodAll_cons hA
  obtain ⟨v1, vs1, d1, ds1, p1, q1, rfl, rfl, rfl, h1, r1⟩ := trodAll_cons r0
  obtain ⟨rfl, rfl, rfl⟩ := trodAll_nil r1
  obtain rfl : args = #[v0, v1] := by cases args; simp_all
  obtain ⟨rfl, rfl⟩ := trodVars_none hV
  obtain ⟨hd0, vr0, pv0, l0, rfl, rd0, ov0, ol0⟩ := open_range (hval 0 25 v0 rfl rfl) h0
  obtain ⟨ls1, rs1, zs1⟩ := open_strs (hval 1 42 v1 rfl rfl) h1
  clear hA0 hval0
  refine (walk_BoundsPicks hd0 vr0 pv0 l0 ov0 ol0 W rd0 v1 ls1 rs1 zs1 hU).mono fun e W' ⟨he, hb⟩ => ?_
  subst he
  exact ⟨_, rfl, law_post (by kernel_rfl) rfl rfl rfl hW' hb⟩
theorem said_BoundsPicks : Rows.BoundsPicksSaid :=
  OpenClaim.holds_of_cond 8 Tryd.f8 rfl rfl rfl rfl rfl rfl rfl ⟨rfl, rfl, rfl, rfl, rfl⟩ rfl rfl rfl rfl rfl (by kernel_rfl) Tryd.func8 (by kernel_rfl)
    (of_decide_eq_true (by kernel_rfl)) (by unfold Func.isWrapper; first | (rw [if_pos (by decide +kernel)]; kernel_rfl) | (rw [if_neg (by decide +kernel)]; exact ⟨rfl, rfl⟩))
    (fun os started H enc _ F => by rw [OpenClaim.pre_eq_preRow]; exact lifted_BoundsPicks os started H enc F)
set_option maxRecDepth 100000 in
theorem plain_BoundsPicks (f : FuncId) (fn : Func) (hf : Tryd.pinned.checked.prog.funcNamed "pomace/pomacelaw05.BoundsPicks" = some f) (hfn : Tryd.pinned.checked.prog.funcs[f]? = some fn) :
    true = Tryd.pinned.checked.prog.looks [] ∧ ∀ (j : Nat) t, fn.params[j]? = some t → Tryd.pinned.checked.prog.wantsStandIn t = false := by
  obtain rfl : f = 8 := Option.some.inj ((show Tryd.prog.funcNamed "pomace/pomacelaw05.BoundsPicks" = some 8 by kernel_rfl).symm.trans hf) |>.symm
  obtain rfl : fn = Tryd.f8 := (Option.some.inj (Tryd.func8.symm.trans hfn)).symm
  refine ⟨by kernel_rfl, fun j t ht => ?_⟩
  rw [Tryd.params8] at ht
  have h := Array.mem_of_getElem? ht
  simp only [List.mem_toArray, List.mem_cons, List.not_mem_nil, or_false] at h
  rcases h with rfl | rfl
  all_goals first
    | exact (show Tryd.prog.wantsStandIn 25 = false by kernel_rfl)
    | exact (show Tryd.prog.wantsStandIn 42 = false by kernel_rfl)

/-- the statement of BoundsPicks: its card -/
theorem proved_BoundsPicks : Rows.BoundsPicksCardSaid :=
  Claim7.holds_tied_plain_at .later [] _ _ _ _ said_BoundsPicks (fun _ h => by cases h) (by kernel_rfl) (fun _ h => by cases h) boundsPicks_row_tie rfl ⟨rfl, rfl⟩ (by kernel_rfl) rfl plain_BoundsPicks (by kernel_rfl)
end Go.Proofs.YtnghagikchffiaaDoor
