/-
  Layer 3: the card TreeBack: the printing of any tree that may be is built as the same tree. For every input. Own work.
-/
import Derived.Test.YtpbkidmdfibaoaaDoorLives3
import Derived.Test.YtpbkidmdfibaoaaDoorRefS3
import Derived.Test.YtpbkidmdfibaoaaDoorPrtZ3
import Derived.Test.YtpbkidmdfibaoaaDoorOpenN3
import Derived.Test.YtpbkidmdfibaoaaDoorDoor
import Derived.Lib.LaidU8
namespace Go.Proofs.YtpbkidmdfibaoaaDoor
set_option linter.unusedVariables false
set_option linter.unusedSimpArgs false
open Go.ChangeShapes Go.WideShapes Go.ChangeAt Go.RowKit
open Go.ChangeMaps (open_string shut_string)

set_option maxRecDepth 100000 in
set_option maxHeartbeats 4000000 in
theorem walk_TreeBack (x : Tr) (va vk : Value) (w : World) (hx : NdV w (allF w) x va vk) (hT : Lib.Utf8Tabs 1 2 w) :
    Calls Tryd.prog 3 #[.agg #[.string (str x.n), va, vk, .string (str x.t)]] w fun e w' => e = .returned (.bool true) ∧ Below w.heap.size w w' := by
  obtain ⟨c1, c2, c3, c4, rfl, rfl⟩ := node_cells hx
  obtain ⟨w1, hw1⟩ : ∃ w1, w1 = w.alloc (.cells #[.string (str x.n), .slice c1 x.ats.length c2, .slice c3 x.ks.length c4, .string (str x.t)] 25) := ⟨_, rfl⟩
  have hb1 : Below w.heap.size w w1 := by rw [hw1]; exact (Below.refl _ _).alloc (Nat.le_refl _) _
  have hX : w1.heap[w.heap.size]? = some (.cells #[.string (str x.n), .slice c1 x.ats.length c2, .slice c3 x.ks.length c4, .string (str x.t)] 25 (0, 0)) := by rw [hw1]; exact heap_alloc_new w _
  have HXC := Lib.hid (show ∀ w2, Below w1.heap.size w1 w2 → Sr3 w.heap.size x c1 c2 c3 c4 w2 from fun w2 hb => Sr3.below ⟨by rw [cell_of_row w1 _ 0 _ _ (0, 0) hX]; rfl, by rw [cell_of_row w1 _ 1 _ _ (0, 0) hX]; rfl, by rw [cell_of_row w1 _ 2 _ _ (0, 0) hX]; rfl, by rw [cell_of_row w1 _ 3 _ _ (0, 0) hX]; rfl⟩ hb (Nat.le_refl _))
  have hup : ∀ w2, Below w1.heap.size w1 w2 → Below w.heap.size w w2 := fun w2 hb => hb1.trans (hb.mono hb1.size)
  have HUP := Lib.hid hup
  have HN := Lib.hid (show ∀ w2, Below w1.heap.size w1 w2 → NdV w2 (allF w2) x (.slice c1 x.ats.length c2) (.slice c3 x.ks.length c4) from fun w2 hb => hx.onto (hup w2 hb) (Nat.le_refl _))
  have HLV := Lib.hid (show ∀ w2, Below w1.heap.size w1 w2 → Calls Tryd.prog 10 #[] w2 fun e w' => e = .returned (.bool true) ∧ Below w2.heap.size w2 w' from fun w2 hb => lives03 w2 (Utf8Tabs_below hT (hup w2 hb)))
  have HTT := Lib.hid (show ∀ w2, Below w1.heap.size w1 w2 → Lib.Utf8Tabs 1 2 w2 from fun w2 hb => Utf8Tabs_below hT (hup w2 hb))
  have HW1 := Lib.hid hw1
  clear hx hT hw1 hb1 hX hup
  go_enter Tryd.func3, Tryd.ntmps3
  go_upto_region 1 with fail
  rw [← HW1.out]
  clear HW1
  obtain ⟨x0, x1, x2, x3⟩ := HXC.out w1 (Below.refl _ _)
  go_wp2_with fail
  refine (Lights_any x (.slice c1 x.ats.length c2) (.slice c3 x.ks.length c4) w1 (HN.out w1 (Below.refl _ _))).mono ?_
  rintro e w2 ⟨⟨b1, rfl, hsm⟩, hb2⟩
  have HB2 := Lib.hid hb2
  clear hb2 x0 x1 x2 x3
  cases b1 with
  | false =>
    clear hsm
    go_wp2_with (go_at_call 10; refine (HLV.out _ HB2.out).mono ?_; rintro e w5 ⟨rfl, hb5⟩)
    go_ret
    exact ⟨rfl, (HUP.out _ HB2.out).trans (hb5.mono (HUP.out _ HB2.out).size)⟩
  | true =>
    have HSM := Lib.hid (hsm rfl)
    clear hsm
    obtain ⟨x0, x1, x2, x3⟩ := HXC.out w2 HB2.out
    have HMY := Lib.hid (refMay_any x (.slice c1 x.ats.length c2) (.slice c3 x.ks.length c4) w2 (by have := HSM.out.2.1; omega) (sm_tb x HSM.out.1) (HN.out w2 HB2.out))
    unfold nodeV at HMY
    obtain ⟨m, hm⟩ : ∃ m, m = x.mayB := ⟨_, rfl⟩
    rw [← hm] at HMY
    have HM := Lib.hid hm
    clear hm
    cases m with
    | false =>
      go_wp2_with (first
        | (go_at_call 9; refine HMY.out.mono ?_; rintro e w3 ⟨rfl, hb3⟩; have HB3 := Lib.hid (HB2.out.trans (hb3.mono HB2.out.size)); clear hb3 x0 x1 x2 x3)
        | (go_at_call 10; refine (HLV.out _ HB3.out).mono ?_; rintro e w5 ⟨rfl, hb5⟩))
      go_ret
      exact ⟨rfl, (HUP.out _ HB3.out).trans (hb5.mono (HUP.out _ HB3.out).size)⟩
    | true =>
      go_wp2_with fail
      refine HMY.out.mono ?_
      rintro e w3 ⟨rfl, hb3⟩
      have HB3 := Lib.hid (HB2.out.trans (hb3.mono HB2.out.size))
      clear hb3 x0 x1 x2 x3 HMY
      obtain ⟨x0, x1, x2, x3⟩ := HXC.out w3 HB3.out
      obtain ⟨T, hTk⟩ : ∃ T, T = prM (tkT x) := ⟨_, rfl⟩
      have HPR := Lib.hid (TPrint_any x (.slice c1 x.ats.length c2) (.slice c3 x.ks.length c4) w3 (HN.out w3 HB3.out) (by have h1 := tkT_len x; have h2 := HSM.out.2.1; omega) (prT_len x HSM.out.1).2 (by have h1 := (prT_len x HSM.out.1).1; have h2 := HSM.out.2.1; omega))
      rw [← hTk] at HPR
      unfold nodeV at HPR
      have HTK := Lib.hid hTk
      clear hTk
      go_wp2_with fail
      refine HPR.out.mono ?_
      rintro e w4 ⟨rfl, hb4⟩
      have HB4 := Lib.hid (HB3.out.trans (hb4.mono HB3.out.size))
      clear hb4 x0 x1 x2 x3 HPR
      by_cases hlt : T.length ≤ 65536
      · have hsz : ((str T).size : Int) ≤ 65536 := by rw [size_str]; omega
        have HBL := Lib.hid (show Calls Tryd.prog 12 #[.string (str T)] w4 fun e w' => Below w4.heap.size w4 w' ∧ ∃ va' vk', e = .returned (.tuple #[.agg #[.string (str x.n), va', vk', .string (str x.t)], .int .i64 0, .agg #[.int .i64 0, .int .i64 0, .int .i64 0]]) ∧ NdV w' (allF w') x va' vk' from
          (Build_any T (by omega) w4 (HTT.out _ HB4.out)).mono fun e w' h => by
            have hq : buildM T = .ok x := by rw [HTK.out] at hlt ⊢; exact build_back HM.out.symm hlt
            unfold BuildP at h
            rw [hq] at h
            exact h)
        clear hlt
        go_wp2_with fail
        refine HBL.out.mono ?_
        rintro e w5 ⟨hb5, va', vk', rfl, hn5⟩
        obtain ⟨d1, d2, d3, d4, rfl, rfl⟩ := node_cells hn5
        go_upto_region 7 with fail
        have HB5 := Lib.hid (HB4.out.trans (hb5.mono HB4.out.size))
        obtain ⟨w6, hw6⟩ : ∃ w6, w6 = (w5.alloc (.cells #[.string (str x.n), .slice d1 x.ats.length d2, .slice d3 x.ks.length d4, .string (str x.t)] 25)).alloc (.cells #[.int .i64 0, .int .i64 0, .int .i64 0] 31) := ⟨_, rfl⟩
        rw [← hw6]
        have hb6 : Below w5.heap.size w5 w6 := by rw [hw6]; exact ((Below.refl _ _).alloc (Nat.le_refl _) _).alloc (by simp) _
        have hM : w6.heap[w5.heap.size]? = some (.cells #[.string (str x.n), .slice d1 x.ats.length d2, .slice d3 x.ks.length d4, .string (str x.t)] 25 (0, 0)) := by
          rw [hw6, Below.heap_alloc _ _ _ (by simp)]
          exact heap_alloc_new w5 _
        have hP : w6.heap[w5.heap.size + 1]? = some (.cells #[.int .i64 0, .int .i64 0, .int .i64 0] 31 (0, 0)) := by
          rw [hw6]
          have := heap_alloc_new (w5.alloc (.cells #[.string (str x.n), .slice d1 x.ats.length d2, .slice d3 x.ks.length d4, .string (str x.t)] 25)) (.cells #[.int .i64 0, .int .i64 0, .int .i64 0] 31 (0, 0))
          simpa using this
        have HB6 := Lib.hid (HB5.out.trans (hb6.mono HB5.out.size))
        have HSA := Lib.hid (refSame_any x x _ _ _ _ w6 (HN.out w6 HB6.out) (hn5.onto hb6 (Nat.le_refl _)))
        rw [eqT_self] at HSA
        unfold nodeV at HSA
        clear hn5 hb5 HBL hw6 hb6
        obtain ⟨x0, x1, x2, x3⟩ := HXC.out w6 HB6.out
        generalize w5.heap.size + 1 = PB at hP ⊢
        generalize w5.heap.size = MB at hM ⊢
        have m0 : w6.cell? ⟨MB, 0, none⟩ = some (.string (str x.n)) := by rw [cell_of_row w6 _ 0 _ _ (0, 0) hM]; rfl
        have m1 : w6.cell? ⟨MB, 1, none⟩ = some (.slice d1 x.ats.length d2) := by rw [cell_of_row w6 _ 1 _ _ (0, 0) hM]; rfl
        have m2 : w6.cell? ⟨MB, 2, none⟩ = some (.slice d3 x.ks.length d4) := by rw [cell_of_row w6 _ 2 _ _ (0, 0) hM]; rfl
        have m3 : w6.cell? ⟨MB, 3, none⟩ = some (.string (str x.t)) := by rw [cell_of_row w6 _ 3 _ _ (0, 0) hM]; rfl
        have p0 : w6.cell? ⟨PB, 0, none⟩ = some (.int .i64 0) := by rw [cell_of_row w6 _ 0 _ _ (0, 0) hP]; rfl
        have p1 : w6.cell? ⟨PB, 1, none⟩ = some (.int .i64 0) := by rw [cell_of_row w6 _ 1 _ _ (0, 0) hP]; rfl
        have p2 : w6.cell? ⟨PB, 2, none⟩ = some (.int .i64 0) := by rw [cell_of_row w6 _ 2 _ _ (0, 0) hP]; rfl
        clear hM hP
        go_wp2_with (first
          | (go_at_call 13; refine HSA.out.mono ?_; rintro e w7 ⟨rfl, hb7⟩; have HB7 := Lib.hid (HB6.out.trans (hb7.mono HB6.out.size)); clear hb7)
          | (go_at_call 10; refine (HLV.out _ HB7.out).mono ?_; rintro e w8 ⟨rfl, hb8⟩))
        go_ret
        exact ⟨rfl, (HUP.out _ HB7.out).trans (hb8.mono (HUP.out _ HB7.out).size)⟩
      · have hsz : ¬ ((str T).size : Int) ≤ 65536 := by rw [size_str]; omega
        clear hlt
        go_wp2_with (go_at_call 10; refine (HLV.out _ HB4.out).mono ?_; rintro e w5 ⟨rfl, hb5⟩)
        go_ret
        exact ⟨rfl, (HUP.out _ HB4.out).trans (hb5.mono (HUP.out _ HB4.out).size)⟩


theorem laid_met_TreeBack (os : Os) : laidMet Tryd.prog Rows.treeBackRow.laid ((laidWorld #[.agg #[.string .empty, .slice none 0 0, .slice none 0 0, .string .empty]] os).forCall (fun _ _ => 0) ⟨#[], #[.agg #[.string .empty, .slice none 0 0, .slice none 0 0, .string .empty]], []⟩).memory :=
  laidMet_of_run' 8 (by kernel_rfl) (by kernel_rfl)
theorem reads_TreeBack (os : Os) {H : Type} (enc : TypeId × Value → H) : ∃ places, DataW.whole enc Tryd.prog ((laidWorld #[.agg #[.string .empty, .slice none 0 0, .slice none 0 0, .string .empty]] os).forCall (fun _ _ => 0) ⟨#[], #[.agg #[.string .empty, .slice none 0 0, .slice none 0 0, .string .empty]], []⟩).memory Tryd.f3.params.toList Rows.treeBackSpec.vars false (#[.agg #[.string .empty, .slice none 0 0, .slice none 0 0, .string .empty]] : Array Value).toList 8 = some ([.agg [.lit (.string []), .nil, .nil, .lit (.string [])]], [], places) :=
  ⟨[], by kernel_rfl⟩
set_option maxRecDepth 100000 in
theorem lifted_TreeBack (os : Os) (started : os.Started) (H : Type) (enc : TypeId × Value → H) (F : Stop.Interp) :
    ReturnsInHanded {} Tryd.checked os 3 .any ((OpenSpec.ofChange Rows.treeBackSpec).preRow enc Tryd.prog Tryd.f3 Rows.treeBackRow.domain false Rows.treeBackRow.laid) (((OpenSpec.ofChange Rows.treeBackSpec).at F).post enc Tryd.prog Tryd.f3 false true false false) := by
  obtain ⟨places, hx⟩ := reads_TreeBack os enc
  refine returnsInHanded_of_row (C := Tryd.checked) (s := OpenSpec.ofChange Rows.treeBackSpec) own_knob started (by kernel_rfl) Tryd.func3
    (witness_row_at (enc := enc) (C := Tryd.checked) false (laidWorld #[.agg #[.string .empty, .slice none 0 0, .slice none 0 0, .string .empty]] os) #[.agg #[.string .empty, .slice none 0 0, .slice none 0 0, .string .empty]] rfl (by kernel_rfl) (by kernel_rfl) (by kernel_rfl)
      (OpenSpec.preRow_of_cond 8 hx (by kernel_rfl) (fun k hk => by cases hk) (by kernel_rfl) (laid_met_TreeBack os))) ?_
  intro W base args ds gs before hval0 hW _ _ _ hL hsh _
  have hU : Lib.Utf8Tabs 1 2 W :=
    utf8Tabs_of_reads (ρ := Tryd.lays260_ren) { Tryd.lays260 with } ⟨by kernel_rfl, by kernel_rfl, by kernel_rfl, by kernel_rfl, by kernel_rfl, by kernel_rfl, by kernel_rfl⟩ (Lib.laidMet.reads hL (.tail _ (.head _))) (Lib.laidMet.reads hL (.head _))
  have hval : ∀ (j : Nat) t v, Tryd.f3.params[j]? = some t → args[j]? = some v → Value.okWide Tryd.prog W .any base t v := hval0
  have hW' := hW
  obtain ⟨p, q, hA0, hV, rfl, _, _⟩ := hW
  have hA : DataW.TrodAll enc Tryd.prog W 0 (fun _ => true) true Tryd.f3.params.toList args.toList ds p := hA0
  rw [Tryd.params3] at hA hval
  obtain ⟨v0, vs0, d0, ds0, p0, q0, hargs, rfl, rfl, h0, r0⟩ := trodAll_cons hA
  obtain ⟨rfl, rfl, rfl⟩ := trodAll_nil r0
  obtain rfl : args = #[v0] := by cases args; simp_all
  obtain ⟨rfl, rfl⟩ := trodVars_none hV
  obtain ⟨x0, va0, vk0, rfl, nd0⟩ := open_node (hval 0 25 v0 rfl rfl) h0
  clear hA0 hval0
  refine (walk_TreeBack x0 va0 vk0 W nd0 hU).mono fun e W' ⟨he, hb⟩ => ?_
  subst he
  exact ⟨_, rfl, law_post (by kernel_rfl) rfl rfl rfl hW' hb⟩
theorem said_TreeBack : Rows.TreeBackSaid :=
  OpenClaim.holds_of_cond 3 Tryd.f3 rfl rfl rfl rfl rfl rfl rfl ⟨rfl, rfl, rfl, rfl, rfl⟩ rfl rfl rfl rfl rfl (by kernel_rfl) Tryd.func3 (by kernel_rfl)
    (of_decide_eq_true (by kernel_rfl)) (by unfold Func.isWrapper; first | (rw [if_pos (by decide +kernel)]; kernel_rfl) | (rw [if_neg (by decide +kernel)]; exact ⟨rfl, rfl⟩))
    (fun os started H enc _ F => by rw [OpenClaim.pre_eq_preRow]; exact lifted_TreeBack os started H enc F)
set_option maxRecDepth 100000 in
theorem plain_TreeBack (f : FuncId) (fn : Func) (hf : Tryd.pinned.checked.prog.funcNamed "pomace/pomacelaw03.TreeBack" = some f) (hfn : Tryd.pinned.checked.prog.funcs[f]? = some fn) :
    true = Tryd.pinned.checked.prog.looks [] ∧ ∀ (j : Nat) t, fn.params[j]? = some t → Tryd.pinned.checked.prog.wantsStandIn t = false := by
  obtain rfl : f = 3 := Option.some.inj ((show Tryd.prog.funcNamed "pomace/pomacelaw03.TreeBack" = some 3 by kernel_rfl).symm.trans hf) |>.symm
  obtain rfl : fn = Tryd.f3 := (Option.some.inj (Tryd.func3.symm.trans hfn)).symm
  refine ⟨by kernel_rfl, fun j t ht => ?_⟩
  rw [Tryd.params3] at ht
  have h := Array.mem_of_getElem? ht
  simp only [List.mem_toArray, List.mem_cons, List.not_mem_nil, or_false] at h
  rcases h with rfl
  all_goals first
    | exact (show Tryd.prog.wantsStandIn 25 = false by kernel_rfl)

/-- the statement of TreeBack: its card -/
theorem proved_TreeBack : Rows.TreeBackCardSaid :=
  Claim7.holds_tied_plain_at .later [] _ _ _ _ said_TreeBack (fun _ h => by cases h) (by kernel_rfl) (fun _ h => by cases h) treeBack_row_tie rfl ⟨rfl, rfl⟩ (by kernel_rfl) rfl plain_TreeBack (by kernel_rfl)
end Go.Proofs.YtpbkidmdfibaoaaDoor
