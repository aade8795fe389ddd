/-
  Layer 3: the card TreeSame: whether any two trees are the same, by the program as by the document's answer. For every input. Own work.
-/
import Derived.Test.YtpbkidmdfibaoaaDoorLives3
import Derived.Test.YtpbkidmdfibaoaaDoorRefS3
import Derived.Test.YtpbkidmdfibaoaaDoorLt3
import Derived.Test.YtpbkidmdfibaoaaDoorOpenN3
import Derived.Test.YtpbkidmdfibaoaaDoorDoor
import Derived.Lib.LaidU8
namespace Go.Proofs.YtpbkidmdfibaoaaDoor
set_option linter.unusedVariables false
set_option linter.unusedSimpArgs false
open Go.ChangeShapes Go.WideShapes Go.ChangeAt Go.RowKit
open Go.ChangeMaps (open_string shut_string)

/-- the two parameters' variables stand in X and Y -/
abbrev SmS (w : World) (X Y : Nat) (x y : Tr) (c1 : Option Addr) (c2 : Nat) (c3 : Option Addr) (c4 : Nat) (d1 : Option Addr) (d2 : Nat) (d3 : Option Addr) (d4 : Nat) (w' : World) : Prop := w'.cell? ⟨X, 0, none⟩ = some (.string (str x.n)) ∧ w'.cell? ⟨X, 1, none⟩ = some (.slice c1 x.ats.length c2) ∧ w'.cell? ⟨X, 2, none⟩ = some (.slice c3 x.ks.length c4) ∧ w'.cell? ⟨X, 3, none⟩ = some (.string (str x.t)) ∧ w'.cell? ⟨Y, 0, none⟩ = some (.string (str y.n)) ∧ w'.cell? ⟨Y, 1, none⟩ = some (.slice d1 y.ats.length d2) ∧ w'.cell? ⟨Y, 2, none⟩ = some (.slice d3 y.ks.length d4) ∧ w'.cell? ⟨Y, 3, none⟩ = some (.string (str y.t)) ∧ Below w.heap.size w w'
section
variable {w w' w5 : World} {X Y : Nat} {x y : Tr} {c1 c3 d1 d3 : Option Addr} {c2 c4 d2 d4 : Nat}
theorem SmS.below (h : SmS w X Y x y c1 c2 c3 c4 d1 d2 d3 d4 w') (hb : Below w'.heap.size w' w5) : SmS w X Y x y c1 c2 c3 c4 d1 d2 d3 d4 w5 := by
  obtain ⟨h0, h1, h2, h3, h4, h5, h6, h7, h8⟩ := h
  have hc : ∀ {A : Addr} {v : Value}, w'.cell? A = some v → w5.cell? A = some v := fun h => (hb.cell (World.block_lt_of_cell? w' _ h)).trans h
  exact ⟨hc h0, hc h1, hc h2, hc h3, hc h4, hc h5, hc h6, hc h7, h8.trans (hb.mono h8.size)⟩
theorem SmS.drew (h : SmS w X Y x y c1 c2 c3 c4 d1 d2 d3 d4 w') : SmS w X Y x y c1 c2 c3 c4 d1 d2 d3 d4 w'.drew := SmS.below h (Below.refl _ _).drew
theorem SmS.b (h : SmS w X Y x y c1 c2 c3 c4 d1 d2 d3 d4 w') : Below w.heap.size w w' := h.2.2.2.2.2.2.2.2
end
set_option maxRecDepth 100000 in
set_option maxHeartbeats 4000000 in
theorem walk_TreeSame (x : Tr) (va vk : Value) (y : Tr) (va' vk' : Value) (w : World) (hx : NdV w (allF w) x va vk) (hy : NdV w (allF w) y va' vk') (hT : Lib.Utf8Tabs 1 2 w) :
    Calls Tryd.prog 4 #[.agg #[.string (str x.n), va, vk, .string (str x.t)], .agg #[.string (str y.n), va', vk', .string (str y.t)]] w fun e w' => e = .returned (.bool true) ∧ Below w.heap.size w w' := by
  obtain ⟨c1, c2, c3, c4, rfl, rfl⟩ := node_cells hx
  obtain ⟨d1, d2, d3, d4, rfl, rfl⟩ := node_cells hy
  obtain ⟨w1, hw1⟩ : ∃ w1, w1 = (w.alloc (.cells #[.string (str x.n), .slice c1 x.ats.length c2, .slice c3 x.ks.length c4, .string (str x.t)] 25)).alloc (.cells #[.string (str y.n), .slice d1 y.ats.length d2, .slice d3 y.ks.length d4, .string (str y.t)] 25) := ⟨_, rfl⟩
  have hb1 : Below w.heap.size w w1 := by rw [hw1]; exact ((Below.refl _ _).alloc (Nat.le_refl _) _).alloc (by simp) _
  have hX : w1.heap[w.heap.size]? = some (.cells #[.string (str x.n), .slice c1 x.ats.length c2, .slice c3 x.ks.length c4, .string (str x.t)] 25 (0, 0)) := by rw [hw1, Below.heap_alloc _ _ _ (by simp)]; exact heap_alloc_new w _
  have hY : w1.heap[w.heap.size + 1]? = some (.cells #[.string (str y.n), .slice d1 y.ats.length d2, .slice d3 y.ks.length d4, .string (str y.t)] 25 (0, 0)) := by rw [hw1]; exact heap_alloc2_new w _ _
  have HLX := Lib.hid (show ∀ w2, Below w.heap.size w w2 → Calls Tryd.prog 8 #[.agg #[.string (str x.n), .slice c1 x.ats.length c2, .slice c3 x.ks.length c4, .string (str x.t)]] w2 fun e w' => AnyB e ∧ Below w2.heap.size w2 w' from fun w2 hb => Light_any x _ _ w2 (hx.onto hb (Nat.le_refl _)))
  have HLY := Lib.hid (show ∀ w2, Below w.heap.size w w2 → Calls Tryd.prog 8 #[.agg #[.string (str y.n), .slice d1 y.ats.length d2, .slice d3 y.ks.length d4, .string (str y.t)]] w2 fun e w' => AnyB e ∧ Below w2.heap.size w2 w' from fun w2 hb => Light_any y _ _ w2 (hy.onto hb (Nat.le_refl _)))
  have HLV := Lib.hid (fun w2 (hb : Below w.heap.size w w2) => lives03 w2 (Utf8Tabs_below hT hb))
  obtain ⟨b, hb⟩ : ∃ b, eqT x y = b := ⟨_, rfl⟩
  have H1 := Lib.hid (show ∀ w2, Below w.heap.size w w2 → Calls Tryd.prog 14 #[.agg #[.string (str x.n), .slice c1 x.ats.length c2, .slice c3 x.ks.length c4, .string (str x.t)], .agg #[.string (str y.n), .slice d1 y.ats.length d2, .slice d3 y.ks.length d4, .string (str y.t)]] w2 fun e w' => e = .returned (.bool b) ∧ Below w2.heap.size w2 w' from fun w2 hb2 => by
    rw [← hb]
    exact Same_any x y _ _ _ _ w2 (hx.onto hb2 (Nat.le_refl _)) (hy.onto hb2 (Nat.le_refl _)))
  have H2 := Lib.hid (show ∀ w2, Below w.heap.size w w2 → Calls Tryd.prog 14 #[.agg #[.string (str x.n), .slice c1 x.ats.length c2, .slice c3 x.ks.length c4, .string (str x.t)], .agg #[.string (str x.n), .slice c1 x.ats.length c2, .slice c3 x.ks.length c4, .string (str x.t)]] w2 fun e w' => e = .returned (.bool true) ∧ Below w2.heap.size w2 w' from fun w2 hb2 => by
    have := Same_any x x _ _ _ _ w2 (hx.onto hb2 (Nat.le_refl _)) (hx.onto hb2 (Nat.le_refl _))
    rw [eqT_self] at this
    exact this)
  have H3 := Lib.hid (show ∀ w2, Below w.heap.size w w2 → Calls Tryd.prog 14 #[.agg #[.string (str y.n), .slice d1 y.ats.length d2, .slice d3 y.ks.length d4, .string (str y.t)], .agg #[.string (str x.n), .slice c1 x.ats.length c2, .slice c3 x.ks.length c4, .string (str x.t)]] w2 fun e w' => e = .returned (.bool b) ∧ Below w2.heap.size w2 w' from fun w2 hb2 => by
    rw [← hb, eqT_comm]
    exact Same_any y x _ _ _ _ w2 (hy.onto hb2 (Nat.le_refl _)) (hx.onto hb2 (Nat.le_refl _)))
  have H4 := Lib.hid (show ∀ w2, Below w.heap.size w w2 → Calls Tryd.prog 13 #[.agg #[.string (str x.n), .slice c1 x.ats.length c2, .slice c3 x.ks.length c4, .string (str x.t)], .agg #[.string (str y.n), .slice d1 y.ats.length d2, .slice d3 y.ks.length d4, .string (str y.t)]] w2 fun e w' => e = .returned (.bool b) ∧ Below w2.heap.size w2 w' from fun w2 hb2 => by
    rw [← hb]
    exact refSame_any x y _ _ _ _ w2 (hx.onto hb2 (Nat.le_refl _)) (hy.onto hb2 (Nat.le_refl _)))
  have HW1 := Lib.hid hw1
  have HB1 := Lib.hid hb1
  have hS : SmS w w.heap.size (w.heap.size + 1) x y c1 c2 c3 c4 d1 d2 d3 d4 w1 :=
    ⟨by rw [cell_of_row w1 _ 0 _ _ (0, 0) hX]; rfl, by rw [cell_of_row w1 _ 1 _ _ (0, 0) hX]; rfl, by rw [cell_of_row w1 _ 2 _ _ (0, 0) hX]; rfl, by rw [cell_of_row w1 _ 3 _ _ (0, 0) hX]; rfl, by rw [cell_of_row w1 _ 0 _ _ (0, 0) hY]; rfl, by rw [cell_of_row w1 _ 1 _ _ (0, 0) hY]; rfl, by rw [cell_of_row w1 _ 2 _ _ (0, 0) hY]; rfl, by rw [cell_of_row w1 _ 3 _ _ (0, 0) hY]; rfl, hb1⟩
  clear hx hy hT hb hw1 hb1 hX hY
  go_enter Tryd.func4, Tryd.ntmps4
  go_upto_region 1 with fail
  rw [← HW1.out]
  generalize w.heap.size + 1 = Y at hS ⊢
  obtain ⟨X, hXX⟩ : ∃ X, X = w.heap.size := ⟨_, rfl⟩
  rw [← hXX] at hS
  simp only [← hXX]
  clear hXX
  have HS1 := Lib.hid hS
  obtain ⟨x0, x1, x2, x3, y0, y1, y2, y3, _⟩ := hS
  go_wp2_with fail
  refine (HLX.out w1 HB1.out).mono ?_
  rintro e w2 ⟨⟨b1, rfl⟩, hb2⟩
  have HS2 := Lib.hid (SmS.below HS1.out hb2)
  clear hb2 x0 x1 x2 x3 y0 y1 y2 y3
  obtain ⟨x0, x1, x2, x3, y0, y1, y2, y3, _⟩ := HS2.out
  cases b1 with
  | false =>
    go_wp2_with (go_at_call 10; refine (HLV.out _ (SmS.b HS2.out)).mono ?_; rintro e w5 ⟨rfl, hb5⟩)
    go_ret
    exact ⟨rfl, (SmS.b HS2.out).trans (hb5.mono (SmS.b HS2.out).size)⟩
  | true =>
    go_wp2_with fail
    refine (HLY.out w2 (SmS.b HS2.out)).mono ?_
    rintro e w3 ⟨⟨b2, rfl⟩, hb3⟩
    have HS3 := Lib.hid (SmS.below HS2.out hb3)
    clear hb3 x0 x1 x2 x3 y0 y1 y2 y3
    cases b2 with
    | false =>
      go_wp2_with (go_at_call 10; refine (HLV.out _ (SmS.b HS3.out)).mono ?_; rintro e w5 ⟨rfl, hb5⟩)
      go_ret
      exact ⟨rfl, (SmS.b HS3.out).trans (hb5.mono (SmS.b HS3.out).size)⟩
    | true =>
      obtain ⟨x0, x1, x2, x3, y0, y1, y2, y3, hbw⟩ := HS3.out
      go_upto_region 3 with fail
      cases b
      all_goals
        go_region_held3 (fun w' => w'.cell? ⟨X, 0, none⟩ = some (.string (str x.n)) ∧ w'.cell? ⟨X, 1, none⟩ = some (.slice c1 x.ats.length c2) ∧ w'.cell? ⟨X, 2, none⟩ = some (.slice c3 x.ks.length c4) ∧ w'.cell? ⟨X, 3, none⟩ = some (.string (str x.t)) ∧ w'.cell? ⟨Y, 0, none⟩ = some (.string (str y.n)) ∧ w'.cell? ⟨Y, 1, none⟩ = some (.slice d1 y.ats.length d2) ∧ w'.cell? ⟨Y, 2, none⟩ = some (.slice d3 y.ks.length d4) ∧ w'.cell? ⟨Y, 3, none⟩ = some (.string (str y.t)) ∧ Below w.heap.size w w')
          (first | exact SmS.below (by assumption) (by assumption) | exact SmS.drew (by assumption) | exact SmS.drew HS3.out)
          (first
            | (go_at_call 14; first | (with_reducible refine (H1.out _ (SmS.b (by assumption))).mono ?_; rintro e w5 ⟨rfl, hb5⟩) | (with_reducible refine (H2.out _ (SmS.b (by assumption))).mono ?_; rintro e w5 ⟨rfl, hb5⟩) | (with_reducible refine (H3.out _ (SmS.b (by assumption))).mono ?_; rintro e w5 ⟨rfl, hb5⟩))
            | (go_at_call 13; with_reducible refine (H4.out _ (SmS.b (by assumption))).mono ?_; rintro e w5 ⟨rfl, hb5⟩)
            | (go_at_call 10; with_reducible refine (HLV.out _ (SmS.b (by assumption))).mono ?_; rintro e w5 ⟨rfl, hb5⟩))
        go_wp2
        go_ret
        exact ⟨rfl, SmS.b (by assumption)⟩

theorem laid_met_TreeSame (os : Os) : laidMet Tryd.prog Rows.treeSameRow.laid ((laidWorld #[.agg #[.string .empty, .slice none 0 0, .slice none 0 0, .string .empty], .agg #[.string .empty, .slice none 0 0, .slice none 0 0, .string .empty]] os).forCall (fun _ _ => 0) ⟨#[], #[.agg #[.string .empty, .slice none 0 0, .slice none 0 0, .string .empty], .agg #[.string .empty, .slice none 0 0, .slice none 0 0, .string .empty]], []⟩).memory :=
  laidMet_of_run' 8 (by kernel_rfl) (by kernel_rfl)
theorem reads_TreeSame (os : Os) {H : Type} (enc : TypeId × Value → H) : ∃ places, DataW.whole enc Tryd.prog ((laidWorld #[.agg #[.string .empty, .slice none 0 0, .slice none 0 0, .string .empty], .agg #[.string .empty, .slice none 0 0, .slice none 0 0, .string .empty]] os).forCall (fun _ _ => 0) ⟨#[], #[.agg #[.string .empty, .slice none 0 0, .slice none 0 0, .string .empty], .agg #[.string .empty, .slice none 0 0, .slice none 0 0, .string .empty]], []⟩).memory Tryd.f4.params.toList Rows.treeSameSpec.vars false (#[.agg #[.string .empty, .slice none 0 0, .slice none 0 0, .string .empty], .agg #[.string .empty, .slice none 0 0, .slice none 0 0, .string .empty]] : Array Value).toList 8 = some ([.agg [.lit (.string []), .nil, .nil, .lit (.string [])], .agg [.lit (.string []), .nil, .nil, .lit (.string [])]], [], places) :=
  ⟨[], by kernel_rfl⟩
set_option maxRecDepth 100000 in
theorem lifted_TreeSame (os : Os) (started : os.Started) (H : Type) (enc : TypeId × Value → H) (F : Stop.Interp) :
    ReturnsInHanded {} Tryd.checked os 4 .any ((OpenSpec.ofChange Rows.treeSameSpec).preRow enc Tryd.prog Tryd.f4 Rows.treeSameRow.domain false Rows.treeSameRow.laid) (((OpenSpec.ofChange Rows.treeSameSpec).at F).post enc Tryd.prog Tryd.f4 false true false false) := by
  obtain ⟨places, hx⟩ := reads_TreeSame os enc
  refine returnsInHanded_of_row (C := Tryd.checked) (s := OpenSpec.ofChange Rows.treeSameSpec) own_knob started (by kernel_rfl) Tryd.func4
    (witness_row_at (enc := enc) (C := Tryd.checked) false (laidWorld #[.agg #[.string .empty, .slice none 0 0, .slice none 0 0, .string .empty], .agg #[.string .empty, .slice none 0 0, .slice none 0 0, .string .empty]] os) #[.agg #[.string .empty, .slice none 0 0, .slice none 0 0, .string .empty], .agg #[.string .empty, .slice none 0 0, .slice none 0 0, .string .empty]] rfl (by kernel_rfl) (by kernel_rfl) (by kernel_rfl)
      (OpenSpec.preRow_of_cond 8 hx (by kernel_rfl) (fun k hk => by cases hk) (by kernel_rfl) (laid_met_TreeSame os))) ?_
  intro W base args ds gs before hval0 hW _ _ _ hL hsh _
  have hU : Lib.Utf8Tabs 1 2 W :=
    utf8Tabs_of_reads (ρ := Tryd.lays260_ren) { Tryd.lays260 with } ⟨by kernel_rfl, by kernel_rfl, by kernel_rfl, by kernel_rfl, by kernel_rfl, by kernel_rfl, by kernel_rfl⟩ (Lib.laidMet.reads hL (.tail _ (.head _))) (Lib.laidMet.reads hL (.head _))
  have hval : ∀ (j : Nat) t v, Tryd.f4.params[j]? = some t → args[j]? = some v → Value.okWide Tryd.prog W .any base t v := hval0
  have hW' := hW
  obtain ⟨p, q, hA0, hV, rfl, _, _⟩ := hW
  have hA : DataW.TrodAll enc Tryd.prog W 0 (fun _ => true) true Tryd.f4.params.toList args.toList ds p := hA0
  rw [Tryd.params4] at hA hval
  obtain ⟨v0, vs0, d0, ds0, p0, q0, hargs, rfl, rfl, h0, r0⟩ := trodAll_cons hA
  obtain ⟨v1, vs1, d1, ds1, p1, q1, rfl, rfl, rfl, h1, r1⟩ := trodAll_cons r0
  obtain ⟨rfl, rfl, rfl⟩ := trodAll_nil r1
  obtain rfl : args = #[v0, v1] := by cases args; simp_all
  obtain ⟨rfl, rfl⟩ := trodVars_none hV
  obtain ⟨x0, va0, vk0, rfl, nd0⟩ := open_node (hval 0 25 v0 rfl rfl) h0
  obtain ⟨x1, va1, vk1, rfl, nd1⟩ := open_node (hval 1 25 v1 rfl rfl) h1
  clear hA0 hval0
  refine (walk_TreeSame x0 va0 vk0 x1 va1 vk1 W nd0 nd1 hU).mono fun e W' ⟨he, hb⟩ => ?_
  subst he
  exact ⟨_, rfl, law_post (by kernel_rfl) rfl rfl rfl hW' hb⟩
theorem said_TreeSame : Rows.TreeSameSaid :=
  OpenClaim.holds_of_cond 4 Tryd.f4 rfl rfl rfl rfl rfl rfl rfl ⟨rfl, rfl, rfl, rfl, rfl⟩ rfl rfl rfl rfl rfl (by kernel_rfl) Tryd.func4 (by kernel_rfl)
    (of_decide_eq_true (by kernel_rfl)) (by unfold Func.isWrapper; first | (rw [if_pos (by decide +kernel)]; kernel_rfl) | (rw [if_neg (by decide +kernel)]; exact ⟨rfl, rfl⟩))
    (fun os started H enc _ F => by rw [OpenClaim.pre_eq_preRow]; exact lifted_TreeSame os started H enc F)
set_option maxRecDepth 100000 in
theorem plain_TreeSame (f : FuncId) (fn : Func) (hf : Tryd.pinned.checked.prog.funcNamed "pomace/pomacelaw03.TreeSame" = some f) (hfn : Tryd.pinned.checked.prog.funcs[f]? = some fn) :
    true = Tryd.pinned.checked.prog.looks [] ∧ ∀ (j : Nat) t, fn.params[j]? = some t → Tryd.pinned.checked.prog.wantsStandIn t = false := by
  obtain rfl : f = 4 := Option.some.inj ((show Tryd.prog.funcNamed "pomace/pomacelaw03.TreeSame" = some 4 by kernel_rfl).symm.trans hf) |>.symm
  obtain rfl : fn = Tryd.f4 := (Option.some.inj (Tryd.func4.symm.trans hfn)).symm
  refine ⟨by kernel_rfl, fun j t ht => ?_⟩
  rw [Tryd.params4] at ht
  have h := Array.mem_of_getElem? ht
  simp only [List.mem_toArray, List.mem_cons, List.not_mem_nil, or_false] at h
  rcases h with rfl | rfl
  all_goals first
    | exact (show Tryd.prog.wantsStandIn 25 = false by kernel_rfl)

/-- the statement of TreeSame: its card -/
theorem proved_TreeSame : Rows.TreeSameCardSaid :=
  Claim7.holds_tied_plain_at .later [] _ _ _ _ said_TreeSame (fun _ h => by cases h) (by kernel_rfl) (fun _ h => by cases h) treeSame_row_tie rfl ⟨rfl, rfl⟩ (by kernel_rfl) rfl plain_TreeSame (by kernel_rfl)
end Go.Proofs.YtpbkidmdfibaoaaDoor
