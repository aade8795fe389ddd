/-
  Layer 6: the card CoordCompares.
-/
import Derived.Test.YtinhedegbaegnaaDoorOpen6
import Derived.Test.YtinhedegbaegnaaDoorCc6
namespace Go.Proofs.YtinhedegbaegnaaDoor
set_option linter.unusedVariables false
set_option linter.unusedSimpArgs false
open Go.ChangeShapes Go.WideShapes Go.ChangeAt Go.RowKit Go.Joins
open Go.ChangeMaps (open_string shut_string)

section
variable {H : Type} {enc : TypeId × Value → H} {W : World} {b0 base : Nat} {sp : Nat → Bool} {v : Value} {d : DataW H} {p : List MemPlace}
theorem key_cells {n : Nat} {c0 c1 c2 c3 : Value} {y : DataW H × List MemPlace} (h : DataW.trod enc Tryd.prog W base sp true n 25 [c0, c1, c2, c3] = some y) :
    ∃ k : K4, c0 = .string k.g ∧ c1 = .string k.a ∧ c2 = .string k.t ∧ c3 = .string k.c := by
  obtain ⟨y0, y1, y2, y3, n, hx, _, h0, h1, h2, h3⟩ := trod_struct4 Tryd.underlying25 h
  have hs : Tryd.prog.cellsOf 9 = 1 := by kernel_rfl
  simp only [hs, List.drop_zero, List.drop_succ_cons, List.take_succ_cons, List.take_zero] at h0 h1 h2 h3
  obtain ⟨g, rfl, _⟩ := one_text h0
  obtain ⟨a, rfl, _⟩ := one_text h1
  obtain ⟨t, rfl, _⟩ := one_text h2
  obtain ⟨c, rfl, _⟩ := one_text h3
  exact ⟨⟨g, a, t, c⟩, rfl, rfl, rfl, rfl⟩
theorem open_keys (hv : Value.okWide Tryd.prog W .any b0 45 v) (h : DataW.Trod enc Tryd.prog W base sp true 45 v d p) :
    ∃ x y z : K4, v = .agg #[.string x.g, .string x.a, .string x.t, .string x.c, .string y.g, .string y.a, .string y.t, .string y.c, .string z.g, .string z.a, .string z.t, .string z.c] := by
  have hu := Tryd.underlying45
  simp only [Value.okWide, hu] at hv
  obtain ⟨cs, rfl, hsz, _⟩ := hv
  have h12 : cs.size = 12 := hsz.trans (by kernel_rfl)
  obtain ⟨l⟩ := cs
  match l, h12 with
  | [a0, a1, a2, a3, b0, b1, b2, b3, c0, c1, c2, c3], _ =>
    obtain ⟨fuel, hf⟩ := h
    obtain ⟨xs, m, _, _, _, hlen, hg⟩ := DataW.trod_array hu hf
    have hk : Tryd.prog.cellsOf 25 = 4 := by kernel_rfl
    match xs, hlen with
    | [y0, y1, y2], _ =>
      have g0 := hg 0 (by omega)
      have g1 := hg 1 (by omega)
      have g2 := hg 2 (by omega)
      simp [hk, Value.cells] at g0 g1 g2
      obtain ⟨x, rfl, rfl, rfl, rfl⟩ := key_cells g0
      obtain ⟨y, rfl, rfl, rfl, rfl⟩ := key_cells g1
      obtain ⟨z, rfl, rfl, rfl, rfl⟩ := key_cells g2
      exact ⟨x, y, z, rfl⟩
end

set_option maxHeartbeats 8000000 in
set_option maxRecDepth 100000 in
theorem walk_CoordCompares (x y z : K4) (w : World) (hm : MaxOk w) :
    Calls Tryd.prog 6 #[.agg #[.string x.g, .string x.a, .string x.t, .string x.c, .string y.g, .string y.a, .string y.t, .string y.c, .string z.g, .string z.a, .string z.t, .string z.c]] w fun e w' => e = .returned (.bool true) ∧ Below w.heap.size w w' := by
  have HM := Lib.hid hm; clear hm
  have hlives : ∀ w', Below w.heap.size w w' → Calls Tryd.prog 11 #[] w' fun e w2 => e = .returned (.bool true) ∧ Below w.heap.size w w2 := fun w' hb =>
    (lives06 w' (HM.out.below hb (Nat.le_refl _))).mono fun e w2 ⟨he, hb2⟩ => ⟨he, hb.trans (hb2.mono hb.size)⟩
  have HL := Lib.hid hlives; clear hlives
  have i0 : ∀ w, (Instr.index 45 (.agg #[.string x.g, .string x.a, .string x.t, .string x.c, .string y.g, .string y.a, .string y.t, .string y.c, .string z.g, .string z.a, .string z.t, .string z.c]) (.int .i64 0)).run Tryd.prog w = .ok (.agg #[.string x.g, .string x.a, .string x.t, .string x.c]) w := fun _ => by kernel_rfl
  have i1 : ∀ w, (Instr.index 45 (.agg #[.string x.g, .string x.a, .string x.t, .string x.c, .string y.g, .string y.a, .string y.t, .string y.c, .string z.g, .string z.a, .string z.t, .string z.c]) (.int .i64 1)).run Tryd.prog w = .ok (.agg #[.string y.g, .string y.a, .string y.t, .string y.c]) w := fun _ => by kernel_rfl
  have i2 : ∀ w, (Instr.index 45 (.agg #[.string x.g, .string x.a, .string x.t, .string x.c, .string y.g, .string y.a, .string y.t, .string y.c, .string z.g, .string z.a, .string z.t, .string z.c]) (.int .i64 2)).run Tryd.prog w = .ok (.agg #[.string z.g, .string z.a, .string z.t, .string z.c]) w := fun _ => by kernel_rfl
  by_cases qx : bigK x
  · unfold bigK at qx
    go_enter Tryd.func6, Tryd.ntmps6
    go_wp2
    refine wp_loop_rounds 4 ?_
    rw [rounds_succ]
    go_wp2_with fail
    all_goals
      refine (HL.out _ (by repeat (first | exact Below.refl _ _ | refine below_al' _ ?_ (Nat.le_refl _)))).mono ?_
      rintro e w2 ⟨rfl, hb⟩
      go_wp2
      go_ret
      exact ⟨rfl, hb⟩
  have Nx := Lib.hid qx
  have qxg : (x.g.size : Int) ≤ 400 := by unfold bigK at qx; omega
  have qxa : (x.a.size : Int) ≤ 400 := by unfold bigK at qx; omega
  have qxt : (x.t.size : Int) ≤ 400 := by unfold bigK at qx; omega
  have qxc : (x.c.size : Int) ≤ 400 := by unfold bigK at qx; omega
  clear qx
  by_cases qy : bigK y
  · unfold bigK at qy
    go_enter Tryd.func6, Tryd.ntmps6
    go_wp2
    refine wp_loop_rounds 4 ?_
    rw [rounds_succ]
    go_wp2_with fail
    rw [rounds_succ]
    go_wp2_with fail
    all_goals
      refine (HL.out _ (by repeat (first | exact Below.refl _ _ | refine below_al' _ ?_ (Nat.le_refl _)))).mono ?_
      rintro e w2 ⟨rfl, hb⟩
      go_wp2
      go_ret
      exact ⟨rfl, hb⟩
  have Ny := Lib.hid qy
  have qyg : (y.g.size : Int) ≤ 400 := by unfold bigK at qy; omega
  have qya : (y.a.size : Int) ≤ 400 := by unfold bigK at qy; omega
  have qyt : (y.t.size : Int) ≤ 400 := by unfold bigK at qy; omega
  have qyc : (y.c.size : Int) ≤ 400 := by unfold bigK at qy; omega
  clear qy
  by_cases qz : bigK z
  · unfold bigK at qz
    go_enter Tryd.func6, Tryd.ntmps6
    go_wp2
    refine wp_loop_rounds 4 ?_
    rw [rounds_succ]
    go_wp2_with fail
    rw [rounds_succ]
    go_wp2_with fail
    rw [rounds_succ]
    go_wp2_with fail
    all_goals
      refine (HL.out _ (by repeat (first | exact Below.refl _ _ | refine below_al' _ ?_ (Nat.le_refl _)))).mono ?_
      rintro e w2 ⟨rfl, hb⟩
      go_wp2
      go_ret
      exact ⟨rfl, hb⟩
  exact cc_main x y z w HL.out Nx.out Ny.out qz

theorem laid_met_CoordCompares (os : Os) : laidMet Tryd.prog Rows.coordComparesRow.laid ((laidWorld #[.agg #[.string .empty, .string .empty, .string .empty, .string .empty, .string .empty, .string .empty, .string .empty, .string .empty, .string .empty, .string .empty, .string .empty, .string .empty]] os).forCall (fun _ _ => 0) ⟨#[], #[.agg #[.string .empty, .string .empty, .string .empty, .string .empty, .string .empty, .string .empty, .string .empty, .string .empty, .string .empty, .string .empty, .string .empty, .string .empty]], []⟩).memory :=
  laidMet_of_run' 8 (by kernel_rfl) (by kernel_rfl)
theorem reads_CoordCompares (os : Os) {H : Type} (enc : TypeId × Value → H) : ∃ places, DataW.whole enc Tryd.prog ((laidWorld #[.agg #[.string .empty, .string .empty, .string .empty, .string .empty, .string .empty, .string .empty, .string .empty, .string .empty, .string .empty, .string .empty, .string .empty, .string .empty]] os).forCall (fun _ _ => 0) ⟨#[], #[.agg #[.string .empty, .string .empty, .string .empty, .string .empty, .string .empty, .string .empty, .string .empty, .string .empty, .string .empty, .string .empty, .string .empty, .string .empty]], []⟩).memory Tryd.f6.params.toList Rows.coordComparesSpec.vars false (#[.agg #[.string .empty, .string .empty, .string .empty, .string .empty, .string .empty, .string .empty, .string .empty, .string .empty, .string .empty, .string .empty, .string .empty, .string .empty]] : Array Value).toList 8 = some ([.agg [(.agg [.lit (.string []), .lit (.string []), .lit (.string []), .lit (.string [])]), (.agg [.lit (.string []), .lit (.string []), .lit (.string []), .lit (.string [])]), (.agg [.lit (.string []), .lit (.string []), .lit (.string []), .lit (.string [])])]], [], places) :=
  ⟨[], by kernel_rfl⟩
set_option maxRecDepth 100000 in
theorem lifted_CoordCompares (os : Os) (started : os.Started) (H : Type) (enc : TypeId × Value → H) (F : Stop.Interp) :
    ReturnsInHanded {} Tryd.checked os 6 .any ((OpenSpec.ofChange Rows.coordComparesSpec).preRow enc Tryd.prog Tryd.f6 Rows.coordComparesRow.domain false Rows.coordComparesRow.laid) (((OpenSpec.ofChange Rows.coordComparesSpec).at F).post enc Tryd.prog Tryd.f6 false true false false) := by
  obtain ⟨places, hx⟩ := reads_CoordCompares os enc
  refine returnsInHanded_of_row (C := Tryd.checked) (s := OpenSpec.ofChange Rows.coordComparesSpec) own_knob started (by kernel_rfl) Tryd.func6
    (witness_row_at (enc := enc) (C := Tryd.checked) false (laidWorld #[.agg #[.string .empty, .string .empty, .string .empty, .string .empty, .string .empty, .string .empty, .string .empty, .string .empty, .string .empty, .string .empty, .string .empty, .string .empty]] os) #[.agg #[.string .empty, .string .empty, .string .empty, .string .empty, .string .empty, .string .empty, .string .empty, .string .empty, .string .empty, .string .empty, .string .empty, .string .empty]] rfl (by kernel_rfl) (by kernel_rfl) (by kernel_rfl)
      (OpenSpec.preRow_of_cond 8 hx (by kernel_rfl) (fun k hk => by cases hk) (by kernel_rfl) (laid_met_CoordCompares os))) ?_
  intro W base args ds gs before hval0 hW _ _ _ _ hsh _
  have hval : ∀ (j : Nat) t v, Tryd.f6.params[j]? = some t → args[j]? = some v → Value.okWide Tryd.prog W .any base t v := hval0
  have hm : MaxOk W := maxOk_of (maxLen_cell W hsh)
  have hW' := hW
  obtain ⟨p, q, hA0, hV, rfl, _, _⟩ := hW
  have hA : DataW.TrodAll enc Tryd.prog W 0 (fun _ => true) true Tryd.f6.params.toList args.toList ds p := hA0
  rw [Tryd.params6] at hA hval
  obtain ⟨v0, vs0, d0, ds0, p0, q0, hargs, rfl, rfl, h0, r0⟩ := trodAll_cons hA
  obtain ⟨rfl, rfl, rfl⟩ := trodAll_nil r0
  obtain rfl : args = #[v0] := by cases args; simp_all
  obtain ⟨rfl, rfl⟩ := trodVars_none hV
  obtain ⟨x, y, z, rfl⟩ := open_keys (hval 0 45 v0 rfl rfl) h0
  clear hA0 hval0
  refine (walk_CoordCompares x y z W hm).mono fun e W' ⟨he, hb⟩ => ?_
  subst he
  exact ⟨_, rfl, law_post (by kernel_rfl) rfl rfl rfl hW' hb⟩
theorem said_CoordCompares : Rows.CoordComparesSaid :=
  OpenClaim.holds_of_cond 6 Tryd.f6 rfl rfl rfl rfl rfl rfl rfl ⟨rfl, rfl, rfl, rfl, rfl⟩ rfl rfl rfl rfl rfl (by kernel_rfl) Tryd.func6 (by kernel_rfl)
    (of_decide_eq_true (by kernel_rfl)) (by unfold Func.isWrapper; first | (rw [if_pos (by decide +kernel)]; kernel_rfl) | (rw [if_neg (by decide +kernel)]; exact ⟨rfl, rfl⟩))
    (fun os started H enc _ F => by rw [OpenClaim.pre_eq_preRow]; exact lifted_CoordCompares os started H enc F)
theorem plain_CoordCompares (f : FuncId) (fn : Func) (hf : Tryd.pinned.checked.prog.funcNamed "pomace/pomacelaw06.CoordCompares" = some f) (hfn : Tryd.pinned.checked.prog.funcs[f]? = some fn) :
    false = Tryd.pinned.checked.prog.looks [] ∧ ∀ (j : Nat) t, fn.params[j]? = some t → Tryd.pinned.checked.prog.wantsStandIn t = false := by
  obtain rfl : f = 6 := Option.some.inj ((show Tryd.prog.funcNamed "pomace/pomacelaw06.CoordCompares" = some 6 by kernel_rfl).symm.trans hf) |>.symm
  obtain rfl : fn = Tryd.f6 := (Option.some.inj (Tryd.func6.symm.trans hfn)).symm
  refine ⟨by kernel_rfl, fun j t ht => ?_⟩
  rw [Tryd.params6] at ht
  have h := Array.mem_of_getElem? ht
  simp only [List.mem_toArray, List.mem_cons, List.not_mem_nil, or_false] at h
  rcases h with rfl
  all_goals first
    | exact (show Tryd.prog.wantsStandIn 45 = false by kernel_rfl)

/-- the statement of CoordCompares: its card -/
theorem proved_CoordCompares : Rows.CoordComparesCardSaid :=
  Claim7.holds_tied_plain_at .later [] _ _ _ _ said_CoordCompares (fun _ h => by cases h) (by kernel_rfl) (fun _ h => by cases h) coordCompares_row_tie rfl ⟨rfl, rfl⟩ (by kernel_rfl) rfl plain_CoordCompares (by kernel_rfl)

end Go.Proofs.YtinhedegbaegnaaDoor
