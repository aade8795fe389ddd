/-
  Layer 5: the card BoundsSame: versions that are the same are in the same ranges; what is between two that are in one interval is in the range. For every input. Own work.
-/
import Derived.Test.YtnghagikchffiaaDoorHas5b
import Derived.Test.YtnghagikchffiaaDoorSame5c
import Derived.Test.YtnghagikchffiaaDoorDoor
import Derived.Lib.LaidU8
namespace Go.Proofs.YtnghagikchffiaaDoor
set_option linter.unusedVariables false
set_option linter.unusedSimpArgs false
open Go.ChangeShapes Go.WideShapes Go.ChangeAt Go.RowKit
open Go.ChangeMaps (open_string shut_string)

section
variable {H : Type} {enc : TypeId × Value → H} {W : World} {b0 base : Nat} {sp : Nat → Bool} {v : Value} {d : DataW H} {p : List MemPlace}
set_option maxRecDepth 100000 in
theorem open_str3 (hv : Value.okWide Tryd.prog W .any b0 39 v) (h : DataW.Trod enc Tryd.prog W base sp true 39 v d p) :
    ∃ a b c : ByteArray, v = .agg #[.string a, .string b, .string c] ∧ a.size ≤ 9223372036854775807 ∧ b.size ≤ 9223372036854775807 ∧ c.size ≤ 9223372036854775807 := by
  have hu := Tryd.underlying39
  simp only [Value.okWide, hu] at hv
  obtain ⟨cs, rfl, hsz, _⟩ := hv
  have h3 : cs.size = 3 := hsz.trans (by kernel_rfl)
  obtain ⟨l⟩ := cs
  match l, h3 with
  | [a0, a1, a2], _ =>
    obtain ⟨fuel, hf⟩ := h
    obtain ⟨xs, m, _, _, _, hlen, hg⟩ := DataW.trod_array hu hf
    have hk : Tryd.prog.cellsOf 9 = 1 := by kernel_rfl
    match xs, hlen with
    | [y0, y1, y2], _ =>
      have g0 := hg 0 (by omega)
      have g1 := hg 1 (by omega)
      have g2 := hg 2 (by omega)
      simp [hk, Value.cells] at g0 g1 g2
      obtain ⟨x, rfl, z0⟩ := one_text g0
      obtain ⟨y, rfl, z1⟩ := one_text g1
      obtain ⟨z, rfl, z2⟩ := one_text g2
      exact ⟨x, y, z, rfl, z0, z1, z2⟩
end
theorem walk_BoundsSame (hard : Bool) (ver : ByteArray) (pv : Value) (l : List Iv) (hver : okV ver) (hl : ∀ p ∈ l, okV p.lo.ver ∧ okV p.hi.ver) (w : World) (hr : RdI w pv l) (a b c : ByteArray) (ha : a.size ≤ 9223372036854775807) (hb : b.size ≤ 9223372036854775807) (hc : c.size ≤ 9223372036854775807) (hT : Lib.Utf8Tabs 1 2 w) :
    Calls Tryd.prog 7 #[.agg #[.bool hard, .string ver, pv], .agg #[.string a, .string b, .string c]] w fun e w' => e = .returned (.bool true) ∧ Below w.heap.size w w' := by
  obtain ⟨pa, pc, rfl⟩ := rd_shape hr
  have hlb : (l.length : Int) ≤ 9223372036854775807 := by
    rcases hr with ⟨_, rfl⟩ | ⟨a, cap, h, h1, h2, _⟩
    · simp
    · omega
  exact walk_Same0 hard ver pa pc l a b c ha hb hc w hr hlb (fun s t hs ht w => refCompare_any s t hs ht w)
    (fun w' hb => (Light_at hard ver _ l hver hl w' (hr.below hb (Nat.le_refl _))).mono fun e w2 ⟨bb, he, hs, hb2⟩ => ⟨bb, he, fun h => (hs h).small, hb2⟩)
    (fun w' hb => lives05 w' (Utf8Tabs_below hT hb))

theorem laid_met_BoundsSame (os : Os) : laidMet Tryd.prog Rows.boundsSameRow.laid ((laidWorld #[.agg #[.bool false, .string .empty, .slice none 0 0], .agg #[.string .empty, .string .empty, .string .empty]] os).forCall (fun _ _ => 0) ⟨#[], #[.agg #[.bool false, .string .empty, .slice none 0 0], .agg #[.string .empty, .string .empty, .string .empty]], []⟩).memory :=
  laidMet_of_run' 8 (by kernel_rfl) (by kernel_rfl)
theorem reads_BoundsSame (os : Os) {H : Type} (enc : TypeId × Value → H) : ∃ places, DataW.whole enc Tryd.prog ((laidWorld #[.agg #[.bool false, .string .empty, .slice none 0 0], .agg #[.string .empty, .string .empty, .string .empty]] os).forCall (fun _ _ => 0) ⟨#[], #[.agg #[.bool false, .string .empty, .slice none 0 0], .agg #[.string .empty, .string .empty, .string .empty]], []⟩).memory Tryd.f7.params.toList Rows.boundsSameSpec.vars false (#[.agg #[.bool false, .string .empty, .slice none 0 0], .agg #[.string .empty, .string .empty, .string .empty]] : Array Value).toList 8 = some ([.agg [.lit (.bool false), .lit (.string []), .nil], .agg [.lit (.string []), .lit (.string []), .lit (.string [])]], [], places) :=
  ⟨[], by kernel_rfl⟩
set_option maxRecDepth 100000 in
theorem lifted_BoundsSame (os : Os) (started : os.Started) (H : Type) (enc : TypeId × Value → H) (F : Stop.Interp) :
    ReturnsInHanded {} Tryd.checked os 7 .any ((OpenSpec.ofChange Rows.boundsSameSpec).preRow enc Tryd.prog Tryd.f7 Rows.boundsSameRow.domain false Rows.boundsSameRow.laid) (((OpenSpec.ofChange Rows.boundsSameSpec).at F).post enc Tryd.prog Tryd.f7 false true false false) := by
  obtain ⟨places, hx⟩ := reads_BoundsSame os enc
  refine returnsInHanded_of_row (C := Tryd.checked) (s := OpenSpec.ofChange Rows.boundsSameSpec) own_knob started (by kernel_rfl) Tryd.func7
    (witness_row_at (enc := enc) (C := Tryd.checked) false (laidWorld #[.agg #[.bool false, .string .empty, .slice none 0 0], .agg #[.string .empty, .string .empty, .string .empty]] os) #[.agg #[.bool false, .string .empty, .slice none 0 0], .agg #[.string .empty, .string .empty, .string .empty]] rfl (by kernel_rfl) (by kernel_rfl) (by kernel_rfl)
      (OpenSpec.preRow_of_cond 8 hx (by kernel_rfl) (fun k hk => by cases hk) (by kernel_rfl) (laid_met_BoundsSame os))) ?_
  intro W base args ds gs before hval0 hW _ _ _ hL hsh _
  have hU : Lib.Utf8Tabs 1 2 W :=
    utf8Tabs_of_reads (ρ := Tryd.lays260_ren) { Tryd.lays260 with } ⟨by kernel_rfl, by kernel_rfl, by kernel_rfl, by kernel_rfl, by kernel_rfl, by kernel_rfl, by kernel_rfl⟩ (Lib.laidMet.reads hL (.tail _ (.head _))) (Lib.laidMet.reads hL (.head _))
  have hval : ∀ (j : Nat) t v, Tryd.f7.params[j]? = some t → args[j]? = some v → Value.okWide Tryd.prog W .any base t v := hval0
  have hW' := hW
  obtain ⟨p, q, hA0, hV, rfl, _, _⟩ := hW
  have hA : DataW.TrodAll enc Tryd.prog W 0 (fun _ => true) true Tryd.f7.params.toList args.toList ds p := hA0
  rw [Tryd.params7] at hA hval
  obtain ⟨v0, vs0, d0, ds0, p0, q0, hargs, rfl, rfl, h0, r0⟩ := trodAll_cons hA
  obtain ⟨v1, vs1, d1, ds1, p1, q1, rfl, rfl, rfl, h1, r1⟩ := trodAll_cons r0
  obtain ⟨rfl, rfl, rfl⟩ := trodAll_nil r1
  obtain rfl : args = #[v0, v1] := by cases args; simp_all
  obtain ⟨rfl, rfl⟩ := trodVars_none hV
  obtain ⟨hd0, vr0, pv0, l0, rfl, rd0, ov0, ol0⟩ := open_range (hval 0 25 v0 rfl rfl) h0
  obtain ⟨a1, b1, c1, rfl, za1, zb1, zc1⟩ := open_str3 (hval 1 39 v1 rfl rfl) h1
  clear hA0 hval0
  refine (walk_BoundsSame hd0 vr0 pv0 l0 ov0 ol0 W rd0 a1 b1 c1 za1 zb1 zc1 hU).mono fun e W' ⟨he, hb⟩ => ?_
  subst he
  exact ⟨_, rfl, law_post (by kernel_rfl) rfl rfl rfl hW' hb⟩
theorem said_BoundsSame : Rows.BoundsSameSaid :=
  OpenClaim.holds_of_cond 7 Tryd.f7 rfl rfl rfl rfl rfl rfl rfl ⟨rfl, rfl, rfl, rfl, rfl⟩ rfl rfl rfl rfl rfl (by kernel_rfl) Tryd.func7 (by kernel_rfl)
    (of_decide_eq_true (by kernel_rfl)) (by unfold Func.isWrapper; first | (rw [if_pos (by decide +kernel)]; kernel_rfl) | (rw [if_neg (by decide +kernel)]; exact ⟨rfl, rfl⟩))
    (fun os started H enc _ F => by rw [OpenClaim.pre_eq_preRow]; exact lifted_BoundsSame os started H enc F)
set_option maxRecDepth 100000 in
theorem plain_BoundsSame (f : FuncId) (fn : Func) (hf : Tryd.pinned.checked.prog.funcNamed "pomace/pomacelaw05.BoundsSame" = some f) (hfn : Tryd.pinned.checked.prog.funcs[f]? = some fn) :
    true = Tryd.pinned.checked.prog.looks [] ∧ ∀ (j : Nat) t, fn.params[j]? = some t → Tryd.pinned.checked.prog.wantsStandIn t = false := by
  obtain rfl : f = 7 := Option.some.inj ((show Tryd.prog.funcNamed "pomace/pomacelaw05.BoundsSame" = some 7 by kernel_rfl).symm.trans hf) |>.symm
  obtain rfl : fn = Tryd.f7 := (Option.some.inj (Tryd.func7.symm.trans hfn)).symm
  refine ⟨by kernel_rfl, fun j t ht => ?_⟩
  rw [Tryd.params7] at ht
  have h := Array.mem_of_getElem? ht
  simp only [List.mem_toArray, List.mem_cons, List.not_mem_nil, or_false] at h
  rcases h with rfl | rfl
  all_goals first
    | exact (show Tryd.prog.wantsStandIn 25 = false by kernel_rfl)
    | exact (show Tryd.prog.wantsStandIn 39 = false by kernel_rfl)

/-- the statement of BoundsSame: its card -/
theorem proved_BoundsSame : Rows.BoundsSameCardSaid :=
  Claim7.holds_tied_plain_at .later [] _ _ _ _ said_BoundsSame (fun _ h => by cases h) (by kernel_rfl) (fun _ h => by cases h) boundsSame_row_tie rfl ⟨rfl, rfl⟩ (by kernel_rfl) rfl plain_BoundsSame (by kernel_rfl)
end Go.Proofs.YtnghagikchffiaaDoor
