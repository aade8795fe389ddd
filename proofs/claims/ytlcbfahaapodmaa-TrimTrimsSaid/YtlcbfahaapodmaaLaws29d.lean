/-
  Layer 29: the statement TrimTrims: what is left of any question, and what was fixed. For every input. Own work.
-/
import Derived.Test.YtlcbfahaapodmaaRq29
import Derived.Deep.RegionHeld3
import Derived.Deep.Cut
import Derived.Deep.CutRange
namespace Go.Proofs.Ytlcbfahaapodmaa
set_option linter.unusedVariables false
set_option linter.unusedSimpArgs false
open Go.ChangeShapes Go.WideShapes Go.ChangeAt Go.RowKit

/-- a row of one row -/
theorem one_row29d {w : World} {r : Value} {c : List Int} {B : Nat} (hb : w.heap[B]? = some (.cells #[r] 27 (0, 0))) (h : Reads w iV r c) : Reads2 w (.slice (some ⟨B, 0, none⟩) 1 1) [c] := by
  refine ⟨_, 1, rfl, by simp, fun j d hj => ?_⟩
  match j, hj with
  | 0, hj =>
    cases hj
    exact ⟨_, r, rfl, by
      have e : (⟨B, 0, none⟩ : Addr).add 0 = ⟨B, 0, none⟩ := by unfold Addr.add; rfl
      rw [e, cell_of_row w B 0 _ _ (0, 0) hb]; rfl, h⟩
  | j + 1, hj => simp at hj
theorem below_ofd {w w' : World} (h : w.grownBy w' none) : Below w.heap.size w w' := (Below.refl _ _).grown h (Nat.le_refl _) (fun k h => by cases h)
/-- what region 8 loads -/
abbrev keepD (w6 : World) (B X K V : Nat) (d f c u : Value) (w' : World) : Prop := w'.cell? ⟨B, 0, none⟩ = some (.int .i64 (V : Int)) ∧ w'.cell? ⟨X, 0, none⟩ = some (.int .i64 (V : Int)) ∧ w'.cell? ⟨X, 1, none⟩ = some d ∧ w'.cell? ⟨X, 2, none⟩ = some f ∧ w'.cell? ⟨K, 0, none⟩ = some c ∧ w'.cell? ⟨K, 1, none⟩ = some u ∧ Below w6.heap.size w6 w'
theorem keepD.step {w6 w2 w3 : World} {B X K V : Nat} {d f c u : Value} (h : keepD w6 B X K V d f c u w2) (hb : Below w2.heap.size w2 w3) : keepD w6 B X K V d f c u w3 := by
  obtain ⟨h0, h1, h2, h3, h4, h5, h6⟩ := h
  exact ⟨(hb.cell (World.block_lt_of_cell? w2 _ h0)).trans h0, (hb.cell (World.block_lt_of_cell? w2 _ h1)).trans h1, (hb.cell (World.block_lt_of_cell? w2 _ h2)).trans h2, (hb.cell (World.block_lt_of_cell? w2 _ h3)).trans h3, (hb.cell (World.block_lt_of_cell? w2 _ h4)).trans h4, (hb.cell (World.block_lt_of_cell? w2 _ h5)).trans h5, h6.trans (hb.mono h6.size)⟩
theorem keepD.bel {w6 w2 : World} {B X K V : Nat} {d f c u : Value} (h : keepD w6 B X K V d f c u w2) : Below w6.heap.size w6 w2 := h.2.2.2.2.2.2
set_option maxRecDepth 100000 in
set_option maxHeartbeats 4000000 in
theorem walk_TrimTrims (vars : Int) (hv : -9223372036854775808 ≤ vars ∧ vars ≤ 9223372036854775807) (cv : Value) (cs : List (List Int)) (hf : Fit64 cs) (W : World) (g0 : Reads2 W cv cs) :
    Calls Try.prog 3 #[.agg #[.int .i64 vars, cv]] W fun e W' => e = .returned (.bool true) ∧ Below W.heap.size W W' := by
  obtain ⟨ca, cp, rfl, hlen, hrow⟩ := g0
  have hb : Below W.heap.size W (W.alloc (.cells #[.int .i64 vars, .slice ca cs.length cp] 24)) := (Below.refl _ _).alloc (Nat.le_refl _) _
  have HC := Lib.hid ((show Reads2 W (.slice ca cs.length cp) cs from ⟨ca, cp, rfl, hlen, hrow⟩).below29 hb (Nat.le_refl _))
  have HB := Lib.hid hb
  have hR := heap_alloc_new W (.cells #[.int .i64 vars, .slice ca cs.length cp] 24)
  have hz : W.heap.size < (W.alloc (.cells #[.int .i64 vars, .slice ca cs.length cp] 24)).heap.size := by simp
  clear hlen hrow hb hf
  go_enter Try.func3, Try.ntmps3
  go_upto_region 1 with fail
  generalize W.alloc (.cells #[.int .i64 vars, .slice ca cs.length cp] 24) = W1 at HC HB hR hz ⊢
  have hc0 : W1.cell? ⟨W.heap.size, 0, none⟩ = some (.int .i64 vars) := cell_of_row _ _ 0 _ _ (0, 0) hR
  have hc1 : W1.cell? ⟨W.heap.size, 1, none⟩ = some (.slice ca cs.length cp) := cell_of_row _ _ 1 _ _ (0, 0) hR
  have HR := Lib.hid hR
  have HLT := Lib.hid (light29_any (vars := vars) (.slice ca cs.length cp) W1 HC.out)
  clear hR
  go_wp2_with fail
  refine HLT.out.mono ?_
  rintro e w2 ⟨rfl, hb2⟩
  clear HLT
  have HB2 := Lib.hid (then29 HB.out hb2)
  have HC2 := Lib.hid (HC.out.below29 hb2 (Nat.le_refl _))
  have HR2 := Lib.hid ((hb2.block _ hz).trans HR.out)
  have hz2 : W.heap.size < w2.heap.size := Nat.lt_of_lt_of_le hz hb2.size
  clear hb2 hc0 hc1 HB HC HR hz
  have hc0 : w2.cell? ⟨W.heap.size, 0, none⟩ = some (.int .i64 vars) := cell_of_row _ _ 0 _ _ (0, 0) HR2.out
  have hc1 : w2.cell? ⟨W.heap.size, 1, none⟩ = some (.slice ca cs.length cp) := cell_of_row _ _ 1 _ _ (0, 0) HR2.out
  cases hL : lightQ vars cs with
  | false =>
    go_wp2_with fail
    refine (lives29_any _).mono ?_
    rintro e wE ⟨rfl, hbE⟩
    go_wp2
    go_ret
    exact ⟨rfl, then29 (HB2.out) hbE⟩
  | true =>
    obtain ⟨hv30, hl60, hl20⟩ := lightQ_of hL
    have HLS := Lib.hid (light_size hl60 hl20)
    have HT := Lib.hid (Trim29_any (vars := vars) (.slice ca cs.length cp) w2 hv HC2.out (Nat.le_trans HLS.out (by omega)))
    clear hL hl20
    go_wp2_with fail
    refine HT.out.mono ?_
    rintro e w3 ⟨hb3, hr⟩
    clear HT
    rcases hr with ⟨hm, dv, fv, rfl, hcap, hu⟩ | ⟨hm, rfl⟩
    · obtain ⟨⟨da, dc, hdd, _⟩, hff⟩ := hu w3 (UpW.refl _ _)
      obtain ⟨fa, fc, hff, _⟩ := reads_shape hff
      obtain ⟨b1, b2, _, _, b5⟩ := mayQ_zero hm
      obtain ⟨V, rfl⟩ : ∃ V : Nat, vars = (V : Int) := ⟨vars.toNat, by omega⟩
      have eV : (V : Int).toNat = V := by simp
      rw [eV] at hu hdd hff
      have HTM := Lib.hid (show ∀ w', Below W.heap.size W w' → True from fun _ _ => trivial)
      have HRN := Lib.hid (fun w' (hc : Reads2 w' (.slice ca cs.length cp) cs) => RRun29 V (.slice ca cs.length cp) cs hc (by omega) (Nat.le_trans HLS.out (by omega)) (fun c hc n hn => by have := b5 c hc n hn; omega))
      have h4 := upw_alloc w2.heap.size w3 (.cells #[.int .i64 (V : Int), dv, fv] 29)
      have HD4 := Lib.hid (hu _ h4).1
      have HF4 := Lib.hid (hu _ h4).2
      generalize hcn : (trimM V cs).C.length = cn at hdd
      generalize hfn : (trimM V cs).fx.length = fn at hff
      subst hdd hff
      have hb4 := hb3.alloc hb3.size (.cells #[.int .i64 (V : Int), .slice da cn dc, .slice fa fn fc] 29)
      have HB4 := Lib.hid (then29 HB2.out hb4)
      have HC4 := Lib.hid (HC2.out.below29 hb4 (Nat.le_refl _))
      have hR4 := (hb4.block _ hz2).trans HR2.out
      have hT4 := heap_alloc_new w3 (.cells #[.int .i64 (V : Int), .slice da cn dc, .slice fa fn fc] 29)
      have hz4 : W.heap.size < (w3.alloc (.cells #[.int .i64 (V : Int), .slice da cn dc, .slice fa fn fc] 29)).heap.size := Nat.lt_of_lt_of_le hz2 hb4.size
      have hx4 : w3.heap.size < (w3.alloc (.cells #[.int .i64 (V : Int), .slice da cn dc, .slice fa fn fc] 29)).heap.size := by simp
      have HM := Lib.hid hm
      clear hb3 hc0 hc1 HB2 HC2 HR2 hz2 hu h4 hb4 hcap eV hcn hfn hm b5 HTM
      go_upto_region 4 with fail
      generalize w3.alloc (.cells #[.int .i64 (V : Int), .slice da cn dc, .slice fa fn fc] 29) = w4 at HD4 HF4 HB4 HC4 hR4 hT4 hz4 hx4 ⊢
      generalize w3.heap.size = X at hT4 hx4 ⊢
      have HR4 := Lib.hid hR4
      have HT4 := Lib.hid hT4
      have hc0 : w4.cell? ⟨W.heap.size, 0, none⟩ = some (.int .i64 (V : Int)) := cell_of_row _ _ 0 _ _ (0, 0) hR4
      have hc1 : w4.cell? ⟨W.heap.size, 1, none⟩ = some (.slice ca cs.length cp) := cell_of_row _ _ 1 _ _ (0, 0) hR4
      have hmy := RMay29_any (vars := (V : Int)) (.slice ca cs.length cp) w4 hv HC4.out
      rw [HM.out] at hmy
      have HMY := Lib.hid hmy
      clear hR4 hT4 hmy
      go_wp2_with fail
      refine HMY.out.mono ?_
      rintro e w5 ⟨rfl, hb5⟩
      clear HMY
      have HB5 := Lib.hid (then29 HB4.out hb5)
      have HC5 := Lib.hid (HC4.out.below29 hb5 (Nat.le_refl _))
      have HD5 := Lib.hid (HD4.out.below29 hb5 (Nat.le_refl _))
      have HF5 := Lib.hid (HF4.out.below hb5 (Nat.le_refl _))
      have HR5 := Lib.hid ((hb5.block _ hz4).trans HR4.out)
      have HT5 := Lib.hid ((hb5.block _ hx4).trans HT4.out)
      have hz5 : W.heap.size < w5.heap.size := Nat.lt_of_lt_of_le hz4 hb5.size
      have hx5 : X < w5.heap.size := Nat.lt_of_lt_of_le hx4 hb5.size
      clear hb5 hc0 hc1 HB4 HC4 HD4 HF4 HR4 HT4 hz4 hx4
      have hc0 : w5.cell? ⟨W.heap.size, 0, none⟩ = some (.int .i64 (V : Int)) := cell_of_row _ _ 0 _ _ (0, 0) HR5.out
      have hc1 : w5.cell? ⟨W.heap.size, 1, none⟩ = some (.slice ca cs.length cp) := cell_of_row _ _ 1 _ _ (0, 0) HR5.out
      have HRU := Lib.hid (HRN.out w5 HC5.out)
      go_wp2_with fail
      refine HRU.out.mono ?_
      rintro e w6 ⟨K, wc, wf, wu, rfl, hb6, hk6⟩
      clear HRU HRN hc0 hc1
      have HB6 := Lib.hid (then29 HB5.out hb6)
      have HD6 := HD5.out.below29 hb6 (Nat.le_refl _)
      have HF6 := HF5.out.below hb6 (Nat.le_refl _)
      have hC6 := hk6.C.reads2
      have hF6 := (RdO.of hk6.fx).reads
      obtain ⟨wa, wcc, hwc, _⟩ := hC6
      obtain ⟨wfa, wfc, hwf⟩ := own_shape29 hk6.fx
      have hC6 := hk6.C.reads2
      have k0 : w6.cell? ⟨K, 0, none⟩ = some wc := hk6.cell 0
      have k1 : w6.cell? ⟨K, 1, none⟩ = some wf := hk6.cell 1
      generalize (trimM V cs).C.length = wn at hwc
      generalize (trimM V cs).fx.length = wm at hwf
      subst hwc hwf
      have hR6 := (hb6.block _ hz5).trans HR5.out
      have hT6 := (hb6.block _ hx5).trans HT5.out
      have HK9 := Lib.hid (show keepD w6 W.heap.size X K V (.slice da cn dc) (.slice fa fn fc) (.slice wa wn wcc) (.slice wfa wm wfc) w6 from ⟨cell_of_row _ _ 0 _ _ (0, 0) hR6, cell_of_row _ _ 0 _ _ (0, 0) hT6, cell_of_row _ _ 1 _ _ (0, 0) hT6, cell_of_row _ _ 2 _ _ (0, 0) hT6, k0, k1, Below.refl _ _⟩)
      have HS1 := Lib.hid (fun w' (hb : Below w6.heap.size w6 w') => (Same29_any (.slice da cn dc) (.slice wa wn wcc) w' (HD6.below29 hb (Nat.le_refl _)) (hC6.below29 hb (Nat.le_refl _))).mono fun e w2 (h : e = .returned (.bool (decide ((trimM V cs).C = (trimM V cs).C))) ∧ w'.grownBy w2 none) => show e = .returned (.bool true) ∧ Below w'.heap.size w' w2 from ⟨h.1.trans (by simp), below_ofd h.2⟩)
      have HS2 := Lib.hid (fun w' A B (hA : w'.heap[A]? = some (.cells #[.slice fa fn fc] 27 (0, 0))) (hB : w'.heap[B]? = some (.cells #[.slice wfa wm wfc] 27 (0, 0))) (hb : Below w6.heap.size w6 w') => (Same29_any (.slice (some ⟨A, 0, none⟩) 1 1) (.slice (some ⟨B, 0, none⟩) 1 1) w' (one_row29d hA (HF6.below hb (Nat.le_refl _))) (one_row29d hB (hF6.below hb (Nat.le_refl _)))).mono fun e w2 (h : e = .returned (.bool (decide ([(trimM V cs).fx] = [(trimM V cs).fx]))) ∧ w'.grownBy w2 none) => show e = .returned (.bool true) ∧ Below w'.heap.size w' w2 from ⟨h.1.trans (by simp), below_ofd h.2⟩)
      clear hC6 hF6 HD6 HF6 hk6 hb6 hR6 hT6 HR5 HT5 k0 k1 HD5 HF5 HC5 HB5
      obtain ⟨x0, x1, x2, x3, x4, x5, _⟩ := HK9.out
      go_upto_region 8 with fail
      go_region_held3 (fun w' => w'.cell? ⟨W.heap.size, 0, none⟩ = some (.int .i64 (V : Int)) ∧ w'.cell? ⟨X, 0, none⟩ = some (.int .i64 (V : Int)) ∧ w'.cell? ⟨X, 1, none⟩ = some (.slice da cn dc) ∧ w'.cell? ⟨X, 2, none⟩ = some (.slice fa fn fc) ∧ w'.cell? ⟨K, 0, none⟩ = some (.slice wa wn wcc) ∧ w'.cell? ⟨K, 1, none⟩ = some (.slice wfa wm wfc) ∧ Below w6.heap.size w6 w')
        (first | exact keepD.step (by assumption) (by assumption) | exact HK9.out | exact HK9.out.step ((Below.refl _ _).drew) | exact keepD.step (by assumption) ((Below.refl _ _).alloc (Nat.le_refl _) _))
        ((first
          | (go_at_call 12; (with_reducible refine (HS1.out _ (keepD.bel (by assumption))).mono ?_); rintro e w7 ⟨rfl, hb7⟩)
          | (go_at_call 12; (with_reducible refine (HS2.out _ _ _ (by first | exact heap_alloc2_new _ _ _ | exact (Below.heap_alloc _ _ _ (by simp)).trans (heap_alloc_new _ _)) (by first | exact heap_alloc2_new _ _ _ | exact (Below.heap_alloc _ _ _ (by simp)).trans (heap_alloc_new _ _)) (keepD.bel (by assumption))).mono ?_); rintro e w8 ⟨rfl, hb8⟩)
          | (go_at_call 8; (with_reducible refine (lives29_any _).mono ?_); rintro e w10 ⟨rfl, hb10⟩)))
      all_goals
        have hk10 : keepD w6 W.heap.size X K V (.slice da cn dc) (.slice fa fn fc) (.slice wa wn wcc) (.slice wfa wm wfc) w10 := by assumption
        have HBE := Lib.hid (then29 HB6.out hk10.bel)
        clear hk10
        go_wp2
        go_ret
        exact ⟨rfl, HBE.out⟩
    · have hrng := mayQ_rng vars cs
      have hm12 : mayQ vars cs = 1 ∨ mayQ vars cs = 2 := by omega
      have hb4 := hb3.alloc hb3.size (.cells #[.int .i64 0, .slice none 0 0, .slice none 0 0] 29)
      have HB4 := Lib.hid (then29 HB2.out hb4)
      have HC4 := Lib.hid (HC2.out.below29 hb4 (Nat.le_refl _))
      have hR4 := (hb4.block _ hz2).trans HR2.out
      have hT4 := heap_alloc_new w3 (.cells #[.int .i64 0, .slice none 0 0, .slice none 0 0] 29)
      have hx4 : w3.heap.size < (w3.alloc (.cells #[.int .i64 0, .slice none 0 0, .slice none 0 0] 29)).heap.size := by simp
      have hmy := fun w' (hc : Reads2 w' (.slice ca cs.length cp) cs) => RMay29_any (vars := vars) (.slice ca cs.length cp) w' hv hc
      generalize mayQ vars cs = m at hm12 hmy ⊢
      clear hb3 hc0 hc1 HB2 HC2 HR2 hz2 hb4 hm hrng
      go_upto_region 4 with fail
      generalize w3.alloc (.cells #[.int .i64 0, .slice none 0 0, .slice none 0 0] 29) = w4 at HB4 HC4 hR4 hT4 hx4 ⊢
      generalize w3.heap.size = X at hT4 hx4 ⊢
      have hc0 : w4.cell? ⟨W.heap.size, 0, none⟩ = some (.int .i64 vars) := cell_of_row _ _ 0 _ _ (0, 0) hR4
      have hc1 : w4.cell? ⟨W.heap.size, 1, none⟩ = some (.slice ca cs.length cp) := cell_of_row _ _ 1 _ _ (0, 0) hR4
      have HT4 := Lib.hid hT4
      have HMY := Lib.hid (hmy w4 HC4.out)
      clear hR4 hT4 hmy
      go_wp2_with fail
      refine HMY.out.mono ?_
      rintro e w5 ⟨rfl, hb5⟩
      clear HMY hc0 hc1
      have HB5 := Lib.hid (then29 HB4.out hb5)
      have hT5 := (hb5.block _ hx4).trans HT4.out
      have t0 : w5.cell? ⟨X, 0, none⟩ = some (.int .i64 0) := cell_of_row _ _ 0 _ _ (0, 0) hT5
      have t1 : w5.cell? ⟨X, 1, none⟩ = some (.slice none 0 0) := cell_of_row _ _ 1 _ _ (0, 0) hT5
      have t2 : w5.cell? ⟨X, 2, none⟩ = some (.slice none 0 0) := cell_of_row _ _ 2 _ _ (0, 0) hT5
      clear hb5 hT5 HB4 HC4 HT4
      rcases hm12 with rfl | rfl
      · have i1 : ∀ w, (Instr.index 34 (.agg #[.int .i64 0, .int .i64 1, .int .i64 2]) (.int .i64 1)).run Try.prog w = .ok (.int .i64 1) w := fun _ => by kernel_rfl
        go_wp2_with fail
        refine (lives29_any _).mono ?_
        rintro e wE ⟨rfl, hbE⟩
        go_wp2
        go_ret
        exact ⟨rfl, then29 (HB5.out) hbE⟩
      · have i2 : ∀ w, (Instr.index 34 (.agg #[.int .i64 0, .int .i64 1, .int .i64 2]) (.int .i64 2)).run Try.prog w = .ok (.int .i64 2) w := fun _ => by kernel_rfl
        go_wp2_with fail
        refine (lives29_any _).mono ?_
        rintro e wE ⟨rfl, hbE⟩
        go_wp2
        go_ret
        exact ⟨rfl, then29 (HB5.out) hbE⟩

set_option maxRecDepth 100000 in
theorem lifted_TrimTrims (os : Os) (started : os.Started) (H : Type) (enc : TypeId × Value → H) :
    ReturnsInHanded {} Try.checked os 3 .any (Rows.trimTrimsSpec.pre6 enc Try.prog Try.f3 Rows.trimTrimsRow.domain false) (Rows.trimTrimsSpec.post enc Try.prog Try.f3 false true false false) := by
  refine returnsInHanded_of_change (C := Try.checked) own_knob started (by kernel_rfl) Try.func3
    (ChangeSpec.witness6 (enc := enc) (C := Try.checked) false ⟨#[], #[.agg #[.int .i64 0, .slice none 0 0]], []⟩ 8 (by kernel_rfl) (by kernel_rfl) (by kernel_rfl) (by kernel_rfl)) ?_
  intro W base args ds gs before hval0 hW _ _
  have hval : ∀ (j : Nat) t v, Try.f3.params[j]? = some t → args[j]? = some v → Value.okWide Try.prog W .any base t v := hval0
  have hW' := hW
  obtain ⟨p, q, hA0, hV, rfl, _, _⟩ := hW
  have hA : DataW.TrodAll enc Try.prog W 0 (fun _ => true) true Try.f3.params.toList args.toList ds p := hA0
  rw [Try.params3] at hA hval
  obtain ⟨v0, vs0, d0, ds0, p0, q0, hargs, rfl, rfl, h0, r0⟩ := trodAll_cons hA
  obtain ⟨rfl, rfl, rfl⟩ := trodAll_nil r0
  obtain rfl : args = #[v0] := by cases args; simp_all
  obtain ⟨rfl, rfl⟩ := trodVars_none hV
  obtain ⟨n0, cv0, l0, rfl, b0, g0, f0⟩ := open_question (hval 0 24 v0 rfl rfl) h0
  clear hA0 hval0
  refine (walk_TrimTrims n0 b0 cv0 l0 f0 W g0).mono fun e W' ⟨he, hb⟩ => ?_
  subst he
  exact ⟨_, rfl, law_post (by kernel_rfl) rfl rfl rfl hW' hb⟩

/-- the statement of TrimTrims -/
theorem proved_TrimTrims : Rows.TrimTrimsSaid :=
  OpenClaim.holds_of_wide 3 Try.f3 rfl rfl rfl rfl rfl rfl rfl ⟨rfl, rfl, rfl, rfl, rfl⟩ rfl rfl rfl rfl rfl (by kernel_rfl) Try.func3 (by kernel_rfl)
    (of_decide_eq_true (by kernel_rfl)) (by unfold Func.isWrapper; first | (rw [if_pos (by decide +kernel)]; kernel_rfl) | (rw [if_neg (by decide +kernel)]; exact ⟨rfl, rfl⟩))
    (fun os started H enc _ => lifted_TrimTrims os started H enc)

end Go.Proofs.Ytlcbfahaapodmaa
