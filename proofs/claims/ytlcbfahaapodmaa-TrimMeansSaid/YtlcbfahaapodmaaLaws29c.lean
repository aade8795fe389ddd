/-
  Layer 29: the statement TrimMeans: there are truths that make a question true just if there are such that make what is left true; these, grown, make the question true. For every input. Own work.
-/
import Derived.Test.YtlcbfahaapodmaaSm29
import Derived.Deep.RegionHeld3
import Derived.Deep.Cut
import Derived.Deep.CutRange
namespace Go.Proofs.Ytlcbfahaapodmaa
set_option linter.unusedVariables false
set_option linter.unusedSimpArgs false
open Go.ChangeShapes Go.WideShapes Go.ChangeAt Go.RowKit

theorem reads_cap {α : Type} {w : World} {f : α → Value} {v : Value} {l : List α} (h : Reads w f v l) : ∃ a c, v = .slice a l.length c ∧ l.length ≤ c ∧ c ≤ 9223372036854775807 ∧ (l ≠ [] → ∃ b, a = some b) := by
  rcases h with ⟨rfl, rfl⟩ | ⟨a, cap, rfl, h1, h2, h3⟩
  · exact ⟨none, 0, rfl, Nat.le_refl _, by omega, fun h => absurd rfl h⟩
  · exact ⟨some a, cap, rfl, h1, h2, fun _ => ⟨a, rfl⟩⟩
theorem reads_take {α : Type} {w : World} {f : α → Value} {a : Option Addr} {n c k : Nat} {l : List α} (h : Reads w f (.slice a n c) l) (hk : k ≤ l.length) : Reads w f (.slice a k c) (l.take k) := by
  rcases h with ⟨h, rfl⟩ | ⟨x, cap, h, h1, h2, h3⟩
  · cases h
    have : k = 0 := by simpa using hk
    subst this
    exact .inl ⟨rfl, rfl⟩
  · cases h
    refine .inr ⟨x, c, by rw [List.length_take, Nat.min_eq_left hk], by rw [List.length_take]; omega, h2, fun j y hy => ?_⟩
    have hl := (List.getElem?_eq_some_iff.1 hy).1
    rw [List.length_take] at hl
    rw [List.getElem?_take, if_pos (by omega)] at hy
    exact h3 j y hy
/-- what regions 4 and 9 load -/
abbrev keepM (w5 : World) (B X V : Nat) (c d f : Value) (w' : World) : Prop := w'.cell? ⟨B, 0, none⟩ = some (.int .i64 (V : Int)) ∧ w'.cell? ⟨B, 1, none⟩ = some c ∧ w'.cell? ⟨X, 0, none⟩ = some (.int .i64 (V : Int)) ∧ w'.cell? ⟨X, 1, none⟩ = some d ∧ w'.cell? ⟨X, 2, none⟩ = some f ∧ Below w5.heap.size w5 w'
theorem keepM.step {w5 w2 w3 : World} {B X V : Nat} {c d f : Value} (h : keepM w5 B X V c d f w2) (hb : Below w2.heap.size w2 w3) : keepM w5 B X V c d f w3 := by
  obtain ⟨h0, h1, h2, h3, h4, h5⟩ := h
  exact ⟨(hb.cell (World.block_lt_of_cell? w2 _ h0)).trans h0, (hb.cell (World.block_lt_of_cell? w2 _ h1)).trans h1, (hb.cell (World.block_lt_of_cell? w2 _ h2)).trans h2, (hb.cell (World.block_lt_of_cell? w2 _ h3)).trans h3, (hb.cell (World.block_lt_of_cell? w2 _ h4)).trans h4, h5.trans (hb.mono h5.size)⟩
theorem keepM.bel {w5 w2 : World} {B X V : Nat} {c d f : Value} (h : keepM w5 B X V c d f w2) : Below w5.heap.size w5 w2 := h.2.2.2.2.2
/-- Grow with a reading of what it gives -/
theorem GrowR29 {w : World} (V : Nat) (cv fv tv : Value) (fx : List Int) (ts : List Bool) (hv : V ≤ 1000) (hf : Reads w iV fv fx) (ht : Reads w bV tv ts) (hfl : fx.length ≤ 1000) (hfn : ∀ n ∈ fx, -1000 ≤ n ∧ n ≤ 1000) (htl : ts.length ≤ 1000) :
    Calls Try.prog 13 #[.agg #[.int .i64 (V : Int), cv, fv], tv] w fun e w' => Below w.heap.size w w' ∧ ∃ a n c, e = .returned (.slice a n c) ∧ Reads w' bV (.slice a n c) (growM V ts fx) := by
  refine (Grow29_any (V : Int) cv fv tv fx ts (by omega) hf ht hfl hfn htl).mono fun e w' ⟨hb, hr⟩ => ⟨hb, ?_⟩
  rcases hr with ⟨h0, rfl⟩ | ⟨h0, X, rfl, hr⟩
  · have : growM V ts fx = [] := List.eq_nil_of_length_eq_zero (by rw [grow_len]; omega)
    rw [this]
    exact ⟨none, 0, 0, rfl, .inl ⟨rfl, rfl⟩⟩
  · have e1 : (V : Int).toNat = V := by simp
    rw [e1] at hr ⊢
    have hl := grow_len V ts fx
    unfold RowT at hr
    have h2 := (RdO.of hr).reads
    rw [hl] at h2
    exact ⟨_, _, _, rfl, h2⟩
set_option maxRecDepth 100000 in
set_option maxHeartbeats 4000000 in
theorem walk_TrimMeans (vars : Int) (hv : -9223372036854775808 ≤ vars ∧ vars ≤ 9223372036854775807) (cv : Value) (cs : List (List Int)) (hf : Fit64 cs) (tv : Value) (ts : List Bool) (W : World) (g0 : Reads2 W cv cs) (g1 : Reads W bV tv ts) :
    Calls Try.prog 5 #[.agg #[.int .i64 vars, cv], tv] W fun e W' => e = .returned (.bool true) ∧ Below W.heap.size W W' := by
  obtain ⟨ca, cp, rfl, hlen, hrow⟩ := g0
  obtain ⟨ta, tc, rfl, htc, htc2, hta⟩ := reads_cap g1
  have hb : Below W.heap.size W (W.alloc (.cells #[.int .i64 vars, .slice ca cs.length cp] 24)) := (Below.refl _ _).alloc (Nat.le_refl _) _
  have HC := Lib.hid ((show Reads2 W (.slice ca cs.length cp) cs from ⟨ca, cp, rfl, hlen, hrow⟩).below29 hb (Nat.le_refl _))
  have HG := Lib.hid (g1.below hb (Nat.le_refl _))
  have HB := Lib.hid hb
  have hR := heap_alloc_new W (.cells #[.int .i64 vars, .slice ca cs.length cp] 24)
  have hz : W.heap.size < (W.alloc (.cells #[.int .i64 vars, .slice ca cs.length cp] 24)).heap.size := by simp
  have HTA := Lib.hid hta
  have htcI : (ts.length : Int) ≤ (tc : Int) := by omega
  have htcJ : (tc : Int) ≤ 9223372036854775807 := by omega
  clear hlen hrow hb hf g1 hta
  go_enter Try.func5, Try.ntmps5
  go_upto_region 1 with fail
  generalize W.alloc (.cells #[.int .i64 vars, .slice ca cs.length cp] 24) = W1 at HC HG HB hR hz ⊢
  have hc0 : W1.cell? ⟨W.heap.size, 0, none⟩ = some (.int .i64 vars) := cell_of_row _ _ 0 _ _ (0, 0) hR
  have hc1 : W1.cell? ⟨W.heap.size, 1, none⟩ = some (.slice ca cs.length cp) := cell_of_row _ _ 1 _ _ (0, 0) hR
  have HR := Lib.hid hR
  have HLT := Lib.hid (light29_any (vars := vars) (.slice ca cs.length cp) W1 HC.out)
  clear hR
  go_wp2_with fail
  refine HLT.out.mono ?_
  rintro e w2 ⟨rfl, hb2⟩
  clear HLT
  have HB2 := Lib.hid (then29 HB.out hb2)
  have HC2 := Lib.hid (HC.out.below29 hb2 (Nat.le_refl _))
  have HG2 := Lib.hid (HG.out.below hb2 (Nat.le_refl _))
  have HR2 := Lib.hid ((hb2.block _ hz).trans HR.out)
  have hz2 : W.heap.size < w2.heap.size := Nat.lt_of_lt_of_le hz hb2.size
  clear hb2 hc0 hc1 HB HC HR hz HG
  have hc0 : w2.cell? ⟨W.heap.size, 0, none⟩ = some (.int .i64 vars) := cell_of_row _ _ 0 _ _ (0, 0) HR2.out
  have hc1 : w2.cell? ⟨W.heap.size, 1, none⟩ = some (.slice ca cs.length cp) := cell_of_row _ _ 1 _ _ (0, 0) HR2.out
  cases hL : lightQ vars cs with
  | false =>
    go_wp2_with fail
    refine (lives29_any _).mono ?_
    rintro e wE ⟨rfl, hbE⟩
    go_wp2
    go_ret
    exact ⟨rfl, then29 (HB2.out) hbE⟩
  | true =>
    obtain ⟨hv30, hl60, hl20⟩ := lightQ_of hL
    have HL20 := Lib.hid hl20
    clear hL hl20
    by_cases h9 : 9 < vars
    · go_wp2_with fail
      refine (lives29_any _).mono ?_
      rintro e wE ⟨rfl, hbE⟩
      go_wp2
      go_ret
      exact ⟨rfl, then29 (HB2.out) hbE⟩
    have h9b : decide (9 < vars) = false := decide_eq_false h9
    have HMY := Lib.hid (RMay29_any (vars := vars) (.slice ca cs.length cp) w2 hv HC2.out)
    go_wp2_with fail
    refine HMY.out.mono ?_
    rintro e w3 ⟨rfl, hb3⟩
    clear HMY
    have HB3 := Lib.hid (then29 HB2.out hb3)
    have HC3 := Lib.hid (HC2.out.below29 hb3 (Nat.le_refl _))
    have HG3 := Lib.hid (HG2.out.below hb3 (Nat.le_refl _))
    have HR3 := Lib.hid ((hb3.block _ hz2).trans HR2.out)
    have hz3 : W.heap.size < w3.heap.size := Nat.lt_of_lt_of_le hz2 hb3.size
    clear hb3 hc0 hc1 HB2 HC2 HR2 hz2 HG2
    have hc0 : w3.cell? ⟨W.heap.size, 0, none⟩ = some (.int .i64 vars) := cell_of_row _ _ 0 _ _ (0, 0) HR3.out
    have hc1 : w3.cell? ⟨W.heap.size, 1, none⟩ = some (.slice ca cs.length cp) := cell_of_row _ _ 1 _ _ (0, 0) HR3.out
    by_cases hm : mayQ vars cs = 0
    · have hmb : (mayQ vars cs == 0) = true := by rw [hm]; rfl
      by_cases h100 : 100 < ts.length
      · have h100I : (100 : Int) < (ts.length : Int) := by omega
        have h100b : decide ((100 : Int) < (ts.length : Int)) = true := decide_eq_true h100I
        go_wp2_with fail
        refine (lives29_any _).mono ?_
        rintro e wE ⟨rfl, hbE⟩
        go_wp2
        go_ret
        exact ⟨rfl, then29 (HB3.out) hbE⟩
      have h100I : ¬ (100 : Int) < (ts.length : Int) := by omega
      have h100b : decide ((100 : Int) < (ts.length : Int)) = false := decide_eq_false h100I
      obtain ⟨b1, b2, _, _, b5⟩ := mayQ_zero hm
      obtain ⟨V, rfl⟩ : ∃ V : Nat, vars = (V : Int) := ⟨vars.toNat, by omega⟩
      have HNZ := Lib.hid (show NZ cs from fun c hc n hn => (b5 c hc n hn).2.2)
      have HRG := Lib.hid (show ∀ c ∈ cs, ∀ n ∈ c, n.natAbs ≤ V from fun c hc n hn => by have := b5 c hc n hn; omega)
      have HM := Lib.hid hm
      have HT := Lib.hid (Trim29_any (vars := V) (.slice ca cs.length cp) w3 hv HC3.out (Nat.le_trans (light_size hl60 HL20.out) (by omega)))
      clear hm b5
      go_wp2_with fail
      refine HT.out.mono ?_
      rintro e w4 ⟨hb4, hr⟩
      clear HT
      obtain ⟨_, dv, fv, rfl, _, hu⟩ := hr.resolve_right (fun h => h.1 HM.out)
      have eV : (V : Int).toNat = V := by simp
      rw [eV] at hu
      have HSS := Lib.hid (some_same HNZ.out HRG.out)
      have HGH := Lib.hid (fun us h => grow_hold (ts := us) HNZ.out HRG.out h)
      have HFX := Lib.hid (trim_fx HNZ.out HRG.out)
      generalize (trimM V cs).C = ds at hu HSS HGH
      generalize (trimM V cs).fx = fx at hu HFX HGH
      obtain ⟨⟨da, dc, hdd, hdl, _⟩, hff⟩ := hu w4 (UpW.refl _ _)
      obtain ⟨fa, fc, hff, _⟩ := reads_shape hff
      subst hdd hff
      have h5 := upw_alloc w3.heap.size w4 (.cells #[.int .i64 (V : Int), .slice da ds.length dc, .slice fa fx.length fc] 29)
      have HD5 := Lib.hid (hu _ h5).1
      have HF5 := Lib.hid (hu _ h5).2
      have hb5 := hb4.alloc hb4.size (.cells #[.int .i64 (V : Int), .slice da ds.length dc, .slice fa fx.length fc] 29)
      have HB5 := Lib.hid (then29 HB3.out hb5)
      have HC5 := Lib.hid (HC3.out.below29 hb5 (Nat.le_refl _))
      have HG5 := Lib.hid (HG3.out.below hb5 (Nat.le_refl _))
      have hR5 := (hb5.block _ hz3).trans HR3.out
      have hT5 := heap_alloc_new w4 (.cells #[.int .i64 (V : Int), .slice da ds.length dc, .slice fa fx.length fc] 29)
      have hz5 : W.heap.size < (w4.alloc (.cells #[.int .i64 (V : Int), .slice da ds.length dc, .slice fa fx.length fc] 29)).heap.size := Nat.lt_of_lt_of_le hz3 hb5.size
      clear hb4 hc0 hc1 HB3 HC3 HR3 hz3 hu HG3 h5 hb5 hr eV hdl
      go_upto_region 4 with fail
      have hx5 : w4.heap.size < (w4.alloc (.cells #[.int .i64 (V : Int), .slice da ds.length dc, .slice fa fx.length fc] 29)).heap.size := by simp
      generalize w4.alloc (.cells #[.int .i64 (V : Int), .slice da ds.length dc, .slice fa fx.length fc] 29) = w5 at HD5 HF5 HB5 HC5 HG5 hR5 hT5 hz5 hx5 ⊢
      generalize w4.heap.size = X at hT5 hx5 ⊢
      have HK := Lib.hid (show keepM w5 W.heap.size X V (.slice ca cs.length cp) (.slice da ds.length dc) (.slice fa fx.length fc) w5 from ⟨cell_of_row _ _ 0 _ _ (0, 0) hR5, cell_of_row _ _ 1 _ _ (0, 0) hR5, cell_of_row _ _ 0 _ _ (0, 0) hT5, cell_of_row _ _ 1 _ _ (0, 0) hT5, cell_of_row _ _ 2 _ _ (0, 0) hT5, Below.refl _ _⟩)
      have HSA := Lib.hid (fun w' (hb : Below w5.heap.size w5 w') => Some29_any (.slice ca cs.length cp) cs V (by omega) w' (HC5.out.below29 hb (Nat.le_refl _)))
      have HSB := Lib.hid (fun w' (hb : Below w5.heap.size w5 w') => Some29_any (.slice da ds.length dc) ds V (by omega) w' (HD5.out.below29 hb (Nat.le_refl _)))
      have hdec : decide (∃ m, m < 2 ^ V ∧ ∀ c ∈ cs, anyT (bitsN V m) c = true) = decide (∃ m, m < 2 ^ V ∧ ∀ c ∈ ds, anyT (bitsN V m) c = true) := decide_eq_decide.2 HSS.out
      rw [hdec] at HSA
      generalize decide (∃ m, m < 2 ^ V ∧ ∀ c ∈ ds, anyT (bitsN V m) c = true) = sb at HSA HSB
      clear hdec hR5 hT5
      obtain ⟨x0, x1, x2, x3, x4, _⟩ := HK.out
      go_region_held3 (fun w' => w'.cell? ⟨W.heap.size, 0, none⟩ = some (.int .i64 (V : Int)) ∧ w'.cell? ⟨W.heap.size, 1, none⟩ = some (.slice ca cs.length cp) ∧ w'.cell? ⟨X, 0, none⟩ = some (.int .i64 (V : Int)) ∧ w'.cell? ⟨X, 1, none⟩ = some (.slice da ds.length dc) ∧ w'.cell? ⟨X, 2, none⟩ = some (.slice fa fx.length fc) ∧ Below w5.heap.size w5 w')
        (first | exact keepM.step (by assumption) (by assumption) | exact HK.out | exact HK.out.step ((Below.refl _ _).drew))
        ((go_at_call 14; first | (with_reducible refine (HSA.out _ (keepM.bel (by assumption))).mono ?_; rintro e w1 ⟨rfl, hb1⟩) | (with_reducible refine (HSB.out _ (keepM.bel (by assumption))).mono ?_; rintro e w1 ⟨rfl, hb1⟩)))
      have hk6 : keepM w5 W.heap.size X V (.slice ca cs.length cp) (.slice da ds.length dc) (.slice fa fx.length fc) w1 := by assumption
      have HK6 := Lib.hid hk6
      have HB6 := Lib.hid (then29 HB5.out hk6.bel)
      have HG6 := Lib.hid (HG5.out.below hk6.bel (Nat.le_refl _))
      have HD6 := Lib.hid (HD5.out.below29 hk6.bel (Nat.le_refl _))
      have HC6 := Lib.hid (HC5.out.below29 hk6.bel (Nat.le_refl _))
      have HF6 := Lib.hid (HF5.out.below hk6.bel (Nat.le_refl _))
      clear HSA HSB HK HB5 HG5 HD5 HC5 HF5 x0 x1 x2 x3 x4 hk6
      obtain ⟨x0, x1, x2, x3, x4, _⟩ := HK6.out
      go_upto_region 6 with fail
      go_cut [7] from 48 to 55 (fun p wx => wx = w1 ∧ p = .slice ta (min ts.length V) tc)
      case first =>
        clear HK6 HB6 HG6 HD6 HC6 HF6 HSS HFX HGH HNZ HRG HM
        rcases Nat.eq_zero_or_pos V with rfl | hV0
        · have hx0 : w1.cell? ⟨W.heap.size, 0, none⟩ = some (.int .i64 0) := x0
          clear x0
          have hm0 : min ts.length 0 = 0 := by omega
          have HM0 := Lib.hid hm0
          rcases Nat.eq_zero_or_pos ts.length with h | h
          · have hI : (ts.length : Int) = 0 := by omega
            go_wp2_with fail
            go_meet
            exact ⟨rfl, by rw [HM0.out]⟩
          · have hI : (0 : Int) < (ts.length : Int) := by omega
            go_wp2_with fail
            go_meet
            exact ⟨rfl, by rw [HM0.out]⟩
        · have hV1 : (0 : Int) < (V : Int) := by omega
          have hV2 : ¬ (V : Int) < 0 := by omega
          rcases Nat.lt_trichotomy ts.length V with h | h | h
          · have hI : (ts.length : Int) < (V : Int) := by omega
            have hm0 : min ts.length V = ts.length := by omega
            have HM0 := Lib.hid hm0
            clear hm0
            go_wp2_with fail
            go_meet
            exact ⟨rfl, by rw [HM0.out]⟩
          · subst h
            have hm0 : min ts.length ts.length = ts.length := by omega
            have HM0 := Lib.hid hm0
            clear hm0
            go_wp2_with fail
            go_meet
            exact ⟨rfl, by rw [HM0.out]⟩
          · have hI : (V : Int) < (ts.length : Int) := by omega
            have hm0 : min ts.length V = V := by omega
            have HM0 := Lib.hid hm0
            clear hm0
            go_wp2_with fail
            go_meet
            exact ⟨rfl, by rw [HM0.out]⟩
      case rest =>
        obtain ⟨hx, rfl⟩ := hcut
        obtain rfl : w1 = _ := hx.symm
        have HOW := Lib.hid (reads_take HG6.out (Nat.min_le_left ts.length V))
        have hol : min ts.length V ≤ 100 := by omega
        generalize hown : ts.take (min ts.length V) = own at HOW
        have howl : own.length = min ts.length V := by rw [← hown, List.length_take]; omega
        generalize min ts.length V = ol at HOW howl hol ⊢
        clear hown
        have HHO := Lib.hid (RHolds_any (.slice da ds.length dc) (.slice ta ol tc) ds own w1 HD6.out HOW.out)
        by_cases hh : holdsI ds own = -1
        · have hhb : (holdsI ds own == -1) = true := by rw [hh]; rfl
          have HGC := Lib.hid (HGH.out own ((holdsI_one ds own).1 hh))
          go_wp2_with fail
          refine HHO.out.mono ?_
          rintro e w7 ⟨rfl, hw7⟩
          obtain rfl : w1 = w7 := hw7.symm
          clear HHO
          have HGW := Lib.hid (fun w' (hr : Below w1.heap.size w1 w') => GrowR29 V (.slice da ds.length dc) (.slice fa fx.length fc) (.slice ta ol tc) fx own (w := w') (by omega) (HF6.out.below hr (Nat.le_refl _)) (HOW.out.below hr (Nat.le_refl _)) (Nat.le_trans HFX.out.1 (by omega)) (fun n hn => by have := HFX.out.2 n hn; omega) (by omega))
          have HHC := Lib.hid (fun w' a n c (hr : Below w1.heap.size w1 w') (hg : Reads w' bV (.slice a n c) (growM V own fx)) => (RHolds_any (.slice ca cs.length cp) (.slice a n c) cs (growM V own fx) w' (HC6.out.below29 hr (Nat.le_refl _)) hg).mono fun e w2 (h : e = .returned (.int .i64 (holdsI cs (growM V own fx))) ∧ w2 = w') => show e = .returned (.int .i64 (-1)) ∧ Below w'.heap.size w' w2 from by
            obtain ⟨rfl, rfl⟩ := h
            rw [(holdsI_one cs (growM V own fx)).2 HGC.out]
            exact ⟨rfl, Below.refl _ _⟩)
          have HK9 := Lib.hid (show keepM w1 W.heap.size X V (.slice ca cs.length cp) (.slice da ds.length dc) (.slice fa fx.length fc) w1 from ⟨x0, x1, x2, x3, x4, Below.refl _ _⟩)
          clear HK6
          go_wp2_with fail
          go_region_held3 (fun w' => w'.cell? ⟨W.heap.size, 0, none⟩ = some (.int .i64 (V : Int)) ∧ w'.cell? ⟨W.heap.size, 1, none⟩ = some (.slice ca cs.length cp) ∧ w'.cell? ⟨X, 0, none⟩ = some (.int .i64 (V : Int)) ∧ w'.cell? ⟨X, 1, none⟩ = some (.slice da ds.length dc) ∧ w'.cell? ⟨X, 2, none⟩ = some (.slice fa fx.length fc) ∧ Below w1.heap.size w1 w')
            (first | exact keepM.step (by assumption) (by assumption) | exact HK9.out | exact HK9.out.step ((Below.refl _ _).drew))
            ((first
              | (go_at_call 13; (with_reducible refine (HGW.out _ (keepM.bel (by assumption))).mono ?_); rintro e w8 ⟨hb8, ga, gn, gc, rfl, hg8⟩)
              | (go_at_call 15; (with_reducible refine (HHC.out _ _ _ _ (keepM.bel (by assumption)) (by assumption)).mono ?_); rintro e w9 ⟨rfl, hb9⟩)
              | (go_at_call 8; (with_reducible refine (lives29_any _).mono ?_); rintro e w10 ⟨rfl, hb10⟩)))
          have hk10 : keepM w1 W.heap.size X V (.slice ca cs.length cp) (.slice da ds.length dc) (.slice fa fx.length fc) w10 := by assumption
          have HBE := Lib.hid (then29 HB6.out hk10.bel)
          clear hk10
          go_wp2
          go_ret
          exact ⟨rfl, HBE.out⟩
        · have hhb : (holdsI ds own == -1) = false := by simpa using hh
          go_wp2_with fail
          refine HHO.out.mono ?_
          rintro e w7 ⟨rfl, hw7⟩
          obtain rfl : w1 = w7 := hw7.symm
          clear HHO
          go_wp2_with fail
          refine (lives29_any _).mono ?_
          rintro e wE ⟨rfl, hbE⟩
          go_wp2
          go_ret
          exact ⟨rfl, then29 (HB6.out) hbE⟩
    · have hmb : (mayQ vars cs == 0) = false := by simpa using hm
      go_wp2_with fail
      refine (lives29_any _).mono ?_
      rintro e wE ⟨rfl, hbE⟩
      go_wp2
      go_ret
      exact ⟨rfl, then29 (HB3.out) hbE⟩

set_option maxRecDepth 100000 in
theorem lifted_TrimMeans (os : Os) (started : os.Started) (H : Type) (enc : TypeId × Value → H) :
    ReturnsInHanded {} Try.checked os 5 .any (Rows.trimMeansSpec.pre6 enc Try.prog Try.f5 Rows.trimMeansRow.domain false) (Rows.trimMeansSpec.post enc Try.prog Try.f5 false true false false) := by
  refine returnsInHanded_of_change (C := Try.checked) own_knob started (by kernel_rfl) Try.func5
    (ChangeSpec.witness6 (enc := enc) (C := Try.checked) false ⟨#[], #[.agg #[.int .i64 0, .slice none 0 0], .slice none 0 0], []⟩ 8 (by kernel_rfl) (by kernel_rfl) (by kernel_rfl) (by kernel_rfl)) ?_
  intro W base args ds gs before hval0 hW _ _
  have hval : ∀ (j : Nat) t v, Try.f5.params[j]? = some t → args[j]? = some v → Value.okWide Try.prog W .any base t v := hval0
  have hW' := hW
  obtain ⟨p, q, hA0, hV, rfl, _, _⟩ := hW
  have hA : DataW.TrodAll enc Try.prog W 0 (fun _ => true) true Try.f5.params.toList args.toList ds p := hA0
  rw [Try.params5] at hA hval
  obtain ⟨v0, vs0, d0, ds0, p0, q0, hargs, rfl, rfl, h0, r0⟩ := trodAll_cons hA
  obtain ⟨v1, vs1, d1, ds1, p1, q1, rfl, rfl, rfl, h1, r1⟩ := trodAll_cons r0
  obtain ⟨rfl, rfl, rfl⟩ := trodAll_nil r1
  obtain rfl : args = #[v0, v1] := by cases args; simp_all
  obtain ⟨rfl, rfl⟩ := trodVars_none hV
  obtain ⟨n0, cv0, l0, rfl, b0, g0, f0⟩ := open_question (hval 0 24 v0 rfl rfl) h0
  obtain ⟨l1, g1⟩ := open_reads_bools (hval 1 40 v1 rfl rfl) h1
  clear hA0 hval0
  refine (walk_TrimMeans n0 b0 cv0 l0 f0 v1 l1 W g0 g1).mono fun e W' ⟨he, hb⟩ => ?_
  subst he
  exact ⟨_, rfl, law_post (by kernel_rfl) rfl rfl rfl hW' hb⟩

/-- the statement of TrimMeans -/
theorem proved_TrimMeans : Rows.TrimMeansSaid :=
  OpenClaim.holds_of_wide 5 Try.f5 rfl rfl rfl rfl rfl rfl rfl ⟨rfl, rfl, rfl, rfl, rfl⟩ rfl rfl rfl rfl rfl (by kernel_rfl) Try.func5 (by kernel_rfl)
    (of_decide_eq_true (by kernel_rfl)) (by unfold Func.isWrapper; first | (rw [if_pos (by decide +kernel)]; kernel_rfl) | (rw [if_neg (by decide +kernel)]; exact ⟨rfl, rfl⟩))
    (fun os started H enc _ => lifted_TrimMeans os started H enc)

end Go.Proofs.Ytlcbfahaapodmaa
