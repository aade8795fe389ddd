/-
  Layer 29: the statement TrimGrows: what any truths are, with any literals fixed. For every input. Own work.
-/
import Derived.Test.YtlcbfahaapodmaaOp29
import Derived.Test.YtlcbfahaapodmaaGr29
namespace Go.Proofs.Ytlcbfahaapodmaa
set_option linter.unusedVariables false
set_option linter.unusedSimpArgs false
open Go.ChangeShapes Go.WideShapes Go.ChangeAt Go.RowKit

/-- what a variable's truth is to be -/
def wantM (ts : List Bool) (fx : List Int) (i : Nat) : Bool := fx.foldl (fun b n => if n = (i : Int) + 1 ∨ n = -(i : Int) - 1 then decide (0 < n) else b) (ts.getD i false)
theorem want_snoc (ts : List Bool) (l : List Int) (n : Int) (i : Nat) : wantM ts (l ++ [n]) i = if n = (i : Int) + 1 ∨ n = -(i : Int) - 1 then decide (0 < n) else wantM ts l i := by
  unfold wantM; rw [List.foldl_append]; rfl
theorem grow_at (V : Nat) (ts : List Bool) (fx : List Int) (i : Nat) (hi : i < V) : (growM V ts fx)[i]? = some (wantM ts fx i) := by
  induction fx using snoc_ind with
  | h0 =>
    unfold growM wantM
    simp only [List.foldl_nil]
    rw [List.getElem?_append]
    by_cases h : i < ts.length
    · rw [if_pos (by rw [List.length_take]; omega), List.getElem?_take, if_pos hi]
      simp [List.getD, List.getElem?_eq_getElem h]
    · have h1 : ts[i]? = none := by rw [List.getElem?_eq_none_iff]; omega
      rw [if_neg (by rw [List.length_take]; omega), List.getElem?_replicate, if_pos (by rw [List.length_take]; omega)]
      simp [List.getD, h1]
  | h1 l n ih =>
    rw [grow_snoc, want_snoc]
    unfold setT
    have hl := grow_len V ts l
    by_cases h : 0 < n.natAbs ∧ n.natAbs ≤ (growM V ts l).length
    · rw [if_pos h, List.getElem?_set]
      by_cases h2 : n.natAbs - 1 = i
      · rw [if_pos h2, if_pos (by omega), if_pos (by omega)]
      · rw [if_neg h2, if_neg (by omega)]; exact ih
    · rw [if_neg h, if_neg (by omega)]; exact ih
theorem rowT_at {w : World} {B X : Nat} {bs : List Bool} (h : RowT w B X bs) {i : Nat} {b : Bool} (hb : bs[i]? = some b) : w.cell? ⟨X, i, none⟩ = some (.bool b) := by
  rcases RdO.of (e := 4) h with ⟨⟨a, h3⟩, h4⟩ | ⟨g, cap, h3, _, _, _, h5⟩
  · have : bs = [] := List.map_eq_nil_iff.1 h4
    subst this
    simp at hb
  · injection h3 with h3 _ _
    cases h3
    exact (h5 i (bV b) (by rw [List.getElem?_map, hb]; rfl)).1
set_option maxRecDepth 100000 in
set_option maxHeartbeats 4000000 in
theorem walk_TrimGrows (vars : Int) (hv : -9223372036854775808 ≤ vars ∧ vars ≤ 9223372036854775807) (cv fv : Value) (fx : List Int) (hf : ∀ n ∈ fx, -9223372036854775808 ≤ n ∧ n ≤ 9223372036854775807) (tv : Value) (ts : List Bool) (W : World) (g0 : Reads W iV fv fx) (g1 : Reads W bV tv ts) :
    Calls Try.prog 4 #[.agg #[.int .i64 vars, cv, fv], tv] W fun e W' => e = .returned (.bool true) ∧ Below W.heap.size W W' := by
  obtain ⟨fa, fc, rfl, hfl, _⟩ := reads_shape g0
  obtain ⟨ta, tc, rfl, htl, _⟩ := reads_shape g1
  have hflI : (fx.length : Int) ≤ 9223372036854775807 := by omega
  have htlI : (ts.length : Int) ≤ 9223372036854775807 := by omega
  have HB := Lib.hid (show Below W.heap.size W (W.alloc (.cells #[.int .i64 vars, cv, .slice fa fx.length fc] 29)) from (Below.refl _ _).alloc (Nat.le_refl _) _)
  have hR := heap_alloc_new W (.cells #[.int .i64 vars, cv, .slice fa fx.length fc] 29)
  have hz : W.heap.size < (W.alloc (.cells #[.int .i64 vars, cv, .slice fa fx.length fc] 29)).heap.size := by simp
  have HG0 := Lib.hid (g0.below HB.out (Nat.le_refl _))
  have HG1 := Lib.hid (g1.below HB.out (Nat.le_refl _))
  clear g0 g1 hfl htl
  go_enter Try.func4, Try.ntmps4
  go_upto_region 1 with fail
  generalize W.alloc (.cells #[.int .i64 vars, cv, .slice fa fx.length fc] 29) = W1 at HB hR HG0 HG1 hz ⊢
  have hc0 : W1.cell? ⟨W.heap.size, 0, none⟩ = some (.int .i64 vars) := cell_of_row _ _ 0 _ _ (0, 0) hR
  have hc1 : W1.cell? ⟨W.heap.size, 1, none⟩ = some cv := cell_of_row _ _ 1 _ _ (0, 0) hR
  have hc2 : W1.cell? ⟨W.heap.size, 2, none⟩ = some (.slice fa fx.length fc) := cell_of_row _ _ 2 _ _ (0, 0) hR
  clear hR
  by_cases h1 : 100 < vars
  · go_wp2_with fail
    refine (lives29_any _).mono ?_
    rintro e wE ⟨rfl, hbE⟩
    go_wp2
    go_ret
    exact ⟨rfl, then29 (HB.out) hbE⟩
  by_cases h2 : 100 < ts.length
  · have h2I : (100 : Int) < (ts.length : Int) := by omega
    go_wp2_with fail
    refine (lives29_any _).mono ?_
    rintro e wE ⟨rfl, hbE⟩
    go_wp2
    go_ret
    exact ⟨rfl, then29 (HB.out) hbE⟩
  have h2I : ¬ (100 : Int) < (ts.length : Int) := by omega
  by_cases h3 : 100 < fx.length
  · have h3I : (100 : Int) < (fx.length : Int) := by omega
    go_wp2_with fail
    refine (lives29_any _).mono ?_
    rintro e wE ⟨rfl, hbE⟩
    go_wp2
    go_ret
    exact ⟨rfl, then29 (HB.out) hbE⟩
  have h3I : ¬ (100 : Int) < (fx.length : Int) := by omega
  go_wp2_with fail
  go_loop [32] (fun i => ∃ k : Nat, k ≤ fx.length ∧ i = .int .i64 k ∧ ∀ n ∈ fx.take k, -1000 ≤ n ∧ n ≤ 1000) (fun i => fx.length - (intOf i).toNat)
  case atStart => exact ⟨0, by omega, rfl, by simp⟩
  case round =>
    obtain ⟨k, hk, rfl, hno⟩ := hrel
    have HNO := Lib.hid hno
    clear hno
    by_cases hlt : k < fx.length
    · obtain ⟨n, hn⟩ : ∃ n, fx[k]? = some n := ⟨_, List.getElem?_eq_getElem hlt⟩
      obtain ⟨_, _, e1, _, hel⟩ := reads_shape HG0.out
      cases e1
      obtain ⟨b, rfl, hcb⟩ := hel k n hn
      have hcb' : W1.cell? (b.add k) = some (.int .i64 n) := hcb
      have hkI : (k : Int) < (fx.length : Int) := by omega
      have HN := Lib.hid hn
      clear hel hcb hn
      by_cases q1 : 1000 < n
      · go_wp2_with fail
        refine (lives29_any _).mono ?_
        rintro e wE ⟨rfl, hbE⟩
        go_wp2
        go_ret
        exact ⟨rfl, then29 (HB.out) hbE⟩
      by_cases q2 : n < -1000
      · go_wp2_with fail
        refine (lives29_any _).mono ?_
        rintro e wE ⟨rfl, hbE⟩
        go_wp2
        go_ret
        exact ⟨rfl, then29 (HB.out) hbE⟩
      have HO := Lib.hid (show ∀ m ∈ fx.take (k + 1), -1000 ≤ m ∧ m ≤ 1000 from fun m hm => by
        rw [take_snoc _ k n HN.out] at hm
        rcases List.mem_append.1 hm with hm | hm
        · exact HNO.out m hm
        · rw [List.mem_singleton.1 hm]; omega)
      go_wp2
      go_round
      case rel => exact ⟨k + 1, by omega, by go_num, HO.out⟩
      case measure => simp [intOf]; omega
    · have hle : (fx.length : Int) ≤ k := by omega
      have HF := Lib.hid (show ∀ n ∈ fx, -1000 ≤ n ∧ n ≤ 1000 from fun n hn => HNO.out n (by rw [List.take_of_length_le (by omega)]; exact hn))
      have HGR := Lib.hid (Grow29_any vars cv (.slice fa fx.length fc) (.slice ta ts.length tc) fx ts (by omega) HG0.out HG1.out (by omega) HF.out (by omega))
      go_wp2_with fail
      refine HGR.out.mono ?_
      rintro e w3 ⟨hb3, hr⟩
      have HB3 := Lib.hid (then29 HB.out hb3)
      have hd0 : w3.cell? ⟨W.heap.size, 0, none⟩ = some (.int .i64 vars) := (hb3.cell hz).trans hc0
      have hd2 : w3.cell? ⟨W.heap.size, 2, none⟩ = some (.slice fa fx.length fc) := (hb3.cell hz).trans hc2
      have HG03 := Lib.hid (HG0.out.below hb3 (Nat.le_refl _))
      have HG13 := Lib.hid (HG1.out.below hb3 (Nat.le_refl _))
      clear hb3 hc0 hc1 hc2 HG0 HG1 HGR
      rcases hr with ⟨hv0, rfl⟩ | ⟨hv0, X, rfl, hrow⟩
      · rcases Int.lt_or_eq_of_le hv0 with hv1 | rfl
        · go_wp2_with fail
          go_loop [56] (fun q => q = .int .i64 0) (fun _ => 0)
          case atStart => rfl
          case round =>
            obtain rfl := hrel
            go_wp2_with fail
            refine (lives29_any _).mono ?_
            rintro e wE ⟨rfl, hbE⟩
            go_wp2
            go_ret
            exact ⟨rfl, then29 (HB3.out) hbE⟩
        · go_wp2_with fail
          go_loop [56] (fun q => q = .int .i64 0) (fun _ => 0)
          case atStart => rfl
          case round =>
            obtain rfl := hrel
            go_wp2_with fail
            refine (lives29_any _).mono ?_
            rintro e wE ⟨rfl, hbE⟩
            go_wp2
            go_ret
            exact ⟨rfl, then29 (HB3.out) hbE⟩
      · obtain ⟨V, hV⟩ : ∃ V : Nat, vars = (V : Int) := ⟨vars.toNat, by omega⟩
        subst hV
        have hVV : (V : Int).toNat = V := by simp
        rw [hVV] at hrow ⊢
        have HR := Lib.hid hrow
        have hV1 : (V : Int) ≤ 100 := by omega
        clear hrow hVV
        go_wp2_with fail
        go_loop [56] (fun q => ∃ i : Nat, i ≤ V ∧ q = .int .i64 i) (fun q => V - (intOf q).toNat)
        case atStart => exact ⟨0, by omega, rfl⟩
        case round =>
          obtain ⟨i, hi, rfl⟩ := hrel
          by_cases hiV : i < V
          · have hiI : (i : Int) < (V : Int) := by omega
            obtain ⟨g, hg⟩ : ∃ g, g = wantM ts fx i := ⟨_, rfl⟩
            have hgc : w3.cell? ⟨X, i, none⟩ = some (.bool g) := rowT_at HR.out (by rw [hg]; exact grow_at V ts fx i hiV)
            have HG := Lib.hid hg
            clear hg
            obtain ⟨z0, hz0⟩ : ∃ z0, z0 = ts.getD i false := ⟨_, rfl⟩
            have HZ := Lib.hid hz0
            clear hz0
            go_upto_region 15 with fail
            go_cut [10] from 61 to 70 (fun p wx => p = .bool z0 ∧ wx = w3)
            case first =>
              by_cases his : i < ts.length
              · have hisI : (i : Int) < (ts.length : Int) := by omega
                obtain ⟨_, _, e1, _, hel⟩ := reads_shape HG13.out
                cases e1
                obtain ⟨b, rfl, hcb⟩ := hel i ts[i] (List.getElem?_eq_getElem his)
                have hcb' : w3.cell? (b.add i) = some (.bool z0) := hcb.trans (by rw [HZ.out]; simp [bV, List.getD, List.getElem?_eq_getElem his])
                clear hel hcb
                go_wp2_with fail
                go_meet
                exact ⟨rfl, rfl⟩
              · have hisI : ¬ (i : Int) < (ts.length : Int) := by omega
                have hzf : z0 = false := by
                  rw [HZ.out]
                  have h1 : ts[i]? = none := by rw [List.getElem?_eq_none_iff]; omega
                  simp [List.getD, h1]
                subst hzf
                go_wp2_with fail
                go_meet
                exact ⟨rfl, rfl⟩
            case rest =>
              obtain ⟨rfl, hx⟩ := hcut
              obtain rfl : w3 = _ := hx.symm
              go_wp2_with fail
              go_loop [10, 74] (fun p q => ∃ k : Nat, k ≤ fx.length ∧ q = .int .i64 k ∧ p = .bool (wantM ts (fx.take k) i)) (fun _ q => fx.length - (intOf q).toNat)
              case atStart => exact ⟨0, by omega, rfl, by rw [HZ.out]; rfl⟩
              case round =>
                obtain ⟨k, hk, rfl, rfl⟩ := hrel
                by_cases hlt : k < fx.length
                · obtain ⟨n, hn⟩ : ∃ n, fx[k]? = some n := ⟨_, List.getElem?_eq_getElem hlt⟩
                  obtain ⟨_, _, e1, _, hel⟩ := reads_shape HG03.out
                  cases e1
                  obtain ⟨b, rfl, hcb⟩ := hel k n hn
                  have hcb' : w3.cell? (b.add k) = some (.int .i64 n) := hcb
                  have hkI : (k : Int) < (fx.length : Int) := by omega
                  have HW := Lib.hid (show wantM ts (fx.take (k + 1)) i = if n = (i : Int) + 1 ∨ n = -(i : Int) - 1 then decide (0 < n) else wantM ts (fx.take k) i from by rw [take_snoc _ k n hn, want_snoc])
                  have HG2 := Lib.hid (rfl : Value.bool (wantM ts (fx.take (k + 1)) i) = Value.bool (wantM ts (fx.take (k + 1)) i))
                  obtain ⟨b2, hb2⟩ : ∃ b2, b2 = wantM ts (fx.take (k + 1)) i := ⟨_, rfl⟩
                  rw [← hb2] at HW
                  have HB2 := Lib.hid hb2
                  generalize wantM ts (fx.take k) i = b1 at HW ⊢
                  clear hel hcb hn hb2 HG2
                  by_cases q1 : n = (i : Int) + 1
                  · subst q1
                    have hb2 : b2 = true := by
                      rw [HW.out, if_pos (.inl rfl)]
                      have : (0 : Int) < (i : Int) + 1 := by omega
                      simp [this]
                    have hi0 : (0 : Int) < (i : Int) + 1 := by omega
                    subst hb2
                    go_wp2
                    go_round
                    case rel => exact ⟨k + 1, by omega, by go_num, by rw [← HB2.out]⟩
                    case measure => simp [intOf]; omega
                  by_cases q2 : n = -(i : Int) - 1
                  · have hb2 : b2 = false := by
                      rw [HW.out, if_pos (.inr q2)]
                      have : ¬ (0 : Int) < n := by omega
                      simp [this]
                    have hw1 : IntKind.i64.wrap (-(i : Int)) = -(i : Int) := IntWalk.i64_in _ ⟨by omega, by omega⟩
                    have hw2 : IntKind.i64.wrap (-(i : Int) - 1) = -(i : Int) - 1 := IntWalk.i64_in _ ⟨by omega, by omega⟩
                    have e1 : (n == (i : Int) + 1) = false := by simpa using q1
                    have e2 : (n == -(i : Int) - 1) = true := by simpa using q2
                    have hn0 : ¬ (0 : Int) < n := by omega
                    clear q1 q2
                    subst hb2
                    go_wp2
                    go_round
                    case rel => exact ⟨k + 1, by omega, by go_num, by rw [← HB2.out]⟩
                    case measure => simp [intOf]; omega
                  · have hb2 : b2 = b1 := by rw [HW.out, if_neg (fun h => h.elim q1 q2)]
                    have hw1 : IntKind.i64.wrap (-(i : Int)) = -(i : Int) := IntWalk.i64_in _ ⟨by omega, by omega⟩
                    have hw2 : IntKind.i64.wrap (-(i : Int) - 1) = -(i : Int) - 1 := IntWalk.i64_in _ ⟨by omega, by omega⟩
                    have e1 : (n == (i : Int) + 1) = false := by simpa using q1
                    have e2 : (n == -(i : Int) - 1) = false := by simpa using q2
                    clear q1 q2
                    subst hb2
                    go_wp2
                    go_round
                    case rel => exact ⟨k + 1, by omega, by go_num, by rw [← HB2.out]⟩
                    case measure => simp [intOf]; omega
                · have hle3 : (fx.length : Int) ≤ k := by omega
                  have hfin : wantM ts (fx.take k) i = g := by rw [HG.out, List.take_of_length_le (by omega)]
                  rw [hfin]
                  clear hfin
                  cases g
                  · go_wp2
                    go_round
                    case rel => exact ⟨i + 1, by omega, by go_num⟩
                    case measure => simp [intOf]; omega
                  · go_wp2
                    go_round
                    case rel => exact ⟨i + 1, by omega, by go_num⟩
                    case measure => simp [intOf]; omega
          · have hiI : (V : Int) ≤ (i : Int) := by omega
            go_wp2_with fail
            refine (lives29_any _).mono ?_
            rintro e wE ⟨rfl, hbE⟩
            go_wp2
            go_ret
            exact ⟨rfl, then29 (HB3.out) hbE⟩

set_option maxRecDepth 100000 in
theorem lifted_TrimGrows (os : Os) (started : os.Started) (H : Type) (enc : TypeId × Value → H) :
    ReturnsInHanded {} Try.checked os 4 .any (Rows.trimGrowsSpec.pre6 enc Try.prog Try.f4 Rows.trimGrowsRow.domain false) (Rows.trimGrowsSpec.post enc Try.prog Try.f4 false true false false) := by
  refine returnsInHanded_of_change (C := Try.checked) own_knob started (by kernel_rfl) Try.func4
    (ChangeSpec.witness6 (enc := enc) (C := Try.checked) false ⟨#[], #[.agg #[.int .i64 0, .slice none 0 0, .slice none 0 0], .slice none 0 0], []⟩ 8 (by kernel_rfl) (by kernel_rfl) (by kernel_rfl) (by kernel_rfl)) ?_
  intro W base args ds gs before hval0 hW _ _
  have hval : ∀ (j : Nat) t v, Try.f4.params[j]? = some t → args[j]? = some v → Value.okWide Try.prog W .any base t v := hval0
  have hW' := hW
  obtain ⟨p, q, hA0, hV, rfl, _, _⟩ := hW
  have hA : DataW.TrodAll enc Try.prog W 0 (fun _ => true) true Try.f4.params.toList args.toList ds p := hA0
  rw [Try.params4] at hA hval
  obtain ⟨v0, vs0, d0, ds0, p0, q0, hargs, rfl, rfl, h0, r0⟩ := trodAll_cons hA
  obtain ⟨v1, vs1, d1, ds1, p1, q1, rfl, rfl, rfl, h1, r1⟩ := trodAll_cons r0
  obtain ⟨rfl, rfl, rfl⟩ := trodAll_nil r1
  obtain rfl : args = #[v0, v1] := by cases args; simp_all
  obtain ⟨rfl, rfl⟩ := trodVars_none hV
  obtain ⟨n0, cv0, fv0, l0, fx0, rfl, b0, _, _, g0, f0⟩ := open_trimmed (hval 0 29 v0 rfl rfl) h0
  obtain ⟨l1, g1⟩ := open_reads_bools (hval 1 40 v1 rfl rfl) h1
  clear hA0 hval0
  refine (walk_TrimGrows n0 b0 cv0 fv0 fx0 f0 v1 l1 W g0 g1).mono fun e W' ⟨he, hb⟩ => ?_
  subst he
  exact ⟨_, rfl, law_post (by kernel_rfl) rfl rfl rfl hW' hb⟩

/-- the statement of TrimGrows -/
theorem proved_TrimGrows : Rows.TrimGrowsSaid :=
  OpenClaim.holds_of_wide 4 Try.f4 rfl rfl rfl rfl rfl rfl rfl ⟨rfl, rfl, rfl, rfl, rfl⟩ rfl rfl rfl rfl rfl (by kernel_rfl) Try.func4 (by kernel_rfl)
    (of_decide_eq_true (by kernel_rfl)) (by unfold Func.isWrapper; first | (rw [if_pos (by decide +kernel)]; kernel_rfl) | (rw [if_neg (by decide +kernel)]; exact ⟨rfl, rfl⟩))
    (fun os started H enc _ => lifted_TrimGrows os started H enc)

end Go.Proofs.Ytlcbfahaapodmaa
