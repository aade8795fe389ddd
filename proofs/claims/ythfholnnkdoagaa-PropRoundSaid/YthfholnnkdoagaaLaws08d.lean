/-
  Layer 8: the statement PropRound: for every number. Own work.
-/
import Derived.Test.YthfholnnkdoagaaRnd8
import Derived.Test.YthfholnnkdoagaaRVl8
namespace Go.Proofs.Ythfholnnkdoagaa
set_option linter.unusedVariables false
set_option linter.unusedSimpArgs false
open Go.ChangeShapes Go.WideShapes Go.ChangeAt Go.RowKit
open Go.ChangeMaps (open_string shut_string)

theorem rl_len (n : Nat) (r : Bool) : (rl n r).length = n := by simp [rl]
theorem rl_at {n k : Nat} {r : Bool} (h : k < n) : (rl n r)[k]? = some (dec8 (k + 1), if k = n - 1 then (if r then [36, 123, 49, 125] else [101, 110, 100]) else asIs (dec8 (k + 2))) := by
  unfold rl
  rw [List.getElem?_map, List.getElem?_range h]
  rfl
theorem dec8_len (n : Nat) : (dec8 n).length ≤ 2 := by unfold dec8; split <;> simp
theorem rl_fit {n : Nat} {r : Bool} (h : n ≤ 60) : Fit8 (rl n r) := by
  refine ⟨by rw [rl_len]; exact h, fun p hp => ?_⟩
  obtain ⟨k, hk⟩ := List.getElem?_of_mem hp
  have hkn : k < n := by have := (List.getElem?_eq_some_iff.1 hk).1; rw [rl_len] at this; exact this
  rw [rl_at hkn] at hk
  cases hk
  have h1 := dec8_len (k + 1)
  have h2 := dec8_len (k + 2)
  refine ⟨by show (dec8 (k + 1)).length ≤ 1000; omega, ?_⟩
  show List.length (if k = n - 1 then (if r then [36, 123, 49, 125] else [101, 110, 100]) else asIs (dec8 (k + 2))) ≤ 1000
  split
  · split <;> simp
  · simp [asIs]; omega
theorem round_ok {n : Nat} (h1 : 1 ≤ n) (h2 : n ≤ 60) (r : Bool) : okRound n r = true := by
  have h := allRound
  rw [List.all_eq_true] at h
  have h3 := h (n - 1) (List.mem_range.2 (by omega))
  rw [show n - 1 + 1 = n by omega, Bool.and_eq_true] at h3
  cases r with
  | true => exact h3.1
  | false => exact h3.2
set_option maxRecDepth 100000 in
set_option maxHeartbeats 8000000 in
theorem walk_PropRound (w : World) (m : Int) (hm : w.cell? ⟨0, 0, none⟩ = some (.int .i64 m)) (n : Int) (hn : -9223372036854775808 ≤ n ∧ n ≤ 9223372036854775807) (r : Bool) :
    Calls Try.prog 9 #[.int .i64 n, .bool r] w fun e w' => e = .returned (.bool true) ∧ Below w.heap.size w w' := by
  obtain ⟨N, hN⟩ : ∃ N : Nat, max 1 (min n 60) = (N : Int) := ⟨(max 1 (min n 60)).toNat, by omega⟩
  have hN1 : 1 ≤ N := by omega
  have hN2 : N ≤ 60 := by omega
  have HM := Lib.hid hm
  have HNM := Lib.hid (fun (n : Nat) (h : n < 100) (w : World) => num8_any n h w)
  clear hm
  go_enter Try.func9, Try.ntmps9
  go_upto_region 4 with fail
  clear hN hn
  have hNI : (N : Int) ≤ 60 := by omega
  go_loopw [5, 15] (fun t5 i wr => ∃ k : Nat, k ≤ N ∧ i = .int .i64 k ∧ wr.ownsRow w.heap.size 33 2 t5 k (rowPr (prs ((rl N r).take k))) ∧ Below w.heap.size w wr) (fun _ i _ => N - (intOf i).toNat)
  case atStart => exact ⟨0, by omega, rfl, World.ownsRow_nil _ _ _ _, Below.refl _ _⟩
  case round =>
    obtain ⟨k, hk, rfl, ho, hb⟩ := hrel
    have HO := Lib.hid ho
    have HB := Lib.hid hb
    clear ho hb
    obtain ⟨a5, c5, ht5⟩ := own_shape8 HO.out
    subst ht5
    by_cases hlt : k < N
    · have hkI : (k : Int) < (N : Int) := by omega
      have hx1 : ¬ 9223372036854775807 < 2 + (str (dec8 (k + 2))).size + 1 := by rw [size_str]; have := dec8_len (k + 2); omega
      have hx2 : ¬ 9223372036854775807 < 2 + (str (dec8 (k + 2))).size := by rw [size_str]; have := dec8_len (k + 2); omega
      have hcat := asIs_str (dec8 (k + 2))
      have hw1 : IntKind.i64.wrap ((k : Int) + 2) = ((k + 2 : Nat) : Int) := by rw [IntWalk.i64_in _ (by omega)]; omega
      have hw2 : IntKind.i64.wrap ((k : Int) + 1) = ((k + 1 : Nat) : Int) := by rw [IntWalk.i64_in _ (by omega)]; omega
      have hw3 : IntKind.i64.wrap ((N : Int) - 1) = (N : Int) - 1 := by rw [IntWalk.i64_in _ (by omega)]
      have HRL := Lib.hid (rl_at (r := r) hlt)
      go_wp2_with fail
      refine (HNM.out (k + 2) (by omega) _).mono ?_
      rintro e w3 ⟨rfl, hb3⟩
      have HB3 := Lib.hid (HB.out.trans (hb3.mono HB.out.size))
      have HO3 := Lib.hid (own_mvd8 HO.out hb3)
      clear hb3 HO HB
      by_cases hlast : k = N - 1
      · have hlI : ((k : Int) == (N : Int) - 1) = true := by rw [beq_iff_eq]; omega
        cases r with
        | true =>
          have HNX := Lib.hid (show (rl N true)[k]? = some (dec8 (k + 1), [36, 123, 49, 125]) from by rw [HRL.out, if_pos hlast]; rfl)
          clear hlast HRL
          go_upto_region 11 with fail
          have hk1 : k + 1 < 100 := by omega
          have hk2 : k ≤ 100000 := by omega
          have HN1 := Lib.hid (fun w => by
            have h := num8_any (k + 1) hk1 w
            rw [show (((k + 1 : Nat)) : Int) = (k : Int) + 1 by omega] at h
            exact h)
          go_wp2_with fail
          with_reducible refine (HN1.out _).mono ?_
          rintro e w4 ⟨rfl, hb4⟩
          have HB4 := Lib.hid (HB3.out.trans (hb4.mono HB3.out.size))
          have HO4 := Lib.hid (own_mvd8 HO3.out hb4)
          clear hb4
          go_wp2_with (at_builtin
                       refine app_propL rfl (.tmp 28) (.tmp 34) rfl w4 ⟨str (dec8 (k + 1)), ⟨#[36, 123, 49, 125]⟩⟩ rfl rfl HO4.out hk2 HB4.out.size ?_)
          intro g6 q6 w6 ho6 hg6 hl6
          have HFIN := Lib.hid (show w6.ownsRow w.heap.size 33 2 (.slice (some ⟨g6, 0, none⟩) (k + 1) q6) (k + 1) (rowPr (prs ((rl N true).take (k + 1)))) from by
            rw [List.take_add_one, HNX.out]
            show w6.ownsRow _ _ _ _ _ (rowPr (prs ((rl N true).take k ++ [_])))
            rw [prs_app, rowPr_app]
            have hpx : ∀ p : Pp, rowPr (prs [p]) = prL ⟨str p.1, str p.2⟩ := fun p => by simp [rowPr, prs]
            rw [hpx]
            exact ho6)
          have HB6 := Lib.hid (HB4.out.grown hg6 HB4.out.size (fun k hk => (HO4.out.lt k hk).1))
          clear ho6 hg6 hl6 HO4 HB4
          go_wp2
          go_roundw
          case rel => exact ⟨k + 1, by omega, by go_num, HFIN.out, HB6.out⟩
          case measure => simp [intOf]; omega
        | false =>
          have HNX := Lib.hid (show (rl N false)[k]? = some (dec8 (k + 1), [101, 110, 100]) from by rw [HRL.out, if_pos hlast]; rfl)
          clear hlast HRL
          go_upto_region 11 with fail
          have hk1 : k + 1 < 100 := by omega
          have hk2 : k ≤ 100000 := by omega
          have HN1 := Lib.hid (fun w => by
            have h := num8_any (k + 1) hk1 w
            rw [show (((k + 1 : Nat)) : Int) = (k : Int) + 1 by omega] at h
            exact h)
          go_wp2_with fail
          with_reducible refine (HN1.out _).mono ?_
          rintro e w4 ⟨rfl, hb4⟩
          have HB4 := Lib.hid (HB3.out.trans (hb4.mono HB3.out.size))
          have HO4 := Lib.hid (own_mvd8 HO3.out hb4)
          clear hb4
          go_wp2_with (at_builtin
                       refine app_propL rfl (.tmp 28) (.tmp 34) rfl w4 ⟨str (dec8 (k + 1)), ⟨#[101, 110, 100]⟩⟩ rfl rfl HO4.out hk2 HB4.out.size ?_)
          intro g6 q6 w6 ho6 hg6 hl6
          have HFIN := Lib.hid (show w6.ownsRow w.heap.size 33 2 (.slice (some ⟨g6, 0, none⟩) (k + 1) q6) (k + 1) (rowPr (prs ((rl N false).take (k + 1)))) from by
            rw [List.take_add_one, HNX.out]
            show w6.ownsRow _ _ _ _ _ (rowPr (prs ((rl N false).take k ++ [_])))
            rw [prs_app, rowPr_app]
            have hpx : ∀ p : Pp, rowPr (prs [p]) = prL ⟨str p.1, str p.2⟩ := fun p => by simp [rowPr, prs]
            rw [hpx]
            exact ho6)
          have HB6 := Lib.hid (HB4.out.grown hg6 HB4.out.size (fun k hk => (HO4.out.lt k hk).1))
          clear ho6 hg6 hl6 HO4 HB4
          go_wp2
          go_roundw
          case rel => exact ⟨k + 1, by omega, by go_num, HFIN.out, HB6.out⟩
          case measure => simp [intOf]; omega
      · have hlI : ((k : Int) == (N : Int) - 1) = false := by rw [beq_eq_false_iff_ne]; omega
        have hlI2 : ¬ (k : Int) = (N : Int) - 1 := by omega
        have HNX := Lib.hid (show (rl N r)[k]? = some (dec8 (k + 1), asIs (dec8 (k + 2))) from by rw [HRL.out, if_neg hlast])
        clear hlast HRL
        go_upto_region 11 with fail
        have hk1 : k + 1 < 100 := by omega
        have hk2 : k ≤ 100000 := by omega
        have HN1 := Lib.hid (fun w => by
          have h := num8_any (k + 1) hk1 w
          rw [show (((k + 1 : Nat)) : Int) = (k : Int) + 1 by omega] at h
          exact h)
        go_wp2_with fail
        with_reducible refine (HN1.out _).mono ?_
        rintro e w4 ⟨rfl, hb4⟩
        have HB4 := Lib.hid (HB3.out.trans (hb4.mono HB3.out.size))
        have HO4 := Lib.hid (own_mvd8 HO3.out hb4)
        clear hb4
        go_wp2_with (at_builtin
                     refine app_propL rfl (.tmp 28) (.tmp 34) rfl w4 ⟨str (dec8 (k + 1)), str (asIs (dec8 (k + 2)))⟩ rfl rfl HO4.out hk2 HB4.out.size ?_)
        intro g6 q6 w6 ho6 hg6 hl6
        have HFIN := Lib.hid (show w6.ownsRow w.heap.size 33 2 (.slice (some ⟨g6, 0, none⟩) (k + 1) q6) (k + 1) (rowPr (prs ((rl N r).take (k + 1)))) from by
          rw [List.take_add_one, HNX.out]
          show w6.ownsRow _ _ _ _ _ (rowPr (prs ((rl N r).take k ++ [_])))
          rw [prs_app, rowPr_app]
          have hpx : ∀ p : Pp, rowPr (prs [p]) = prL ⟨str p.1, str p.2⟩ := fun p => by simp [rowPr, prs]
          rw [hpx]
          exact ho6)
        have HB6 := Lib.hid (HB4.out.grown hg6 HB4.out.size (fun k hk => (HO4.out.lt k hk).1))
        clear ho6 hg6 hl6 HO4 HB4
        go_wp2
        go_roundw
        case rel => exact ⟨k + 1, by omega, by go_num, HFIN.out, HB6.out⟩
        case measure => simp [intOf]; omega
    · have hle : (N : Int) ≤ (k : Int) := by omega
      have hkN : k = N := by omega
      subst hkN
      have hfit := rl_fit (n := k) (r := r) hN2
      have htk : (rl k r).take k = rl k r := List.take_of_length_le (by rw [rl_len]; exact Nat.le_refl _)
      have hrow := HO.out
      rw [htk] at hrow
      have hm1 := (HB.out.cell (World.block_lt_of_cell? w _ HM.out)).trans HM.out
      have HN := Lib.hid (New8_any (rl k r) (.slice a5 k c5) m wr (RdPs.of_own (by rw [prs_len, rl_len]; exact hrow)) (by rw [rl_len]; omega) (fun p hp => (hfit.2 p hp).1) hm1)
      have HLV := Lib.hid (fun w' (hb : Below w.heap.size w w') => lives8 m w' ((hb.cell (World.block_lt_of_cell? w _ HM.out)).trans HM.out))
      have HOK := Lib.hid (round_ok hN1 hN2 r)
      have HFIT := Lib.hid hfit
      clear hfit htk hrow hm1 HO
      go_wp2_with fail
      refine HN.out.mono ?_
      rintro e w2 ⟨S, rfl, hst, hSB, hb2, hSm⟩
      have hwB : w.heap.size ≤ S.B := by rw [hSB]; exact HB.out.size
      have hB2 : S.B ≤ w2.heap.size := own8_base (hst.st (X := fun _ => False) rfl (fun _ h => h.elim))
      have HB2 := Lib.hid (HB.out.trans (hb2.mono HB.out.size))
      have HX := Lib.hid (Expand8_any S (firsts [] (rl k r)) HFIT.out.ok (fun _ => False) [] w2 [60, 36, 123, 49, 125, 62] (by decide) (Q8.nil _ _) (hst.st rfl (fun _ h => h.elim)))
      clear hst hb2 HN HB hSB hSm
      go_wp2_with fail
      refine HX.out.mono ?_
      rintro e w3 ⟨rfl, _, hk3⟩
      have HB3 := Lib.hid (HB2.out.trans ((hk3.under hB2).mono hwB))
      clear hk3 HX HB2
      have hok := HOK.out
      unfold okRound at hok
      generalize expandM8 (firsts [] (rl k r)) [60, 36, 123, 49, 125, 62] [] = xx at hok ⊢
      cases xx with
      | ok v D =>
        simp only [Bool.and_eq_true, decide_eq_true_eq, beq_iff_eq, Bool.not_eq_true'] at hok
        obtain ⟨⟨h32, rfl⟩, rfl⟩ := hok
        have h32I : ¬ (32 : Int) < (k : Int) := by omega
        have hv : expV (.ok [60, 101, 110, 100, 62] D) = .tuple #[.string ⟨#[60, 101, 110, 100, 62]⟩, .int .i64 0, .string ⟨#[]⟩] := rfl
        rw [hv]
        clear hv
        go_wp2_with fail
        refine (HLV.out _ HB3.out).mono ?_
        rintro e w7 ⟨rfl, hb7⟩
        have HZ := Lib.hid (HB3.out.trans (hb7.mono HB3.out.size))
        clear hb7 HLV
        go_wp2
        go_ret
        exact ⟨rfl, HZ.out⟩
      | bad er mm D =>
        by_cases h32 : 32 < k
        · dsimp only at hok
          rw [if_pos h32] at hok
          simp only [Bool.and_eq_true, beq_iff_eq] at hok
          obtain ⟨rfl, rfl⟩ := hok
          have h32I : (32 : Int) < (k : Int) := by omega
          have hv : expV (.bad 2 (dec8 33) D) = .tuple #[.string ⟨#[]⟩, .int .i64 2, .string (str (dec8 33))] := rfl
          rw [hv]
          have HN33 := Lib.hid (fun w => HNM.out 33 (by omega) w)
          generalize str (dec8 33) = s33 at HN33 ⊢
          clear hv
          go_wp2_with fail
          refine (HN33.out _).mono ?_
          rintro e w6 ⟨rfl, hb6⟩
          have HB6 := Lib.hid (HB3.out.trans (hb6.mono HB3.out.size))
          clear hb6
          go_wp2_with fail
          refine (HLV.out _ HB6.out).mono ?_
          rintro e w7 ⟨rfl, hb7⟩
          have HZ := Lib.hid (HB6.out.trans (hb7.mono HB6.out.size))
          clear hb7 HLV
          go_wp2
          go_ret
          exact ⟨rfl, HZ.out⟩
        · dsimp only at hok
          rw [if_neg h32] at hok
          simp only [Bool.and_eq_true, beq_iff_eq] at hok
          obtain ⟨⟨rfl, rfl⟩, rfl⟩ := hok
          have h32I : ¬ (32 : Int) < (k : Int) := by omega
          have hv : expV (.bad 22 [49] D) = .tuple #[.string ⟨#[]⟩, .int .i64 22, .string ⟨#[49]⟩] := rfl
          rw [hv]
          clear hv
          go_wp2_with fail
          refine (HLV.out _ HB3.out).mono ?_
          rintro e w7 ⟨rfl, hb7⟩
          have HZ := Lib.hid (HB3.out.trans (hb7.mono HB3.out.size))
          clear hb7 HLV
          go_wp2
          go_ret
          exact ⟨rfl, HZ.out⟩

theorem laid_met_PropRound (os : Os) : laidMet Try.prog Rows.propRoundRow.laid ((laidWorld #[.int .i64 0, .bool false] os).forCall (fun _ _ => 0) ⟨#[], #[.int .i64 0, .bool false], []⟩).memory :=
  laidMet_of_run' 8 (by kernel_rfl) (by kernel_rfl)
theorem reads_PropRound (os : Os) {H : Type} (enc : TypeId × Value → H) : ∃ places, DataW.whole enc Try.prog ((laidWorld #[.int .i64 0, .bool false] os).forCall (fun _ _ => 0) ⟨#[], #[.int .i64 0, .bool false], []⟩).memory Try.f9.params.toList Rows.propRoundSpec.vars false (#[.int .i64 0, .bool false] : Array Value).toList 8 = some ([.lit (.int .i64 0), .lit (.bool false)], [], places) :=
  ⟨[], by kernel_rfl⟩
set_option maxRecDepth 100000 in
theorem lifted_PropRound (os : Os) (started : os.Started) (H : Type) (enc : TypeId × Value → H) (F : Stop.Interp) :
    ReturnsInHanded {} Try.checked os 9 .any ((OpenSpec.ofChange Rows.propRoundSpec).preRow enc Try.prog Try.f9 Rows.propRoundRow.domain false Rows.propRoundRow.laid) (((OpenSpec.ofChange Rows.propRoundSpec).at F).post enc Try.prog Try.f9 false true false false) := by
  obtain ⟨places, hx⟩ := reads_PropRound os enc
  refine returnsInHanded_of_row (C := Try.checked) (s := OpenSpec.ofChange Rows.propRoundSpec) own_knob started (by kernel_rfl) Try.func9
    (witness_row_at (enc := enc) (C := Try.checked) false (laidWorld #[.int .i64 0, .bool false] os) #[.int .i64 0, .bool false] rfl (by kernel_rfl) (by kernel_rfl) (by kernel_rfl)
      (OpenSpec.preRow_of_cond 8 hx (by kernel_rfl) (fun k hk => by cases hk) (by kernel_rfl) (laid_met_PropRound os))) ?_
  intro W base args ds gs before hval0 hW _ _ _ _ hsh _
  have hval : ∀ (j : Nat) t v, Try.f9.params[j]? = some t → args[j]? = some v → Value.okWide Try.prog W .any base t v := hval0
  obtain ⟨m, hm⟩ := maxLen_cell W hsh
  have hW' := hW
  obtain ⟨p, q, hA0, hV, rfl, _, _⟩ := hW
  have hA : DataW.TrodAll enc Try.prog W 0 (fun _ => true) true Try.f9.params.toList args.toList ds p := hA0
  rw [Try.params9] at hA hval
  obtain ⟨v0, vs0, d0, ds0, p0, q0, hargs, rfl, rfl, h0, r0⟩ := trodAll_cons hA
  obtain ⟨v1, vs1, d1, ds1, p1, q1, rfl, rfl, rfl, h1, r1⟩ := trodAll_cons r0
  obtain ⟨rfl, rfl, rfl⟩ := trodAll_nil r1
  obtain rfl : args = #[v0, v1] := by cases args; simp_all
  obtain ⟨rfl, rfl⟩ := trodVars_none hV
  obtain ⟨a0, rfl, rfl, rfl, w0⟩ := open_int Try.underlying3 (hval 0 3 v0 rfl rfl) h0
  obtain ⟨a1, rfl, rfl, rfl⟩ := open_bool Try.underlying4 (hval 1 4 v1 rfl rfl) h1
  clear hA0 hval0
  refine (walk_PropRound W m hm a0 (wf_i64 w0) a1).mono fun e W' ⟨he, hb⟩ => ?_
  subst he
  exact ⟨_, rfl, law_post (by kernel_rfl) rfl rfl rfl hW' hb⟩
/-- the statement of PropRound -/
theorem proved_PropRound : Rows.PropRoundSaid :=
  OpenClaim.holds_of_cond 9 Try.f9 rfl rfl rfl rfl rfl rfl rfl ⟨rfl, rfl, rfl, rfl, rfl⟩ rfl rfl rfl rfl rfl (by kernel_rfl) Try.func9 (by kernel_rfl)
    (of_decide_eq_true (by kernel_rfl)) (by unfold Func.isWrapper; first | (rw [if_pos (by decide +kernel)]; kernel_rfl) | (rw [if_neg (by decide +kernel)]; exact ⟨rfl, rfl⟩))
    (fun os started H enc _ F => by rw [OpenClaim.pre_eq_preRow]; exact lifted_PropRound os started H enc F)
end Go.Proofs.Ythfholnnkdoagaa
