/-
  Layer 8: the statement PropGreat: properties that double one another. Own work.
-/
import Derived.Test.YthfholnnkdoagaaGrt8
import Derived.Test.YthfholnnkdoagaaNil8
namespace Go.Proofs.Ythfholnnkdoagaa
set_option linter.unusedVariables false
set_option linter.unusedSimpArgs false
open Go.ChangeShapes Go.WideShapes Go.ChangeAt Go.RowKit
open Go.ChangeMaps (open_string shut_string)

theorem gl_one (n : Nat) (v : List UInt8) : (gl n v).take 1 = [([49], v)] := by
  show (gl n v).take (0 + 1) = _
  rw [List.take_add_one, gl_at (v := v) (Nat.zero_le n)]
  rfl
theorem expG_bad (er : Int) (n : List UInt8) (D : List Pp) : expV (.bad er n D) = .tuple #[.string ⟨#[]⟩, .int .i64 er, .string (str n)] := rfl
theorem expG_ok (v : List UInt8) (D : List Pp) : expV (.ok v D) = .tuple #[.string (str v), .int .i64 0, .string ⟨#[]⟩] := rfl
theorem dall_len (v : List UInt8) (i : Nat) : (dall v i).length = i + 1 := by simp [dall]
set_option maxRecDepth 100000 in
set_option maxHeartbeats 8000000 in
theorem walk_PropGreat (w : World) (m : Int) (hm : w.cell? ⟨0, 0, none⟩ = some (.int .i64 m)) (n : Int) (hn : -9223372036854775808 ≤ n ∧ n ≤ 9223372036854775807) (b : Int) (hb8 : 0 ≤ b ∧ b ≤ 255) (e0 : Bool) :
    Calls Try.prog 10 #[.int .i64 n, .int .u8 b, .bool e0] w fun e w' => e = .returned (.bool true) ∧ Below w.heap.size w w' := by
  obtain ⟨N, hN⟩ : ∃ N : Nat, max 0 (min n 30) = (N : Int) := ⟨(max 0 (min n 30)).toNat, by omega⟩
  have hN2 : N ≤ 30 := by omega
  have HM := Lib.hid hm
  have hc := conv_one8 w b
  have HB0 := Lib.hid ((Below.refl w.heap.size w).alloc (Nat.le_refl _) (.cells #[.int .u8 b] 5))
  have HLV := Lib.hid (fun w' (hb : Below w.heap.size w w') => lives8 m w' ((hb.cell (World.block_lt_of_cell? w _ hm)).trans hm))
  obtain ⟨bb, hbb⟩ : ∃ bb, bb = (e0 || decide (b = 36) || decide (b = 123) || decide (b = 125)) := ⟨_, rfl⟩
  have HBB := Lib.hid hbb
  clear hm hbb
  go_enter Try.func10, Try.ntmps10
  go_upto_region 3 with fail
  clear hN hn hc
  generalize w.alloc (.cells #[.int .u8 b] 5) = w0 at HB0 ⊢
  go_cut [37] from 19 to 38 (fun t wx => t = .bool bb ∧ wx = w0)
  case first =>
    cases e0 with
    | true =>
      have HV := Lib.hid (show bb = true from by rw [HBB.out]; rfl)
      go_wp2_with fail
      go_meet
      exact ⟨by rw [HV.out], rfl⟩
    | false =>
      by_cases h1 : b = 36
      · have HV := Lib.hid (show bb = true from by rw [HBB.out, decide_eq_true h1]; rfl)
        have t1 : (b == 36) = true := by simp [h1]
        clear h1
        go_wp2_with fail
        go_meet
        exact ⟨by rw [HV.out], rfl⟩
      · have t1 : (b == 36) = false := by simpa using h1
        by_cases h2 : b = 123
        · have HV := Lib.hid (show bb = true from by rw [HBB.out, decide_eq_true h2]; simp)
          have t2 : (b == 123) = true := by simp [h2]
          clear h1 h2
          go_wp2_with fail
          go_meet
          exact ⟨by rw [HV.out], rfl⟩
        · have t2 : (b == 123) = false := by simpa using h2
          by_cases h3 : b = 125
          · have HV := Lib.hid (show bb = true from by rw [HBB.out, decide_eq_true h3]; simp)
            have t3 : (b == 125) = true := by simp [h3]
            clear h1 h2 h3
            go_wp2_with fail
            go_meet
            exact ⟨by rw [HV.out], rfl⟩
          · have t3 : (b == 125) = false := by simpa using h3
            have HV := Lib.hid (show bb = false from by rw [HBB.out]; simp [h1, h2, h3])
            clear h1 h2 h3
            go_wp2_with fail
            go_meet
            exact ⟨by rw [HV.out], rfl⟩
  case rest =>
  obtain ⟨rfl, hwc⟩ := hcut
  obtain rfl : w0 = wc := hwc.symm
  clear hwc HBB hb8
  go_upto_if 37 with fail
  go_cut [7] from 19 to 38 (fun t wx => ∃ v : List UInt8, v.length ≤ 1 ∧ t = .string (str v) ∧ wx = w0)
  case first =>
    cases bb with
    | true =>
      go_wp2_with fail
      go_meet
      exact ⟨[], by simp, rfl, rfl⟩
    | false =>
      go_wp2_with fail
      go_meet
      exact ⟨[UInt8.ofNat b.toNat], by simp, rfl, rfl⟩
  case rest =>
  obtain ⟨v, hv, rfl, hwc⟩ := hcut
  obtain rfl : w0 = wc := hwc.symm
  clear hwc
  have HO1 := Lib.hid (show (w0.alloc (.cells #[.string ⟨#[49]⟩, .string (str v)] 33)).ownsRow w.heap.size 33 2 (.slice (some ⟨w0.heap.size, 0, none⟩) 1 1) 1 (rowPr (prs ((gl N v).take 1))) from by
    rw [gl_one]
    exact World.ownsRow_lit (base := w.heap.size) (e := 33) (size := 2) w0 #[.string ⟨#[49]⟩, .string (str v)] 1 HB0.out.size (by decide) rfl)
  have HB1 := Lib.hid (HB0.out.alloc HB0.out.size (.cells #[.string ⟨#[49]⟩, .string (str v)] 33))
  go_upto_region 6 with fail
  generalize w0.alloc (.cells #[.string ⟨#[49]⟩, .string (str v)] 33) = w1 at HO1 HB1 ⊢
  clear HB0
  have hNI : (N : Int) ≤ 30 := by omega
  go_upto_region 7 with fail
  go_loopw [8, 42] (fun t8 i wr => ∃ k : Nat, k ≤ N ∧ i = .int .i64 k ∧ wr.ownsRow w.heap.size 33 2 t8 (k + 1) (rowPr (prs ((gl N v).take (k + 1)))) ∧ Below w.heap.size w wr) (fun _ i _ => N - (intOf i).toNat)
  case atStart => exact ⟨0, by omega, rfl, HO1.out, HB1.out⟩
  case round =>
    obtain ⟨k, hk, rfl, ho, hb⟩ := hrel
    have HO := Lib.hid ho
    have HB := Lib.hid hb
    clear ho hb HO1 HB1
    obtain ⟨a8, c8, ht8⟩ := own_shape8 HO.out
    subst ht8
    have HN1 := Lib.hid (fun w => by
      have h := num8_any (k + 1) (by omega) w
      rw [show (((k + 1 : Nat)) : Int) = (k : Int) + 1 by omega] at h
      exact h)
    have hx1 : ¬ 9223372036854775807 < 2 + (str (dec8 (k + 1))).size + 1 := by rw [size_str]; have := dec8_le (k + 1); omega
    have hx2 : ¬ 9223372036854775807 < 2 + (str (dec8 (k + 1))).size := by rw [size_str]; have := dec8_le (k + 1); omega
    have hcat := asIs_str (dec8 (k + 1))
    by_cases hlt : k < N
    · have hkI : (k : Int) < (N : Int) := by omega
      have HN2 := Lib.hid (fun w => by
        have h := num8_any (k + 2) (by omega) w
        rw [show (((k + 2 : Nat)) : Int) = (k : Int) + 2 by omega] at h
        exact h)
      have HNX := Lib.hid (show (gl N v)[k + 1]? = some (dec8 (k + 2), asIs (dec8 (k + 1)) ++ asIs (dec8 (k + 1))) from by rw [gl_at (by omega), if_neg (by omega)])
      have hal : (asIs (dec8 (k + 1))).length ≤ 5 := by have := dec8_le (k + 1); simp [asIs]; omega
      generalize asIs (dec8 (k + 1)) = A at hcat HNX hal
      have hx3 : ¬ 9223372036854775807 < (str A).size + (str A).size := by rw [size_str]; omega
      have hcat2 := cat_str A A
      go_wp2_with fail
      with_reducible refine (HN1.out _).mono ?_
      rintro e w3 ⟨rfl, hb3⟩
      have HB3 := Lib.hid (HB.out.trans (hb3.mono HB.out.size))
      have HO3 := Lib.hid (own_mvd8 HO.out hb3)
      clear hb3 HO HB
      go_wp2_with fail
      with_reducible refine (HN2.out _).mono ?_
      rintro e w4 ⟨rfl, hb4⟩
      have HB4 := Lib.hid (HB3.out.trans (hb4.mono HB3.out.size))
      have HO4 := Lib.hid (own_mvd8 HO3.out hb4)
      clear hb4 HO3 HB3
      go_wp2_with (at_builtin
                   refine app_propL rfl (.tmp 50) (.tmp 58) rfl w4 ⟨str (dec8 (k + 2)), str (A ++ A)⟩ rfl rfl HO4.out (by omega) HB4.out.size ?_)
      intro g6 q6 w6 ho6 hg6 hl6
      have HFIN := Lib.hid (show w6.ownsRow w.heap.size 33 2 (.slice (some ⟨g6, 0, none⟩) (k + 1 + 1) q6) (k + 1 + 1) (rowPr (prs ((gl N v).take (k + 1 + 1)))) from by
        rw [List.take_add_one, HNX.out]
        show w6.ownsRow _ _ _ _ _ (rowPr (prs ((gl N v).take (k + 1) ++ [_])))
        rw [prs_app, rowPr_app]
        have hpx : ∀ p : Pp, rowPr (prs [p]) = prL ⟨str p.1, str p.2⟩ := fun p => by simp [rowPr, prs]
        rw [hpx]
        exact ho6)
      have HB6 := Lib.hid (HB4.out.grown hg6 HB4.out.size (fun k hk => (HO4.out.lt k hk).1))
      clear ho6 hg6 hl6 HO4 HB4
      go_wp2
      go_roundw
      case rel => exact ⟨k + 1, by omega, by go_num, HFIN.out, HB6.out⟩
      case measure => simp [intOf]; omega
    · have hle : (N : Int) ≤ (k : Int) := by omega
      have hkN : k = N := by omega
      subst hkN
      have hfit := gl_fit (n := k) (v := v) hN2 hv
      have htk : (gl k v).take (k + 1) = gl k v := List.take_of_length_le (by rw [gl_len]; exact Nat.le_refl _)
      have hrow := HO.out
      rw [htk] at hrow
      have hm1 := (HB.out.cell (World.block_lt_of_cell? w _ HM.out)).trans HM.out
      have HN := Lib.hid (New8_any (gl k v) (.slice a8 (k + 1) c8) m wr (RdPs.of_own (by rw [prs_len, gl_len]; exact hrow)) (by rw [gl_len]; omega) (fun p hp => (hfit.2 p hp).1) hm1)
      have hU : UOk (firsts [] (gl k v)) := hfit.ok
      have HG := Lib.hid (firsts_get (gl k v))
      have HAL := Lib.hid (great_all (U := firsts [] (gl k v)) hN2 hv HG.out)
      clear hfit htk hrow hm1 HO
      generalize hUe : firsts [] (gl k v) = U at hU HG HAL
      go_wp2_with fail
      refine HN.out.mono ?_
      rintro e w2 ⟨S, rfl, hst, hSB, hb2, hSm⟩
      rw [hUe] at hst
      have HST2 := Lib.hid (hst.st (X := fun _ => False) rfl (fun _ h => h.elim))
      have HWB := Lib.hid (show w.heap.size ≤ S.B from by rw [hSB]; exact HB.out.size)
      have HB2 := Lib.hid (HB.out.trans (hb2.mono HB.out.size))
      have hal : (asIs (dec8 (k + 1))).length ≤ 100000 := by have := dec8_le (k + 1); simp [asIs]; omega
      have HX := Lib.hid (fun w3 (h : St S U [] (fun _ => False) w3) => by
        have h1 := Expand8_any S U hU (fun _ => False) [] w3 (asIs (dec8 (k + 1))) hal (Q8.nil _ _) h
        rw [HAL.out] at h1
        exact h1)
      generalize asIs (dec8 (k + 1)) = A at hcat HAL HX hal
      clear hst hb2 HN HB hSB hSm hUe HAL HG
      go_wp2_with fail
      with_reducible refine (HN1.out _).mono ?_
      rintro e w3 ⟨rfl, hb3⟩
      have HB3 := Lib.hid (HB2.out.trans (hb3.mono HB2.out.size))
      have HST3 := Lib.hid (HST2.out.below hb3)
      clear hb3 HB2 HST2
      go_wp2_with fail
      refine (HX.out _ HST3.out).mono ?_
      rintro e w4 ⟨rfl, hst4, hk4⟩
      have HST4 := Lib.hid hst4
      have HB4 := Lib.hid (HB3.out.trans ((hk4.under (own8_base HST3.out)).mono HWB.out))
      clear hst4 hk4 HX HST3 HB3
      have HNIL := Lib.hid (show Calls Try.prog 23 #[.pointer none, .string ⟨#[36, 123, 49, 125]⟩] w4 fun e w' => e = .returned (.tuple #[.string ⟨#[36, 123, 49, 125]⟩, .int .i64 0, .string ⟨#[]⟩]) ∧ Below w4.heap.size w4 w' from expand8_nil w4 m [36, 123, 49, 125] (by decide) ((HB4.out.cell (World.block_lt_of_cell? w _ HM.out)).trans HM.out))
      have HKNIL := Lib.hid (fun w => known8_nil w)
      have hcase : (v.length = 1 ∧ 12 < k ∧ True) ∨ (¬ (v.length = 1 ∧ 12 < k)) := by by_cases h : v.length = 1 ∧ 12 < k; exact .inl ⟨h.1, h.2, trivial⟩; exact .inr h
      rcases hcase with ⟨hv1, hk12, _⟩ | hno
      · rw [if_pos ⟨hv1, hk12⟩, expG_bad]
        have HST5 := Lib.hid (show St S U (dall v 12) (fun _ => False) w4 from by
          have h := HST4.out
          rw [if_pos ⟨hv1, hk12⟩] at h
          exact h)
        have hk12I : (12 : Int) < (k : Int) := by omega
        have HKN := Lib.hid (fun (w5 : World) (hb : Below w4.heap.size w4 w5) => by
          obtain ⟨vv, hvv, _⟩ := HST5.out.below hb
          have h := known8_any S.T (dall v 12).length w5 (by rw [cell_of_row _ _ 4 _ _ (0, 0) hvv.tab]; rfl) (by rw [dall_len]; omega)
          rw [dall_len, show ((12 + 1 : Nat) : Int) = 13 from rfl] at h
          exact h)
        obtain ⟨c, rfl⟩ : ∃ c, v = [c] := List.length_eq_one_iff.1 hv1
        have hne : ¬ (str [c]).toList.isEmpty = true := by rw [ByteArray.toList_eq, toList_str]; simp
        clear HST4 HST5 hv1 hk12
        generalize str [c] = sv at hne ⊢
        generalize str (dec8 14) = s14
        go_wp2_with fail
        refine HNIL.out.mono ?_
        rintro e w5 ⟨rfl, hb5⟩
        have HB5 := Lib.hid hb5
        clear hb5
        go_wp2_with fail
        refine (HKNIL.out _).mono ?_
        rintro e w6 ⟨rfl, hw6⟩
        obtain rfl : w5 = w6 := hw6.symm
        clear hw6
        go_wp2_with fail
        refine (HKN.out _ HB5.out).mono ?_
        rintro e w6 ⟨rfl, hw6⟩
        obtain rfl : w5 = w6 := hw6.symm
        clear hw6
        have HZ5 := Lib.hid (HB4.out.trans (HB5.out.mono HB4.out.size))
        have HLW := Lib.hid (HLV.out _ HZ5.out)
        go_wp2_with fail
        refine HLW.out.mono ?_
        rintro e w7 ⟨rfl, hb7⟩
        have HZ := Lib.hid (HZ5.out.trans (hb7.mono HZ5.out.size))
        clear hb7
        go_wp2
        go_ret
        exact ⟨rfl, HZ.out⟩
      · rw [if_neg hno, expG_ok]
        have HST5 := Lib.hid (show St S U (dall v k) (fun _ => False) w4 from by
          have h := HST4.out
          rw [if_neg hno] at h
          exact h)
        have HKN := Lib.hid (fun (w5 : World) (hb : Below w4.heap.size w4 w5) => by
          obtain ⟨vv, hvv, _⟩ := HST5.out.below hb
          have h := known8_any S.T (dall v k).length w5 (by rw [cell_of_row _ _ 4 _ _ (0, 0) hvv.tab]; rfl) (by rw [dall_len]; omega)
          rw [dall_len, show ((k + 1 : Nat) : Int) = (k : Int) + 1 by omega] at h
          exact h)
        clear HST4 HST5
        rcases v with _ | ⟨c, _ | ⟨d, r⟩⟩
        · have hs0 : ((str (rep8 [] k)).size : Int) = 0 := by rw [size_str, rep8_len]; simp
          generalize str (rep8 [] k) = sr at hs0 ⊢
          clear hno hv
          rw [show str [] = ⟨#[]⟩ from rfl]
          go_wp2_with fail
          refine HNIL.out.mono ?_
          rintro e w5 ⟨rfl, hb5⟩
          have HB5 := Lib.hid hb5
          clear hb5
          go_wp2_with fail
          refine (HKNIL.out _).mono ?_
          rintro e w6 ⟨rfl, hw6⟩
          obtain rfl : w5 = w6 := hw6.symm
          clear hw6
          go_wp2_with fail
          refine (HKN.out _ HB5.out).mono ?_
          rintro e w6 ⟨rfl, hw6⟩
          obtain rfl : w5 = w6 := hw6.symm
          clear hw6
          have HZ5 := Lib.hid (HB4.out.trans (HB5.out.mono HB4.out.size))
          have HLW := Lib.hid (HLV.out _ HZ5.out)
          go_wp2_with fail
          refine HLW.out.mono ?_
          rintro e w7 ⟨rfl, hb7⟩
          have HZ := Lib.hid (HZ5.out.trans (hb7.mono HZ5.out.size))
          clear hb7
          go_wp2
          go_ret
          exact ⟨rfl, HZ.out⟩
        · have hk12 : ¬ (12 : Int) < (k : Int) := by simp at hno; omega
          have hs0 : ((str (rep8 [c] k)).size : Int) = 2 ^ k := by rw [size_str, rep8_len]; simp
          generalize str (rep8 [c] k) = sr at hs0 ⊢
          have hne : ¬ (str [c]).toList.isEmpty = true := by rw [ByteArray.toList_eq, toList_str]; simp
          have hsv : ((str [c]).size : Int) = 1 := by rw [size_str]; rfl
          generalize str [c] = sv at hne hsv ⊢
          have hpw : (2 : Int) ^ k ≤ 2 ^ 12 := by
            have : 2 ^ k ≤ 2 ^ 12 := Nat.pow_le_pow_right (by omega) (by omega)
            exact_mod_cast this
          have hpz : (0 : Int) ≤ 2 ^ k := by exact_mod_cast Nat.zero_le (2 ^ k)
          have hwp : IntKind.i64.wrap ((2 : Int) ^ k) = 2 ^ k := by rw [IntWalk.i64_in _ (by omega)]
          clear hno hv hpw hpz
          go_wp2_with fail
          refine HNIL.out.mono ?_
          rintro e w5 ⟨rfl, hb5⟩
          have HB5 := Lib.hid hb5
          clear hb5
          go_wp2_with fail
          refine (HKNIL.out _).mono ?_
          rintro e w6 ⟨rfl, hw6⟩
          obtain rfl : w5 = w6 := hw6.symm
          clear hw6
          go_wp2_with fail
          refine (HKN.out _ HB5.out).mono ?_
          rintro e w6 ⟨rfl, hw6⟩
          obtain rfl : w5 = w6 := hw6.symm
          clear hw6
          have HZ5 := Lib.hid (HB4.out.trans (HB5.out.mono HB4.out.size))
          have HLW := Lib.hid (HLV.out _ HZ5.out)
          go_wp2_with fail
          refine HLW.out.mono ?_
          rintro e w7 ⟨rfl, hb7⟩
          have HZ := Lib.hid (HZ5.out.trans (hb7.mono HZ5.out.size))
          clear hb7
          go_wp2
          go_ret
          exact ⟨rfl, HZ.out⟩
        · simp at hv

theorem laid_met_PropGreat (os : Os) : laidMet Try.prog Rows.propGreatRow.laid ((laidWorld #[.int .i64 0, .int .u8 0, .bool false] os).forCall (fun _ _ => 0) ⟨#[], #[.int .i64 0, .int .u8 0, .bool false], []⟩).memory :=
  laidMet_of_run' 8 (by kernel_rfl) (by kernel_rfl)
theorem reads_PropGreat (os : Os) {H : Type} (enc : TypeId × Value → H) : ∃ places, DataW.whole enc Try.prog ((laidWorld #[.int .i64 0, .int .u8 0, .bool false] os).forCall (fun _ _ => 0) ⟨#[], #[.int .i64 0, .int .u8 0, .bool false], []⟩).memory Try.f10.params.toList Rows.propGreatSpec.vars false (#[.int .i64 0, .int .u8 0, .bool false] : Array Value).toList 8 = some ([.lit (.int .i64 0), .lit (.int .u8 0), .lit (.bool false)], [], places) :=
  ⟨[], by kernel_rfl⟩
set_option maxRecDepth 100000 in
theorem lifted_PropGreat (os : Os) (started : os.Started) (H : Type) (enc : TypeId × Value → H) (F : Stop.Interp) :
    ReturnsInHanded {} Try.checked os 10 .any ((OpenSpec.ofChange Rows.propGreatSpec).preRow enc Try.prog Try.f10 Rows.propGreatRow.domain false Rows.propGreatRow.laid) (((OpenSpec.ofChange Rows.propGreatSpec).at F).post enc Try.prog Try.f10 false true false false) := by
  obtain ⟨places, hx⟩ := reads_PropGreat os enc
  refine returnsInHanded_of_row (C := Try.checked) (s := OpenSpec.ofChange Rows.propGreatSpec) own_knob started (by kernel_rfl) Try.func10
    (witness_row_at (enc := enc) (C := Try.checked) false (laidWorld #[.int .i64 0, .int .u8 0, .bool false] os) #[.int .i64 0, .int .u8 0, .bool false] rfl (by kernel_rfl) (by kernel_rfl) (by kernel_rfl)
      (OpenSpec.preRow_of_cond 8 hx (by kernel_rfl) (fun k hk => by cases hk) (by kernel_rfl) (laid_met_PropGreat os))) ?_
  intro W base args ds gs before hval0 hW _ _ _ _ hsh _
  have hval : ∀ (j : Nat) t v, Try.f10.params[j]? = some t → args[j]? = some v → Value.okWide Try.prog W .any base t v := hval0
  obtain ⟨m, hm⟩ := maxLen_cell W hsh
  have hW' := hW
  obtain ⟨p, q, hA0, hV, rfl, _, _⟩ := hW
  have hA : DataW.TrodAll enc Try.prog W 0 (fun _ => true) true Try.f10.params.toList args.toList ds p := hA0
  rw [Try.params10] at hA hval
  obtain ⟨v0, vs0, d0, ds0, p0, q0, hargs, rfl, rfl, h0, r0⟩ := trodAll_cons hA
  obtain ⟨v1, vs1, d1, ds1, p1, q1, rfl, rfl, rfl, h1, r1⟩ := trodAll_cons r0
  obtain ⟨v2, vs2, d2, ds2, p2, q2, rfl, rfl, rfl, h2, r2⟩ := trodAll_cons r1
  obtain ⟨rfl, rfl, rfl⟩ := trodAll_nil r2
  obtain rfl : args = #[v0, v1, v2] := by cases args; simp_all
  obtain ⟨rfl, rfl⟩ := trodVars_none hV
  obtain ⟨a0, rfl, rfl, rfl, w0⟩ := open_int Try.underlying3 (hval 0 3 v0 rfl rfl) h0
  obtain ⟨a1, rfl, rfl, rfl, w1⟩ := open_int Try.underlying5 (hval 1 5 v1 rfl rfl) h1
  obtain ⟨a2, rfl, rfl, rfl⟩ := open_bool Try.underlying4 (hval 2 4 v2 rfl rfl) h2
  clear hA0 hval0
  refine (walk_PropGreat W m hm a0 (wf_i64 w0) a1 (wf_u8 w1) a2).mono fun e W' ⟨he, hb⟩ => ?_
  subst he
  exact ⟨_, rfl, law_post (by kernel_rfl) rfl rfl rfl hW' hb⟩
/-- the statement of PropGreat -/
theorem proved_PropGreat : Rows.PropGreatSaid :=
  OpenClaim.holds_of_cond 10 Try.f10 rfl rfl rfl rfl rfl rfl rfl ⟨rfl, rfl, rfl, rfl, rfl⟩ rfl rfl rfl rfl rfl (by kernel_rfl) Try.func10 (by kernel_rfl)
    (of_decide_eq_true (by kernel_rfl)) (by unfold Func.isWrapper; first | (rw [if_pos (by decide +kernel)]; kernel_rfl) | (rw [if_neg (by decide +kernel)]; exact ⟨rfl, rfl⟩))
    (fun os started H enc _ F => by rw [OpenClaim.pre_eq_preRow]; exact lifted_PropGreat os started H enc F)
end Go.Proofs.Ythfholnnkdoagaa
