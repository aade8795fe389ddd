/-
  Layer 4: the cards VersionParts, VersionCompares: for every text the program's parts, their text and their order are the answer's. Conditions: none.
-/
import Derived.Test.YtmfknlmjpfiajaaDoorDoor
import Derived.Test.YtmfknlmjpfiajaaDoorLives4
import Derived.Test.YtmfknlmjpfiajaaDoorRefCan4
import Derived.Test.YtmfknlmjpfiajaaDoorRefVer4
namespace Go.Proofs.YtmfknlmjpfiajaaDoor
set_option linter.unusedVariables false
set_option linter.unusedSimpArgs false
open Go.ChangeShapes Go.WideShapes Go.ChangeAt Go.RowKit
open Go.ChangeMaps (open_string shut_string)

/-- the cut of a text to 300 bytes -/
theorem cutE_any (s : ByteArray) (hs : s.size ≤ 9223372036854775807) (w : World) :
    Calls Tryd.prog 12 #[.string s] w fun e w' => ∃ t : ByteArray, e = .returned (.string t) ∧ t.size ≤ 300 ∧ w' = w := by
  by_cases h : 300 < s.size
  · have h1 : (300 : Int) < s.size := by omega
    go_enter Tryd.func12, Tryd.ntmps12
    go_wp2
    go_ret
    exact ⟨s.extract 0 300, rfl, by rw [ext_str, size_str]; simp; omega, rfl⟩
  · have h1 : (s.size : Int) ≤ 300 := by omega
    go_enter Tryd.func12, Tryd.ntmps12
    go_wp2
    go_ret
    exact ⟨s, rfl, by omega, rfl⟩

set_option maxHeartbeats 4000000 in
theorem walk_VersionCompares (a : ByteArray) (ha : a.size ≤ 9223372036854775807) (b : ByteArray) (hb : b.size ≤ 9223372036854775807) (w : World) :
    Calls Tryd.prog 5 #[.string a, .string b] w fun e w' => e = .returned (.bool true) ∧ Below w.heap.size w w' := by
  have H1 := Lib.hid (cutE_any a ha w)
  have H2 := Lib.hid (cutE_any b hb w)
  clear ha hb
  go_enter Tryd.func5, Tryd.ntmps5
  go_wp2_with fail
  refine (H1.out).mono ?_
  rintro e w1 ⟨s, rfl, hs, rfl⟩
  go_wp2_with fail
  refine (H2.out).mono ?_
  rintro e w2 ⟨t, rfl, ht, rfl⟩
  have c1 := fun w => Compare_any s t (by omega) (by omega) w
  have c2 := fun w => refCompare_any s t (by omega) (by omega) w
  generalize cmpB s.data.toList t.data.toList = x at *
  have C1 := Lib.hid c1
  have C2 := Lib.hid c2
  clear c1 c2
  go_wp2_with fail
  refine (C1.out _).mono ?_
  rintro e w3 ⟨rfl, hb1⟩
  go_wp2_with fail
  refine (C2.out _).mono ?_
  rintro e w4 ⟨rfl, hb2⟩
  go_wp2_with fail
  refine (lives04 _).mono ?_
  rintro e w5 ⟨rfl, hb3⟩
  have z1 := hb1.size
  have z2 := hb2.size
  go_wp2
  go_ret
  exact ⟨rfl, (hb1.trans (hb2.mono z1)).trans (hb3.mono (by omega))⟩

set_option maxHeartbeats 4000000 in
set_option maxRecDepth 100000 in
theorem walk_VersionParts (a : ByteArray) (ha : a.size ≤ 9223372036854775807) (w : World) :
    Calls Tryd.prog 4 #[.string a] w fun e w' => e = .returned (.bool true) ∧ Below w.heap.size w w' := by
  have H1 := Lib.hid (cutE_any a ha w)
  clear ha
  go_enter Tryd.func4, Tryd.ntmps4
  go_wp2_with fail
  refine (H1.out).mono ?_
  rintro e w1 ⟨s, rfl, hs, rfl⟩
  have P1 := Lib.hid (fun w => Parts_any s (by omega) w)
  have P2 := Lib.hid (fun w => refParts_any s (by omega) w)
  have K1 := Lib.hid (fun w => Canon_any s (by omega) w)
  have K2 := Lib.hid (fun w => refCanon_any s (by omega) w)
  have hln := partsB_len s.data.toList
  have h1 : s.data.toList.length = s.size := by simp
  rw [h1] at hln
  clear h1
  generalize canonB s.data.toList = cn at *
  generalize partsB s.data.toList = l at *
  go_wp2_with fail
  refine (P1.out _).mono ?_
  rintro e w2 ⟨u1, rfl, hr1, hb1, _⟩
  go_wp2_with fail
  refine (P2.out _).mono ?_
  rintro e w3 ⟨u2, rfl, hr2, hb2⟩
  have hr1 := hr1.below hb2 (Nat.le_refl _)
  have hbw := hb1.trans (hb2.mono hb1.size)
  obtain ⟨pa, ca, rfl, hac, _, hca⟩ := hr1
  obtain ⟨pb, cb, rfl, hbc, _, hcb⟩ := hr2
  have HA := Lib.hid hca
  have HB := Lib.hid hcb
  have HBW := Lib.hid hbw
  have hz1 := hbw.size
  clear hca hcb hbw hb1 hb2
  go_wp2
  go_loopw [20] (fun i wr => ∃ k : Nat, k ≤ l.length ∧ i = .int .i64 k ∧ Below w1.heap.size w1 wr ∧ Below w3.heap.size w3 wr) (fun i _ => l.length - (intOf i).toNat)
  case atStart => exact ⟨0, Nat.zero_le _, rfl, HBW.out, Below.refl _ _⟩
  case round =>
    obtain ⟨k, hk, rfl, hbel, hbel2⟩ := hrel
    have hz := hbel.size
    have hz2 := hbel2.size
    by_cases hlt : k < l.length
    · obtain ⟨p, hpk⟩ : ∃ p, l[k]? = some p := ⟨_, List.getElem?_eq_getElem hlt⟩
      obtain ⟨bp, op, rfl, hbltp, p0, p1, p2⟩ := HA.out k p hpk
      obtain ⟨bq, oq, rfl, hbltq, q0, q1, q2⟩ := HB.out k p hpk
      have p0 := (hbel2.cell (p := ⟨bp, op + k * 3, none⟩) hbltp).trans p0
      have p1 := (hbel2.cell (p := ⟨bp, op + k * 3 + 1, none⟩) hbltp).trans p1
      have p2 := (hbel2.cell (p := ⟨bp, op + k * 3 + 2, none⟩) hbltp).trans p2
      have q0 := (hbel2.cell (p := ⟨bq, oq + k * 3, none⟩) hbltq).trans q0
      have q1 := (hbel2.cell (p := ⟨bq, oq + k * 3 + 1, none⟩) hbltq).trans q1
      have q2 := (hbel2.cell (p := ⟨bq, oq + k * 3 + 2, none⟩) hbltq).trans q2
      have hbp : bp < wr.heap.size := by omega
      have hbq : bq < wr.heap.size := by omega
      have hkI : (k : Int) < l.length := by omega
      clear hpk
      obtain ⟨hy, nu, tx⟩ := p
      simp only at p0 p1 p2 q0 q1 q2
      generalize str tx = xt at *
      cases hy <;> cases nu
      all_goals
        go_wp2
        go_quiet (fail)
        go_wp2
        exact ⟨⟨k + 1, by omega, by simp, by first | exact below_drewN (hbel.alloc hz _) _ | exact (hbel.alloc hz _).drew, by first | exact below_drewN (hbel2.alloc hz2 _) _ | exact (hbel2.alloc hz2 _).drew⟩, by simp [intOf]; omega⟩
    · have hkI : (l.length : Int) ≤ k := by omega
      clear HBW hbel2 hz2
      go_wp2_with fail
      refine (K1.out _).mono ?_
      rintro e w4 ⟨rfl, hb4⟩
      go_wp2_with fail
      refine (K2.out _).mono ?_
      rintro e w5 ⟨rfl, hb5⟩
      go_wp2_with fail
      refine (lives04 _).mono ?_
      rintro e w6 ⟨rfl, hb6⟩
      have z4 := hb4.size
      have z5 := hb5.size
      go_wp2
      go_ret
      exact ⟨rfl, ((hbel.trans (hb4.mono hz)).trans (hb5.mono (by omega))).trans (hb6.mono (by omega))⟩

theorem laid_met_VersionParts (os : Os) : laidMet Tryd.prog Rows.versionPartsRow.laid ((laidWorld #[.string .empty] os).forCall (fun _ _ => 0) ⟨#[], #[.string .empty], []⟩).memory :=
  laidMet_of_run' 8 (by kernel_rfl) (by kernel_rfl)
theorem reads_VersionParts (os : Os) {H : Type} (enc : TypeId × Value → H) : ∃ places, DataW.whole enc Tryd.prog ((laidWorld #[.string .empty] os).forCall (fun _ _ => 0) ⟨#[], #[.string .empty], []⟩).memory Tryd.f4.params.toList Rows.versionPartsSpec.vars false (#[.string .empty] : Array Value).toList 8 = some ([.lit (.string [])], [], places) :=
  ⟨[], by kernel_rfl⟩
set_option maxRecDepth 100000 in
theorem lifted_VersionParts (os : Os) (started : os.Started) (H : Type) (enc : TypeId × Value → H) (F : Stop.Interp) :
    ReturnsInHanded {} Tryd.checked os 4 .any ((OpenSpec.ofChange Rows.versionPartsSpec).preRow enc Tryd.prog Tryd.f4 Rows.versionPartsRow.domain false Rows.versionPartsRow.laid) (((OpenSpec.ofChange Rows.versionPartsSpec).at F).post enc Tryd.prog Tryd.f4 false true false false) := by
  obtain ⟨places, hx⟩ := reads_VersionParts os enc
  refine returnsInHanded_of_row (C := Tryd.checked) (s := OpenSpec.ofChange Rows.versionPartsSpec) own_knob started (by kernel_rfl) Tryd.func4
    (witness_row_at (enc := enc) (C := Tryd.checked) false (laidWorld #[.string .empty] os) #[.string .empty] rfl (by kernel_rfl) (by kernel_rfl) (by kernel_rfl)
      (OpenSpec.preRow_of_cond 8 hx (by kernel_rfl) (fun k hk => by cases hk) (by kernel_rfl) (laid_met_VersionParts os))) ?_
  intro W base args ds gs before hval0 hW _ _ _ _ hsh _
  have hval : ∀ (j : Nat) t v, Tryd.f4.params[j]? = some t → args[j]? = some v → Value.okWide Tryd.prog W .any base t v := hval0
  have hW' := hW
  obtain ⟨p, q, hA0, hV, rfl, _, _⟩ := hW
  have hA : DataW.TrodAll enc Tryd.prog W 0 (fun _ => true) true Tryd.f4.params.toList args.toList ds p := hA0
  rw [Tryd.params4] at hA hval
  obtain ⟨v0, vs0, d0, ds0, p0, q0, hargs, rfl, rfl, h0, r0⟩ := trodAll_cons hA
  obtain ⟨rfl, rfl, rfl⟩ := trodAll_nil r0
  obtain rfl : args = #[v0] := by cases args; simp_all
  obtain ⟨rfl, rfl⟩ := trodVars_none hV
  obtain ⟨a0, rfl, rfl, rfl, w0⟩ := open_string Tryd.underlying9 (hval 0 9 v0 rfl rfl) h0
  clear hA0 hval0
  refine (walk_VersionParts a0 (by unfold maxLen at w0; exact w0) W).mono fun e W' ⟨he, hb⟩ => ?_
  subst he
  exact ⟨_, rfl, law_post (by kernel_rfl) rfl rfl rfl hW' hb⟩
theorem said_VersionParts : Rows.VersionPartsSaid :=
  OpenClaim.holds_of_cond 4 Tryd.f4 rfl rfl rfl rfl rfl rfl rfl ⟨rfl, rfl, rfl, rfl, rfl⟩ rfl rfl rfl rfl rfl (by kernel_rfl) Tryd.func4 (by kernel_rfl)
    (of_decide_eq_true (by kernel_rfl)) (by unfold Func.isWrapper; first | (rw [if_pos (by decide +kernel)]; kernel_rfl) | (rw [if_neg (by decide +kernel)]; exact ⟨rfl, rfl⟩))
    (fun os started H enc _ F => by rw [OpenClaim.pre_eq_preRow]; exact lifted_VersionParts os started H enc F)
theorem plain_VersionParts (f : FuncId) (fn : Func) (hf : Tryd.pinned.checked.prog.funcNamed "pomace/pomacelaw04.VersionParts" = some f) (hfn : Tryd.pinned.checked.prog.funcs[f]? = some fn) :
    false = Tryd.pinned.checked.prog.looks [] ∧ ∀ (j : Nat) t, fn.params[j]? = some t → Tryd.pinned.checked.prog.wantsStandIn t = false := by
  obtain rfl : f = 4 := Option.some.inj ((show Tryd.prog.funcNamed "pomace/pomacelaw04.VersionParts" = some 4 by kernel_rfl).symm.trans hf) |>.symm
  obtain rfl : fn = Tryd.f4 := (Option.some.inj (Tryd.func4.symm.trans hfn)).symm
  refine ⟨by kernel_rfl, fun j t ht => ?_⟩
  rw [Tryd.params4] at ht
  have h := Array.mem_of_getElem? ht
  simp only [List.mem_toArray, List.mem_cons, List.not_mem_nil, or_false] at h
  rcases h with rfl
  all_goals first
    | exact (show Tryd.prog.wantsStandIn 9 = false by kernel_rfl)

/-- the statement of VersionParts: its card -/
theorem proved_VersionParts : Rows.VersionPartsCardSaid :=
  Claim7.holds_tied_plain_at .later [] _ _ _ _ said_VersionParts (fun _ h => by cases h) (by kernel_rfl) (fun _ h => by cases h) versionParts_row_tie rfl ⟨rfl, rfl⟩ (by kernel_rfl) rfl plain_VersionParts (by kernel_rfl)

theorem laid_met_VersionCompares (os : Os) : laidMet Tryd.prog Rows.versionComparesRow.laid ((laidWorld #[.string .empty, .string .empty] os).forCall (fun _ _ => 0) ⟨#[], #[.string .empty, .string .empty], []⟩).memory :=
  laidMet_of_run' 8 (by kernel_rfl) (by kernel_rfl)
theorem reads_VersionCompares (os : Os) {H : Type} (enc : TypeId × Value → H) : ∃ places, DataW.whole enc Tryd.prog ((laidWorld #[.string .empty, .string .empty] os).forCall (fun _ _ => 0) ⟨#[], #[.string .empty, .string .empty], []⟩).memory Tryd.f5.params.toList Rows.versionComparesSpec.vars false (#[.string .empty, .string .empty] : Array Value).toList 8 = some ([.lit (.string []), .lit (.string [])], [], places) :=
  ⟨[], by kernel_rfl⟩
set_option maxRecDepth 100000 in
theorem lifted_VersionCompares (os : Os) (started : os.Started) (H : Type) (enc : TypeId × Value → H) (F : Stop.Interp) :
    ReturnsInHanded {} Tryd.checked os 5 .any ((OpenSpec.ofChange Rows.versionComparesSpec).preRow enc Tryd.prog Tryd.f5 Rows.versionComparesRow.domain false Rows.versionComparesRow.laid) (((OpenSpec.ofChange Rows.versionComparesSpec).at F).post enc Tryd.prog Tryd.f5 false true false false) := by
  obtain ⟨places, hx⟩ := reads_VersionCompares os enc
  refine returnsInHanded_of_row (C := Tryd.checked) (s := OpenSpec.ofChange Rows.versionComparesSpec) own_knob started (by kernel_rfl) Tryd.func5
    (witness_row_at (enc := enc) (C := Tryd.checked) false (laidWorld #[.string .empty, .string .empty] os) #[.string .empty, .string .empty] rfl (by kernel_rfl) (by kernel_rfl) (by kernel_rfl)
      (OpenSpec.preRow_of_cond 8 hx (by kernel_rfl) (fun k hk => by cases hk) (by kernel_rfl) (laid_met_VersionCompares os))) ?_
  intro W base args ds gs before hval0 hW _ _ _ _ hsh _
  have hval : ∀ (j : Nat) t v, Tryd.f5.params[j]? = some t → args[j]? = some v → Value.okWide Tryd.prog W .any base t v := hval0
  have hW' := hW
  obtain ⟨p, q, hA0, hV, rfl, _, _⟩ := hW
  have hA : DataW.TrodAll enc Tryd.prog W 0 (fun _ => true) true Tryd.f5.params.toList args.toList ds p := hA0
  rw [Tryd.params5] at hA hval
  obtain ⟨v0, vs0, d0, ds0, p0, q0, hargs, rfl, rfl, h0, r0⟩ := trodAll_cons hA
  obtain ⟨v1, vs1, d1, ds1, p1, q1, rfl, rfl, rfl, h1, r1⟩ := trodAll_cons r0
  obtain ⟨rfl, rfl, rfl⟩ := trodAll_nil r1
  obtain rfl : args = #[v0, v1] := by cases args; simp_all
  obtain ⟨rfl, rfl⟩ := trodVars_none hV
  obtain ⟨a0, rfl, rfl, rfl, w0⟩ := open_string Tryd.underlying9 (hval 0 9 v0 rfl rfl) h0
  obtain ⟨a1, rfl, rfl, rfl, w1⟩ := open_string Tryd.underlying9 (hval 1 9 v1 rfl rfl) h1
  clear hA0 hval0
  refine (walk_VersionCompares a0 (by unfold maxLen at w0; exact w0) a1 (by unfold maxLen at w1; exact w1) W).mono fun e W' ⟨he, hb⟩ => ?_
  subst he
  exact ⟨_, rfl, law_post (by kernel_rfl) rfl rfl rfl hW' hb⟩
theorem said_VersionCompares : Rows.VersionComparesSaid :=
  OpenClaim.holds_of_cond 5 Tryd.f5 rfl rfl rfl rfl rfl rfl rfl ⟨rfl, rfl, rfl, rfl, rfl⟩ rfl rfl rfl rfl rfl (by kernel_rfl) Tryd.func5 (by kernel_rfl)
    (of_decide_eq_true (by kernel_rfl)) (by unfold Func.isWrapper; first | (rw [if_pos (by decide +kernel)]; kernel_rfl) | (rw [if_neg (by decide +kernel)]; exact ⟨rfl, rfl⟩))
    (fun os started H enc _ F => by rw [OpenClaim.pre_eq_preRow]; exact lifted_VersionCompares os started H enc F)
theorem plain_VersionCompares (f : FuncId) (fn : Func) (hf : Tryd.pinned.checked.prog.funcNamed "pomace/pomacelaw04.VersionCompares" = some f) (hfn : Tryd.pinned.checked.prog.funcs[f]? = some fn) :
    false = Tryd.pinned.checked.prog.looks [] ∧ ∀ (j : Nat) t, fn.params[j]? = some t → Tryd.pinned.checked.prog.wantsStandIn t = false := by
  obtain rfl : f = 5 := Option.some.inj ((show Tryd.prog.funcNamed "pomace/pomacelaw04.VersionCompares" = some 5 by kernel_rfl).symm.trans hf) |>.symm
  obtain rfl : fn = Tryd.f5 := (Option.some.inj (Tryd.func5.symm.trans hfn)).symm
  refine ⟨by kernel_rfl, fun j t ht => ?_⟩
  rw [Tryd.params5] at ht
  have h := Array.mem_of_getElem? ht
  simp only [List.mem_toArray, List.mem_cons, List.not_mem_nil, or_false] at h
  rcases h with rfl | rfl
  all_goals first
    | exact (show Tryd.prog.wantsStandIn 9 = false by kernel_rfl)

/-- the statement of VersionCompares: its card -/
theorem proved_VersionCompares : Rows.VersionComparesCardSaid :=
  Claim7.holds_tied_plain_at .later [] _ _ _ _ said_VersionCompares (fun _ h => by cases h) (by kernel_rfl) (fun _ h => by cases h) versionCompares_row_tie rfl ⟨rfl, rfl⟩ (by kernel_rfl) rfl plain_VersionCompares (by kernel_rfl)

end Go.Proofs.YtmfknlmjpfiajaaDoor
