/-
  Layer 4: the card VersionCanon.
-/
import Derived.Test.YtmfknlmjpfiajaaDoorDoor
import Derived.Test.YtmfknlmjpfiajaaDoorLives4
import Derived.Test.YtmfknlmjpfiajaaDoorIds
import Derived.Test.YtmfknlmjpfiajaaDoorVerLen
namespace Go.Proofs.YtmfknlmjpfiajaaDoor
set_option linter.unusedVariables false
set_option linter.unusedSimpArgs false
open Go.ChangeShapes Go.WideShapes Go.ChangeAt Go.RowKit
open Go.ChangeMaps (open_string shut_string)

set_option maxHeartbeats 1000000 in
theorem refMayVer_big (s : ByteArray) (hs : s.size ≤ 9223372036854775807) (w : World) :
    Calls Tryd.prog 14 #[.string s] w fun e w' => e = .returned (.bool (mayVer s)) ∧ w' = w := by
  have hlen : s.data.toList.length = s.size := by simp
  have HL := Lib.hid hlen; clear hlen
  go_enter Tryd.func14, Tryd.ntmps14
  go_wp2
  go_loop [3] (fun i => ∃ k : Nat, k ≤ s.size ∧ i = .int .i64 k ∧ (s.data.toList.take k).all verB = true) (fun i => s.size - (intOf i).toNat)
  case atStart => exact ⟨0, Nat.zero_le _, rfl, rfl⟩
  case round =>
    obtain ⟨k, hk, rfl, ha⟩ := hrel
    have HA := Lib.hid ha; clear ha
    by_cases hlt : k < s.size
    · obtain ⟨c, hc⟩ : ∃ c, s.data.toList[k]? = some c := ⟨_, List.getElem?_eq_getElem (by simpa using hlt)⟩
      have hix := bidx s k c hc
      have HC := Lib.hid hc; clear hc
      rcases byte_cases c with ⟨hr, hi, hv⟩ | ⟨hr, hi, hv⟩ | ⟨hr, hi, hv⟩ | ⟨hr, hi, hv⟩ | ⟨hr, hi, hv⟩ | ⟨hr, hi, hv⟩ | ⟨hr, hi, hv⟩ | ⟨hr | hr | hr | hr | hr, hi, hv⟩
      all_goals first | have e46 : ((c.toNat : Int) == 46) = false := (by simp; omega) | have e46 : ((c.toNat : Int) == 46) = true := (by simp; omega)
      all_goals first | have e45 : ((c.toNat : Int) == 45) = false := (by simp; omega) | have e45 : ((c.toNat : Int) == 45) = true := (by simp; omega)
      all_goals first | have e95 : ((c.toNat : Int) == 95) = false := (by simp; omega) | have e95 : ((c.toNat : Int) == 95) = true := (by simp; omega)
      all_goals first | have e43 : ((c.toNat : Int) == 43) = false := (by simp; omega) | have e43 : ((c.toNat : Int) == 43) = true := (by simp; omega)
      all_goals first | have d57 : decide ((c.toNat : Int) ≤ 57) = false := (by simp; omega) | have d57 : decide ((c.toNat : Int) ≤ 57) = true := (by simp; omega)
      all_goals first | have d90 : decide ((c.toNat : Int) ≤ 90) = false := (by simp; omega) | have d90 : decide ((c.toNat : Int) ≤ 90) = true := (by simp; omega)
      all_goals first | have d122 : decide ((c.toNat : Int) ≤ 122) = false := (by simp; omega) | have d122 : decide ((c.toNat : Int) ≤ 122) = true := (by simp; omega)
      all_goals try have HI := Lib.hid hi
      all_goals try have HV := Lib.hid hv
      all_goals try clear hi hv
      all_goals go_wp2
      all_goals first
        | exact ⟨⟨k + 1, by omega, by go_num, all_take HC.out HV.out HA.out⟩, by simp [intOf]; omega⟩
        | (go_ret; exact ⟨ret_bool (mayVer_none (all_stop HC.out HV.out)).symm, rfl⟩)
    · have hks : k = s.size := by omega
      have HK := Lib.hid hks; clear hks
      go_wp2
      all_goals
        go_ret
        refine ⟨ret_bool ?_, rfl⟩
        have ha := HA.out
        rw [HK.out, List.take_of_length_le (by rw [HL.out]; exact Nat.le_refl _)] at ha
        unfold mayVer
        rw [ha]
        rw [Bool.eq_iff_iff]
        simp
        try omega

theorem size_le (s : ByteArray) : s.data.toList.length = s.size := by simp
set_option maxHeartbeats 4000000 in
theorem walk_VersionCanon (s : ByteArray) (hs : s.size ≤ 9223372036854775807) (w : World) :
    Calls Tryd.prog 8 #[.string s] w fun e w' => e = .returned (.bool true) ∧ Below w.heap.size w w' := by
  have m1 := fun w => refMayVer_big s hs w
  cases hmv : mayVer s
  · rw [hmv] at m1
    have M1 := Lib.hid m1
    clear m1 hs hmv
    go_enter Tryd.func8, Tryd.ntmps8
    go_wp2_with fail
    refine (M1.out _).mono ?_
    rintro e w1 ⟨rfl, rfl⟩
    go_wp2_with fail
    refine (lives04 _).mono ?_
    rintro e w2 ⟨rfl, hb⟩
    go_wp2
    go_ret
    exact ⟨rfl, hb⟩
  · rw [hmv] at m1
    have hsz : s.size ≤ 64 := by
      unfold mayVer at hmv
      simp only [Bool.and_eq_true, decide_eq_true_eq] at hmv
      exact hmv.1.2
    have hl := canon_len s.data.toList
    rw [size_le] at hl
    obtain ⟨t, ht⟩ : ∃ t, t = str (canonB s.data.toList) := ⟨_, rfl⟩
    have htl : t.data.toList = canonB s.data.toList := by rw [ht]; rfl
    have hts : t.size ≤ 1000 := by rw [ht, size_str]; omega
    have n1 := fun w => Canon_any s (by omega) w
    rw [← ht] at n1
    have c1 := fun w => Compare_any s t (by omega) (by omega) w
    rw [htl, canon_same] at c1
    have hl2 := canon_len t.data.toList
    rw [size_le] at hl2
    obtain ⟨u, hu⟩ : ∃ u, u = str (canonB t.data.toList) := ⟨_, rfl⟩
    have hul : u.data.toList = canonB t.data.toList := by rw [hu]; rfl
    have hus : u.size ≤ 100000 := by rw [hu, size_str]; omega
    have n2 := fun w => Canon_any t hts w
    rw [← hu] at n2
    have c2 := fun w => Compare_any u t hus (by omega) w
    rw [hul, show cmpB (canonB t.data.toList) t.data.toList = 0 by rw [cmpB_ord.neg t.data.toList, canon_same]; rfl] at c2
    have M1 := Lib.hid m1
    have N1 := Lib.hid n1
    have N2 := Lib.hid n2
    have C1 := Lib.hid c1
    have C2 := Lib.hid c2
    clear m1 n1 n2 c1 c2 hs hmv hsz hl ht htl hts hl2 hu hul hus
    go_enter Tryd.func8, Tryd.ntmps8
    go_wp2_with fail
    refine (M1.out _).mono ?_
    rintro e w1 ⟨rfl, rfl⟩
    go_wp2_with fail
    refine (N1.out _).mono ?_
    rintro e w2 ⟨rfl, hb1⟩
    go_wp2_with fail
    refine (C1.out _).mono ?_
    rintro e w3 ⟨rfl, hb2⟩
    go_wp2_with fail
    refine (N2.out _).mono ?_
    rintro e w4 ⟨rfl, hb3⟩
    go_wp2_with fail
    refine (C2.out _).mono ?_
    rintro e w5 ⟨rfl, hb4⟩
    go_wp2_with fail
    refine (lives04 _).mono ?_
    rintro e w6 ⟨rfl, hb5⟩
    have z1 := hb1.size
    have z2 := hb2.size
    have z3 := hb3.size
    have z4 := hb4.size
    go_wp2
    go_ret
    exact ⟨rfl, (((hb1.trans (hb2.mono z1)).trans (hb3.mono (by omega))).trans (hb4.mono (by omega))).trans (hb5.mono (by omega))⟩

theorem laid_met_VersionCanon (os : Os) : laidMet Tryd.prog Rows.versionCanonRow.laid ((laidWorld #[.string .empty] os).forCall (fun _ _ => 0) ⟨#[], #[.string .empty], []⟩).memory :=
  laidMet_of_run' 8 (by kernel_rfl) (by kernel_rfl)
theorem reads_VersionCanon (os : Os) {H : Type} (enc : TypeId × Value → H) : ∃ places, DataW.whole enc Tryd.prog ((laidWorld #[.string .empty] os).forCall (fun _ _ => 0) ⟨#[], #[.string .empty], []⟩).memory Tryd.f8.params.toList Rows.versionCanonSpec.vars false (#[.string .empty] : Array Value).toList 8 = some ([.lit (.string [])], [], places) :=
  ⟨[], by kernel_rfl⟩
set_option maxRecDepth 100000 in
theorem lifted_VersionCanon (os : Os) (started : os.Started) (H : Type) (enc : TypeId × Value → H) (F : Stop.Interp) :
    ReturnsInHanded {} Tryd.checked os 8 .any ((OpenSpec.ofChange Rows.versionCanonSpec).preRow enc Tryd.prog Tryd.f8 Rows.versionCanonRow.domain false Rows.versionCanonRow.laid) (((OpenSpec.ofChange Rows.versionCanonSpec).at F).post enc Tryd.prog Tryd.f8 false true false false) := by
  obtain ⟨places, hx⟩ := reads_VersionCanon os enc
  refine returnsInHanded_of_row (C := Tryd.checked) (s := OpenSpec.ofChange Rows.versionCanonSpec) own_knob started (by kernel_rfl) Tryd.func8
    (witness_row_at (enc := enc) (C := Tryd.checked) false (laidWorld #[.string .empty] os) #[.string .empty] rfl (by kernel_rfl) (by kernel_rfl) (by kernel_rfl)
      (OpenSpec.preRow_of_cond 8 hx (by kernel_rfl) (fun k hk => by cases hk) (by kernel_rfl) (laid_met_VersionCanon os))) ?_
  intro W base args ds gs before hval0 hW _ _ _ _ hsh _
  have hval : ∀ (j : Nat) t v, Tryd.f8.params[j]? = some t → args[j]? = some v → Value.okWide Tryd.prog W .any base t v := hval0
  have hW' := hW
  obtain ⟨p, q, hA0, hV, rfl, _, _⟩ := hW
  have hA : DataW.TrodAll enc Tryd.prog W 0 (fun _ => true) true Tryd.f8.params.toList args.toList ds p := hA0
  rw [Tryd.params8] at hA hval
  obtain ⟨v0, vs0, d0, ds0, p0, q0, hargs, rfl, rfl, h0, r0⟩ := trodAll_cons hA
  obtain ⟨rfl, rfl, rfl⟩ := trodAll_nil r0
  obtain rfl : args = #[v0] := by cases args; simp_all
  obtain ⟨rfl, rfl⟩ := trodVars_none hV
  obtain ⟨a0, rfl, rfl, rfl, w0⟩ := open_string Tryd.underlying9 (hval 0 9 v0 rfl rfl) h0
  clear hA0 hval0
  refine (walk_VersionCanon a0 (by unfold maxLen at w0; exact w0) W).mono fun e W' ⟨he, hb⟩ => ?_
  subst he
  exact ⟨_, rfl, law_post (by kernel_rfl) rfl rfl rfl hW' hb⟩
theorem said_VersionCanon : Rows.VersionCanonSaid :=
  OpenClaim.holds_of_cond 8 Tryd.f8 rfl rfl rfl rfl rfl rfl rfl ⟨rfl, rfl, rfl, rfl, rfl⟩ rfl rfl rfl rfl rfl (by kernel_rfl) Tryd.func8 (by kernel_rfl)
    (of_decide_eq_true (by kernel_rfl)) (by unfold Func.isWrapper; first | (rw [if_pos (by decide +kernel)]; kernel_rfl) | (rw [if_neg (by decide +kernel)]; exact ⟨rfl, rfl⟩))
    (fun os started H enc _ F => by rw [OpenClaim.pre_eq_preRow]; exact lifted_VersionCanon os started H enc F)
theorem plain_VersionCanon (f : FuncId) (fn : Func) (hf : Tryd.pinned.checked.prog.funcNamed "pomace/pomacelaw04.VersionCanon" = some f) (hfn : Tryd.pinned.checked.prog.funcs[f]? = some fn) :
    false = Tryd.pinned.checked.prog.looks [] ∧ ∀ (j : Nat) t, fn.params[j]? = some t → Tryd.pinned.checked.prog.wantsStandIn t = false := by
  obtain rfl : f = 8 := Option.some.inj ((show Tryd.prog.funcNamed "pomace/pomacelaw04.VersionCanon" = some 8 by kernel_rfl).symm.trans hf) |>.symm
  obtain rfl : fn = Tryd.f8 := (Option.some.inj (Tryd.func8.symm.trans hfn)).symm
  refine ⟨by kernel_rfl, fun j t ht => ?_⟩
  rw [Tryd.params8] at ht
  have h := Array.mem_of_getElem? ht
  simp only [List.mem_toArray, List.mem_cons, List.not_mem_nil, or_false] at h
  rcases h with rfl
  all_goals first
    | exact (show Tryd.prog.wantsStandIn 9 = false by kernel_rfl)

/-- the statement of VersionCanon: its card -/
theorem proved_VersionCanon : Rows.VersionCanonCardSaid :=
  Claim7.holds_tied_plain_at .later [] _ _ _ _ said_VersionCanon (fun _ h => by cases h) (by kernel_rfl) (fun _ h => by cases h) versionCanon_row_tie rfl ⟨rfl, rfl⟩ (by kernel_rfl) rfl plain_VersionCanon (by kernel_rfl)

end Go.Proofs.YtmfknlmjpfiajaaDoor
