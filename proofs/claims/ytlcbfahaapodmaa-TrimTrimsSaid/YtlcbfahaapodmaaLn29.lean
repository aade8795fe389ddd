/-
  Layer 29: empty and lone. Own work.
-/
import Derived.Test.YtlcbfahaapodmaaGd29
namespace Go.Proofs.Ytlcbfahaapodmaa
set_option linter.unusedVariables false
set_option linter.unusedSimpArgs false
open Go.RowKit

/-- step 5's literal, by the counts -/
def loneW (S : Ws) : Option Int :=
  ((List.range S.vars).find? fun v => decide (S.cn (posN S.vars (v + 1 : Nat)) > 0) != decide (S.cn (posN S.vars (-((v + 1 : Nat) : Int))) > 0)).map fun v =>
    if S.cn (posN S.vars (v + 1 : Nat)) > 0 then ((v + 1 : Nat) : Int) else -((v + 1 : Nat) : Int)
def loneS (S : Ws) : Ws := match loneW S with
  | some n => fixS S n
  | none => S
def loneAt (S : Ws) (v : Nat) : Bool := decide (S.cn (posN S.vars (v + 1 : Nat)) > 0) != decide (S.cn (posN S.vars (-((v + 1 : Nat) : Int))) > 0)
theorem loneW_hit {S : Ws} {v : Nat} (hv : v < S.vars) (h : loneAt S v = true) (hno : ∀ j, j < v → loneAt S j = false) :
    loneW S = some (if S.cn (posN S.vars (v + 1 : Nat)) > 0 then ((v + 1 : Nat) : Int) else -((v + 1 : Nat) : Int)) := by
  unfold loneW
  have : ((List.range S.vars).find? fun v => decide (S.cn (posN S.vars (v + 1 : Nat)) > 0) != decide (S.cn (posN S.vars (-((v + 1 : Nat) : Int))) > 0)) = some v := by
    rw [List.find?_range_eq_some]
    refine ⟨h, List.mem_range.2 hv, fun j hj => ?_⟩
    have := hno j hj
    unfold loneAt at this
    rw [this]; rfl
  rw [this]; rfl
theorem loneW_no {S : Ws} (hno : ∀ j, j < S.vars → loneAt S j = false) : loneW S = none := by
  unfold loneW
  rw [Option.map_eq_none_iff, List.find?_eq_none]
  intro j hj
  have := hno j (List.mem_range.1 hj)
  unfold loneAt at this
  rw [this]; simp
def emptyS (S : Ws) : Ws := { S with en := (firstW S 0).isSome }
section
variable {w : World} {n0 : Nat} {M : Wm} {S : Ws} {ex : Tw → Prop}
set_option maxHeartbeats 4000000 in
set_option maxRecDepth 100000 in
theorem empty29_any (h : KW w n0 M S noW) (hgd : Gd S) :
    Calls Try.prog 25 #[.pointer (some ⟨M.K, 0, none⟩)] w fun e w' => e = .returned (.bool (firstW S 0).isSome) ∧ KW w' n0 M (emptyS S) noW ∧ FrW M M fixT w w' := by
  have hno : ∀ t, ¬ noW t := fun t h => h
  have hll : S.L.length ≤ 1000000 := Nat.le_trans (size_len _) hgd.size
  have HF := Lib.hid (first29_any h (hno _) (hno _) (hno _) (fun _ => hno _) 0 (by omega) hgd.gl hll)
  have hfr := h.froz (hno _) 4
  have hc4 := h.cEn (hno _)
  have hk : KW (w.setCell ⟨M.K, 4, none⟩ (.bool (firstW S 0).isSome)) n0 M (emptyS S) noW := h.setTop (hno _) 4 _ (fun e => e) rfl (fun s hs _ => by cases s <;> rfl)
  have HK := Lib.hid hk
  have HFR := Lib.hid (show FrW M M fixT w (w.setCell ⟨M.K, 4, none⟩ (.bool (firstW S 0).isSome)) from FrW.put w M _ _ (Or.inl h.tK))
  have hc2 : (w.setCell ⟨M.K, 4, none⟩ (.bool (firstW S 0).isSome)).cell? ⟨M.K, 4, none⟩ = some (.bool (firstW S 0).isSome) := hk.cEn (hno _)
  clear h hgd hll hk
  generalize firstW S 0 = o at HF HK HFR hc2 ⊢
  obtain ⟨b, hb⟩ : ∃ b, o.isSome = b := ⟨_, rfl⟩
  rw [hb] at HF HK HFR hc2 ⊢
  clear hb
  go_enter Try.func25, Try.ntmps25
  go_wp2_with fail
  refine HF.out.mono ?_
  rintro e w1 ⟨rfl, hw⟩
  obtain rfl : w = w1 := hw.symm
  go_wp2
  go_ret
  exact ⟨rfl, HK.out, HFR.out⟩
set_option maxHeartbeats 4000000 in
set_option maxRecDepth 100000 in
theorem lone29_any (h : KW w n0 M S noW) (hgd : Gd S) (hst : ∀ a, ∀ k ∈ S.st a, k < S.L.length) (hsl : ∀ a, (S.st a).length ≤ 1000000) (hfx : S.fx.length ≤ 1000000) :
    Calls Try.prog 27 #[.pointer (some ⟨M.K, 0, none⟩)] w fun e w' => e = .returned (.bool (loneW S).isSome) ∧ ∃ M', KW w' n0 M' (loneS S) noW ∧ FrW M M' fixT w w' := by
  have hno : ∀ t, ¬ noW t := fun t h => h
  have HK := Lib.hid h
  have HG := Lib.hid hgd
  have HST := Lib.hid hst
  have HSL := Lib.hid hsl
  have hvv := hgd.vars
  clear h hgd hst hsl
  go_enter Try.func27, Try.ntmps27
  go_wp2_with fail
  go_loopw [3] (fun q wr => ∃ k m : Nat, k ≤ S.vars ∧ q = .int .i64 ((k : Int) + 1) ∧ wr = w.drewN m ∧ ∀ j, j < k → loneAt S j = false) (fun q _ => S.vars + 1 - (intOf q).toNat)
  case atStart => exact ⟨0, 0, by omega, rfl, rfl, fun j hj => by omega⟩
  case round =>
    obtain ⟨k, m, hk, rfl, rfl, hnl⟩ := hrel
    have HNL := Lib.hid hnl
    clear hnl
    have hkw := HK.out.drewN m
    have hcv := hkw.cVars (hno _)
    have hcc := hkw.cCnt (hno _)
    have HKW := Lib.hid hkw
    clear hkw
    generalize hW1 : w.drewN m = W1 at hcv hcc HKW
    have HW1 := Lib.hid hW1
    clear hW1
    by_cases hlt : k < S.vars
    · have hltI : (k : Int) + 1 ≤ (S.vars : Int) := by omega
      obtain ⟨a1, ha1⟩ : ∃ a1 : Nat, ((k : Int) + 1) + (S.vars : Int) = (a1 : Int) := ⟨k + 1 + S.vars, by omega⟩
      obtain ⟨a2, ha2⟩ : ∃ a2 : Nat, -((k : Int) + 1) + (S.vars : Int) = (a2 : Int) := ⟨S.vars - (k + 1), by omega⟩
      have hp1 : posN S.vars ((k + 1 : Nat) : Int) = a1 := by unfold posN; omega
      have hp2 : posN S.vars (-((k + 1 : Nat) : Int)) = a2 := by unfold posN; omega
      have hw1 : a1 < wide S := by unfold wide; omega
      have hw2 : a2 < wide S := by unfold wide; omega
      have HA1 := Lib.hid (fun q => at29_any (HKW.out.drewN q) (hno _) ((k : Int) + 1) a1 ha1 (by omega))
      have HA2 := Lib.hid (fun q => at29_any (HKW.out.drewN q) (hno _) (-((k : Int) + 1)) a2 ha2 (by omega))
      obtain ⟨g, cap, e1, e2, e3, _⟩ := HKW.out.cntAt (hno _) (a := a1) hw1
      obtain ⟨g', cap', f1, f2, f3, _⟩ := HKW.out.cntAt (hno _) (a := a2) hw2
      rw [e1] at f1
      cases f1
      rw [e1] at hcc
      have hwI1 : (a1 : Int) < ((wide S : Nat) : Int) := by omega
      have hwI2 : (a2 : Int) < ((wide S : Nat) : Int) := by omega
      have hwI3 : ((wide S : Nat) : Int) ≤ 1000000 := by unfold wide; omega
      have hng : IntKind.i64.wrap (-((k : Int) + 1)) = -((k : Int) + 1) := IntWalk.i64_in _ ⟨by omega, by omega⟩
      have HLA := Lib.hid (show loneAt S k = (decide (S.cn a1 > 0) != decide (S.cn a2 > 0)) from by unfold loneAt; rw [hp1, hp2])
      have HP1 := Lib.hid hp1
      clear ha1 ha2 hp1 hp2 hw1 hw2 e1 e3 f3
      generalize hwd : wide S = wd at hcc hwI1 hwI2 hwI3
      clear hwd
      generalize hz1 : S.cn a1 = z1 at e2 HLA
      generalize hz2 : S.cn a2 = z2 at f2 HLA
      have HZ1 := Lib.hid hz1
      clear hz1 hz2
      by_cases h1 : 0 < z1
      · by_cases h2 : 0 < z2
        · have HNO := Lib.hid (show ∀ j, j < k + 1 → loneAt S j = false from fun j hj => by
            by_cases hjk : j < k
            · exact HNL.out j hjk
            · have : j = k := by omega
              subst this
              rw [HLA.out]; simp [h1, h2])
          go_upto_region 4 with fail
          go_quiet ((first | (go_at_call 34; with_reducible exact Calls.quiet_of_same (HA1.out _)) | (go_at_call 34; with_reducible exact Calls.quiet_of_same (HA2.out _))))
          go_wp2_with fail
          go_round
          case rel => exact ⟨k + 1, _, by omega, by go_num, by rw [← HW1.out]; exact World.drewN_drewN _ _ _, HNO.out⟩
          case measure => simp [intOf]; omega
        · have HL := Lib.hid (show loneW S = some ((k : Int) + 1) from by
            rw [loneW_hit hlt (by rw [HLA.out]; simp [h1, h2]) HNL.out, HP1.out, HZ1.out, if_pos h1]; rfl)
          have HFX := Lib.hid (fun q => fix29_any (HKW.out.drewN q) HG.out HST.out HSL.out hfx ((k : Int) + 1) (by omega))
          go_upto_region 4 with fail
          go_quiet ((first | (go_at_call 34; with_reducible exact Calls.quiet_of_same (HA1.out _)) | (go_at_call 34; with_reducible exact Calls.quiet_of_same (HA2.out _))))
          go_wp2_with fail
          with_reducible refine (HFX.out _).mono ?_
          rintro e w3 ⟨rfl, M3, hk3, hf3⟩
          have HK3 := Lib.hid (show KW w3 n0 M3 (loneS S) noW from by unfold loneS; rw [HL.out]; exact hk3)
          have HF3 := Lib.hid (show FrW M M3 fixT w w3 from by
            have e1 : FrW M M fixT w W1 := by rw [← HW1.out]; exact (FrW.refl _ _ _).drewN _
            exact (e1.drewN _).trans hf3)
          clear hk3 hf3
          go_wp2
          go_ret
          refine ⟨?_, M3, HK3.out, HF3.out⟩
          rw [HL.out]; rfl
      · by_cases h2 : 0 < z2
        · have HL := Lib.hid (show loneW S = some (-((k : Int) + 1)) from by
            rw [loneW_hit hlt (by rw [HLA.out]; simp [h1, h2]) HNL.out, HP1.out, HZ1.out, if_neg h1]; rfl)
          have HFX := Lib.hid (fun q => fix29_any (HKW.out.drewN q) HG.out HST.out HSL.out hfx (-((k : Int) + 1)) (by omega))
          go_upto_region 4 with fail
          go_quiet ((first | (go_at_call 34; with_reducible exact Calls.quiet_of_same (HA1.out _)) | (go_at_call 34; with_reducible exact Calls.quiet_of_same (HA2.out _))))
          go_wp2_with fail
          with_reducible refine (HFX.out _).mono ?_
          rintro e w3 ⟨rfl, M3, hk3, hf3⟩
          have HK3 := Lib.hid (show KW w3 n0 M3 (loneS S) noW from by unfold loneS; rw [HL.out]; exact hk3)
          have HF3 := Lib.hid (show FrW M M3 fixT w w3 from by
            have e1 : FrW M M fixT w W1 := by rw [← HW1.out]; exact (FrW.refl _ _ _).drewN _
            exact (e1.drewN _).trans hf3)
          clear hk3 hf3
          go_wp2
          go_ret
          refine ⟨?_, M3, HK3.out, HF3.out⟩
          rw [HL.out]; rfl
        · have HNO := Lib.hid (show ∀ j, j < k + 1 → loneAt S j = false from fun j hj => by
            by_cases hjk : j < k
            · exact HNL.out j hjk
            · have : j = k := by omega
              subst this
              rw [HLA.out]; simp [h1, h2])
          go_upto_region 4 with fail
          go_quiet ((first | (go_at_call 34; with_reducible exact Calls.quiet_of_same (HA1.out _)) | (go_at_call 34; with_reducible exact Calls.quiet_of_same (HA2.out _))))
          go_wp2_with fail
          go_round
          case rel => exact ⟨k + 1, _, by omega, by go_num, by rw [← HW1.out]; exact World.drewN_drewN _ _ _, HNO.out⟩
          case measure => simp [intOf]; omega
    · have hltI : (S.vars : Int) < (k : Int) + 1 := by omega
      have HN := Lib.hid (loneW_no (S := S) (fun j hj => HNL.out j (by omega)))
      go_wp2
      go_ret
      refine ⟨?_, M, ?_, ?_⟩
      · rw [HN.out]; rfl
      · unfold loneS; rw [HN.out]; exact HKW.out
      · rw [← HW1.out]; exact (FrW.refl _ _ _).drewN _
end
end Go.Proofs.Ytlcbfahaapodmaa
