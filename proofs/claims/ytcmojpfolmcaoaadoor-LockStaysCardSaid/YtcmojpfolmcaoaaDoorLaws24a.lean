/-
  Layer 24: the card LockStays: what was parsed of any text may be, and is printed as that very text. For every input. Own work.
-/
import Derived.Test.YtcmojpfolmcaoaaDoorLives24
import Derived.Test.YtcmojpfolmcaoaaDoorRefMay24
import Derived.Test.YtcmojpfolmcaoaaDoorDoor24
namespace Go.Proofs.YtcmojpfolmcaoaaDoor
set_option linter.unusedVariables false
set_option linter.unusedSimpArgs false
open Go.ChangeShapes Go.WideShapes Go.ChangeAt Go.RowKit
open Go.ChangeMaps (open_string shut_string)

theorem mayVer_size {s : ByteArray} (h : mayVer s = true) : s.size ≤ 64 := by
  unfold mayVer at h
  simp only [Bool.and_eq_true, decide_eq_true_eq] at h
  exact h.1.2
theorem may_sizes {g a v : ByteArray} {l : List Pn} (h : mayLock g a v l = true) : g.size ≤ 64 ∧ a.size ≤ 64 ∧ v.size ≤ 64 ∧ l.length ≤ 4096 ∧ ∀ p ∈ l, p.g.size ≤ 64 ∧ p.a.size ≤ 64 ∧ p.t.size ≤ 64 ∧ p.c.size ≤ 64 ∧ p.v.size ≤ 64 := by
  unfold mayLock at h
  simp only [Bool.and_eq_true, decide_eq_true_eq] at h
  obtain ⟨⟨hg, hl⟩, hm⟩ := h
  unfold mayGav at hg
  simp only [Bool.and_eq_true] at hg
  refine ⟨isId_size hg.1.1, isId_size hg.1.2, mayVer_size hg.2, hl, fun p hp => ?_⟩
  obtain ⟨i, hi, hpi⟩ := List.getElem_of_mem hp
  have hq : l[i]? = some p := by rw [List.getElem?_eq_getElem hi, hpi]
  have h1 := allMay_iff.1 hm i hi
  unfold mayAt at h1
  rw [hq] at h1
  simp only [Bool.and_eq_true] at h1
  have h2 := h1.2
  unfold mayP at h2
  simp only [Bool.and_eq_true] at h2
  obtain ⟨k1, k2, k3, k4⟩ := mayKey_sizes h2.1.1.1
  exact ⟨k1, k2, k3, k4, mayVer_size h2.1.1.2⟩
theorem ParseB (s : ByteArray) (hs : s.size ≤ 100000) (w : World) (hT : Tb w) : Calls Tryd.prog 15 #[.string s] w (ParseP s.data.toList w) := by
  have := Parse_any s.data.toList (by rw [data_len]; exact hs) w hT
  rw [str_toList] at this
  exact this
set_option maxRecDepth 100000 in
set_option maxHeartbeats 2000000 in
theorem walk_LockStays (s : ByteArray) (hs : s.size ≤ 9223372036854775807) (w : World) (hT : Tb w) :
    Calls Tryd.prog 6 #[.string s] w fun e w' => e = .returned (.bool true) ∧ Below w.heap.size w w' := by
  have hpa := ParseB (s.extract 0 (min (s.size : Int) 3000).toNat) (by rw [ByteArray.size_extract]; omega) w hT
  have htz : (s.extract 0 (min (s.size : Int) 3000).toNat).size ≤ 3000 := by rw [ByteArray.size_extract]; omega
  have HT := Lib.hid hT
  have HLV := Lib.hid (fun w' (hb : Below w.heap.size w w') => lives_any w' (hT.below hb (Nat.le_refl _)))
  have hm0 : (0 : Int) ≤ min (s.size : Int) 3000 := by omega
  have hm1 : min (s.size : Int) 3000 ≤ s.size := by omega
  have HPA := Lib.hid hpa
  clear hT hpa
  go_enter Tryd.func6, Tryd.ntmps6
  go_upto_region 2 with fail
  generalize s.extract 0 (min (s.size : Int) 3000).toNat = t at HPA htz ⊢
  go_wp2_with fail
  refine HPA.out.mono ?_
  rintro e w2 (⟨st, pv, h, rfl, hrd, hb2⟩ | ⟨n, h, rfl, hb2⟩)
  case inr =>
    have hb2a : Below w.heap.size w (w2.alloc (.cells #[.string ⟨#[]⟩, .string ⟨#[]⟩, .string ⟨#[]⟩, .slice none 0 0] 26)) := hb2.alloc hb2.size _
    have HB2 := Lib.hid hb2a
    clear h hb2 hb2a
    unfold lockV
    go_wp2_with fail
    refine (HLV.out _ HB2.out).mono ?_
    rintro e w3 ⟨rfl, hb3⟩
    have HB3 := Lib.hid (HB2.out.trans (hb3.mono HB2.out.size))
    clear hb3
    go_wp2
    go_ret
    exact ⟨rfl, HB3.out⟩
  obtain ⟨hpr, hml⟩ := parse_back h
  obtain ⟨rg, ra, rv, pins, ended⟩ := st
  simp only at hpr hml hrd
  obtain ⟨z1, z2, z3, z4, z5⟩ := may_sizes hml
  obtain ⟨va, vc, rfl⟩ := hrd.shape
  have HRM := Lib.hid (fun w' hr => refMay_any rg ra rv (by unfold okT; omega) (by unfold okT; omega) (by unfold okT; omega) (.slice va pins.length vc) pins (fun p hp => by obtain ⟨k1, k2, k3, k4, k5⟩ := z5 p hp; exact ⟨by unfold okT; omega, by unfold okT; omega, by unfold okT; omega, by unfold okT; omega, by unfold okT; omega⟩) (by omega) w' hr)
  have HM := Lib.hid (fun w' hr => MayL_any rg ra rv (by unfold okT; omega) (by unfold okT; omega) (by unfold okT; omega) (.slice va pins.length vc) pins (fun p hp => by obtain ⟨k1, k2, k3, k4, k5⟩ := z5 p hp; exact ⟨by unfold okT; omega, by unfold okT; omega, by unfold okT; omega, by unfold okT; omega, by unfold okT; omega⟩) (by omega) w' hr)
  have HPR := Lib.hid (fun w' hr (hb : Below w.heap.size w w') => Print_any rg ra rv (by omega) (by omega) (by omega) (.slice va pins.length vc) pins (fun p hp => by obtain ⟨k1, k2, k3, k4, k5⟩ := z5 p hp; exact ⟨by omega, by omega, by omega, by omega, by omega⟩) (by omega) w' hr (HT.out.below hb (Nat.le_refl _)))
  rw [hml] at HRM HM
  rw [hpr, str_toList] at HPR
  unfold lockV at HRM HM HPR
  have hba : Below w2.heap.size w2 (w2.alloc (.cells #[.string rg, .string ra, .string rv, .slice va pins.length vc] 26)) := (Below.refl _ _).alloc (Nat.le_refl _) _
  have hlk := LkIn.new w2 rg ra rv (.slice va pins.length vc)
  have HR3 := Lib.hid (hrd.below hba (Nat.le_refl _))
  have HB3 := Lib.hid (hb2.trans (hba.mono hb2.size))
  have htt : (t.toList == t.toList) = true := by simp
  clear h hpr hml z1 z2 z3 z4 z5 hrd hb2 hba
  unfold lockV
  go_upto_region 3 with fail
  generalize w2.alloc (.cells #[.string rg, .string ra, .string rv, .slice va pins.length vc] 26) = w3 at hlk HR3 HB3 ⊢
  generalize w2.heap.size = V at hlk ⊢
  have HLK := Lib.hid hlk
  obtain ⟨y0, y1, y2, y3⟩ := hlk
  go_wp2_with fail
  refine (HRM.out _ HR3.out).mono ?_
  rintro e w4 ⟨rfl, hb4⟩
  have HB34 := Lib.hid hb4
  clear y0 y1 y2 y3
  obtain ⟨y0, y1, y2, y3⟩ := HLK.out.below hb4 (Nat.le_refl _)
  clear hb4
  go_wp2_with fail
  refine (HM.out _ (HR3.out.below HB34.out (Nat.le_refl _))).mono ?_
  rintro e w5 ⟨rfl, hb5⟩
  have HB35 := Lib.hid (HB34.out.trans (hb5.mono HB34.out.size))
  clear y0 y1 y2 y3 hb5 HB34
  obtain ⟨y0, y1, y2, y3⟩ := HLK.out.below HB35.out (Nat.le_refl _)
  go_wp2_with fail
  refine (HPR.out _ (HR3.out.below HB35.out (Nat.le_refl _)) (HB3.out.trans (HB35.out.mono HB3.out.size))).mono ?_
  rintro e w6 ⟨rfl, hb6⟩
  have HB6 := Lib.hid ((HB3.out.trans (HB35.out.mono HB3.out.size)).trans (hb6.mono (HB3.out.trans (HB35.out.mono HB3.out.size)).size))
  clear y0 y1 y2 y3 hb6 HB35
  go_wp2_with fail
  refine (HLV.out _ HB6.out).mono ?_
  rintro e w7 ⟨rfl, hb7⟩
  have HB7 := Lib.hid (HB6.out.trans (hb7.mono HB6.out.size))
  clear hb7
  go_wp2
  go_ret
  exact ⟨rfl, HB7.out⟩

theorem laid_met_LockStays (os : Os) : laidMet Tryd.prog Rows.lockStaysRow.laid ((laidWorld #[.string .empty] os).forCall (fun _ _ => 0) ⟨#[], #[.string .empty], []⟩).memory :=
  laidMet_of_run' 8 (by kernel_rfl) (by kernel_rfl)
theorem reads_LockStays (os : Os) {H : Type} (enc : TypeId × Value → H) : ∃ places, DataW.whole enc Tryd.prog ((laidWorld #[.string .empty] os).forCall (fun _ _ => 0) ⟨#[], #[.string .empty], []⟩).memory Tryd.f6.params.toList Rows.lockStaysSpec.vars false (#[.string .empty] : Array Value).toList 8 = some ([.lit (.string [])], [], places) :=
  ⟨[], by kernel_rfl⟩
set_option maxRecDepth 100000 in
theorem lifted_LockStays (os : Os) (started : os.Started) (H : Type) (enc : TypeId × Value → H) (F : Stop.Interp) :
    ReturnsInHanded {} Tryd.checked os 6 .any ((OpenSpec.ofChange Rows.lockStaysSpec).preRow enc Tryd.prog Tryd.f6 Rows.lockStaysRow.domain false Rows.lockStaysRow.laid) (((OpenSpec.ofChange Rows.lockStaysSpec).at F).post enc Tryd.prog Tryd.f6 false true false false) := by
  obtain ⟨places, hx⟩ := reads_LockStays os enc
  refine returnsInHanded_of_row (C := Tryd.checked) (s := OpenSpec.ofChange Rows.lockStaysSpec) own_knob started (by kernel_rfl) Tryd.func6
    (witness_row_at (enc := enc) (C := Tryd.checked) false (laidWorld #[.string .empty] os) #[.string .empty] rfl (by kernel_rfl) (by kernel_rfl) (by kernel_rfl)
      (OpenSpec.preRow_of_cond 8 hx (by kernel_rfl) (fun k hk => by cases hk) (by kernel_rfl) (laid_met_LockStays os))) ?_
  intro W base args ds gs before hval0 hW _ _ _ hL hsh _
  have hT : Tb W := tb_of hsh hL (.tail _ (.tail _ (.head _)))
  have hval : ∀ (j : Nat) t v, Tryd.f6.params[j]? = some t → args[j]? = some v → Value.okWide Tryd.prog W .any base t v := hval0
  have hW' := hW
  obtain ⟨p, q, hA0, hV, rfl, _, _⟩ := hW
  have hA : DataW.TrodAll enc Tryd.prog W 0 (fun _ => true) true Tryd.f6.params.toList args.toList ds p := hA0
  rw [Tryd.params6] at hA hval
  obtain ⟨v0, vs0, d0, ds0, p0, q0, hargs, rfl, rfl, h0, r0⟩ := trodAll_cons hA
  obtain ⟨rfl, rfl, rfl⟩ := trodAll_nil r0
  obtain rfl : args = #[v0] := by cases args; simp_all
  obtain ⟨rfl, rfl⟩ := trodVars_none hV
  obtain ⟨a0, rfl, rfl, rfl, w0⟩ := open_string Tryd.underlying9 (hval 0 9 v0 rfl rfl) h0
  clear hA0 hval0
  refine (walk_LockStays a0 (by unfold maxLen at w0; exact w0) W hT).mono fun e W' ⟨he, hb⟩ => ?_
  subst he
  exact ⟨_, rfl, law_post (by kernel_rfl) rfl rfl rfl hW' hb⟩
theorem said_LockStays : Rows.LockStaysSaid :=
  OpenClaim.holds_of_cond 6 Tryd.f6 rfl rfl rfl rfl rfl rfl rfl ⟨rfl, rfl, rfl, rfl, rfl⟩ rfl rfl rfl rfl rfl (by kernel_rfl) Tryd.func6 (by kernel_rfl)
    (of_decide_eq_true (by kernel_rfl)) (by unfold Func.isWrapper; first | (rw [if_pos (by decide +kernel)]; kernel_rfl) | (rw [if_neg (by decide +kernel)]; exact ⟨rfl, rfl⟩))
    (fun os started H enc _ F => by rw [OpenClaim.pre_eq_preRow]; exact lifted_LockStays os started H enc F)
set_option maxRecDepth 100000 in
theorem plain_LockStays (f : FuncId) (fn : Func) (hf : Tryd.pinned.checked.prog.funcNamed "pomace/pomacelaw24.LockStays" = some f) (hfn : Tryd.pinned.checked.prog.funcs[f]? = some fn) :
    false = Tryd.pinned.checked.prog.looks [] ∧ ∀ (j : Nat) t, fn.params[j]? = some t → Tryd.pinned.checked.prog.wantsStandIn t = false := by
  obtain rfl : f = 6 := Option.some.inj ((show Tryd.prog.funcNamed "pomace/pomacelaw24.LockStays" = some 6 by kernel_rfl).symm.trans hf) |>.symm
  obtain rfl : fn = Tryd.f6 := (Option.some.inj (Tryd.func6.symm.trans hfn)).symm
  refine ⟨by kernel_rfl, fun j t ht => ?_⟩
  rw [Tryd.params6] at ht
  have h := Array.mem_of_getElem? ht
  simp only [List.mem_toArray, List.mem_cons, List.not_mem_nil, or_false] at h
  rcases h with rfl
  all_goals first
    | exact (show Tryd.prog.wantsStandIn 9 = false by kernel_rfl)

/-- the statement of LockStays: its card -/
theorem proved_LockStays : Rows.LockStaysCardSaid :=
  Claim7.holds_tied_plain_at .later [] _ _ _ _ said_LockStays (fun _ h => by cases h) (by kernel_rfl) (fun _ h => by cases h) lockStays_row_tie rfl ⟨rfl, rfl⟩ (by kernel_rfl) rfl plain_LockStays (by kernel_rfl)
end Go.Proofs.YtcmojpfolmcaoaaDoor
