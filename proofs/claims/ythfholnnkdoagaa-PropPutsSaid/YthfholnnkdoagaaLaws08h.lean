/-
  Layer 8: the statement PropPuts: properties put, and got. Own work.
-/
import Derived.Test.YthfholnnkdoagaaOvr8
import Derived.Test.YthfholnnkdoagaaBth8
import Derived.Test.YthfholnnkdoagaaGet8
import Derived.Test.YthfholnnkdoagaaSam8
namespace Go.Proofs.Ythfholnnkdoagaa
set_option linter.unusedVariables false
set_option linter.unusedSimpArgs false
open Go.ChangeShapes Go.WideShapes Go.ChangeAt Go.RowKit
open Go.ChangeMaps (open_string shut_string)

set_option maxRecDepth 100000 in
set_option maxHeartbeats 4000000 in
theorem PutX_any (l : List Pr) (n x : ByteArray) (va : Value) (w : World) (ha : RdPs w va l) (hl : l.length ≤ 10000) (hka : ∀ p ∈ l, p.n.size ≤ maxLen) (hn : n.size ≤ maxLen) :
    Calls Try.prog 21 #[va, .string n, .string x] w (OvP (putL l ⟨n, x⟩) w) := by
  obtain ⟨aa, ac, rfl⟩ := RdSl.shape ha
  have hba : Below w.heap.size w (w.alloc (.cells #[.string n, .string x] 33)) := (Below.refl _ _).alloc (Nat.le_refl _) _
  have hr : RdPs (w.alloc (.cells #[.string n, .string x] 33)) (.slice (some ⟨w.heap.size, 0, none⟩) 1 1) [⟨n, x⟩] := RdPs.of_own (base := w.heap.size) (e := 33) (World.ownsRow_lit (base := w.heap.size) (e := 33) (size := 2) w #[.string n, .string x] 1 (Nat.le_refl _) (by decide) rfl)
  have HO := Lib.hid (Over_any l [⟨n, x⟩] _ _ _ _ (ha.below hba (Nat.le_refl _)) hr (Below.refl _ _) hl (by simp) hka (by simpa using hn))
  have HBA := Lib.hid hba
  clear ha hr hba hka
  go_enter Try.func21, Try.ntmps21
  go_wp2_with fail
  refine HO.out.mono ?_
  rintro e w2 ⟨v, rfl, ho, hb⟩
  have HR := Lib.hid (show w2.ownsRow w.heap.size 33 2 v (putL l ⟨n, x⟩).length (rowPr (putL l ⟨n, x⟩)) from own_mono10 ho HBA.out.size)
  have HB := Lib.hid (HBA.out.trans (hb.mono HBA.out.size))
  clear ho hb HO
  go_wp2
  go_ret
  exact ⟨_, rfl, HR.out, HB.out⟩
theorem fit_prs {L : List Pp} (h : Fit8 L) : (prs L).length ≤ 60 ∧ ∀ p ∈ prs L, p.n.size ≤ maxLen := by
  refine ⟨by rw [prs_len]; exact h.1, fun p hp => ?_⟩
  unfold prs at hp
  obtain ⟨q, hq, rfl⟩ := List.mem_map.1 hp
  show (str q.1).size ≤ maxLen
  rw [size_str]
  have := (h.2 q hq).1
  unfold maxLen; omega
set_option maxRecDepth 100000 in
set_option maxHeartbeats 8000000 in
theorem walk_PropPuts (w : World) (m : Int) (hm : w.cell? ⟨0, 0, none⟩ = some (.int .i64 m)) (v0 : Value) (l0 : List Pr) (h0 : RdPs w v0 l0) (ok0 : ∀ p ∈ l0, okPr p) (v1 : Value) (l1 : List Pr) (h1 : RdPs w v1 l1) (ok1 : ∀ p ∈ l1, okPr p) (sa : ByteArray) (hsa : sa.size ≤ 9223372036854775807) :
    Calls Try.prog 4 #[v0, v1, .string sa] w fun e w' => e = .returned (.bool true) ∧ Below w.heap.size w w' := by
  have HF := Lib.hid (few8_any l0 v0 w h0 ok0)
  have HF2 := Lib.hid (fun w' (hb : Below w.heap.size w w') => few8_any l1 v1 w' (h1.below hb (Nat.le_refl _)) ok1)
  have HLV := Lib.hid (fun w' (hb : Below w.heap.size w w') => lives8 m w' ((hb.cell (World.block_lt_of_cell? w _ hm)).trans hm))
  have HCA := Lib.hid (fun w => cutL8_eq sa hsa w)
  have hla := cut8_len sa
  generalize cut8 sa = a at HCA hla
  clear hm h0 ok0 h1 ok1
  go_enter Try.func4, Try.ntmps4
  go_wp2_with fail
  refine HF.out.mono ?_
  rintro e w1 ⟨vL, L, rfl, hrow, hfit, hb1⟩
  have HR1 := Lib.hid (RdPs.of_own hrow)
  have HF1 := Lib.hid (fit_prs hfit)
  have HB1 := Lib.hid hb1
  clear HF hrow hfit hb1
  go_wp2_with fail
  refine (HF2.out _ HB1.out).mono ?_
  rintro e w2 ⟨vM, M, rfl, hrow, hfit, hb2⟩
  have HRM := Lib.hid (RdPs.of_own hrow)
  have HFM := Lib.hid (fit_prs hfit)
  have HRL := Lib.hid (HR1.out.below hb2 (Nat.le_refl _))
  have HB2 := Lib.hid (HB1.out.trans (hb2.mono HB1.out.size))
  clear HF2 hrow hfit hb2 HR1 HB1
  go_wp2_with fail
  refine (HCA.out _).mono ?_
  rintro e w2a ⟨rfl, hwa⟩
  obtain rfl : w2 = w2a := hwa.symm
  clear hwa HCA
  generalize prs L = l at HRL HF1
  generalize prs M = mm at HRM HFM
  obtain ⟨aL, cL, hvL⟩ := RdSl.shape HRL.out
  subst hvL
  obtain ⟨aM, cM, hvM⟩ := RdSl.shape HRM.out
  subst hvM
  have hl60 := HF1.out.1
  have hm60 := HFM.out.1
  have hlI : (l.length : Int) ≤ 60 := by omega
  have hmI : (mm.length : Int) ≤ 60 := by omega
  have HAN := Lib.hid (show (str a).size ≤ maxLen from by rw [size_str]; unfold maxLen; omega)
  generalize str a = n at HAN ⊢
  have hraw := Lib.hid (RdPs.raw HRL.out)
  go_wp2_with (at_builtin
               refine wpList_copy rfl _ _ rfl Try.underlying27 prop_info rfl (by decide) w2 (.slice aL l.length cL) l.length (rowPr l) rfl rfl hraw.out (by omega) (by omega) ?_)
  intro v7 w3 hown hb3
  have HWS := Lib.hid (RdPs.of_own hown)
  have HB3 := Lib.hid hb3
  clear hown hb3 hraw
  have HGT := Lib.hid (Get_any l n _ w3 (HRL.out.below HB3.out (Nat.le_refl _)))
  go_wp2_with fail
  refine HGT.out.mono ?_
  rintro e w4 ⟨rfl, hb4⟩
  have HB4 := Lib.hid (HB3.out.trans (hb4.mono HB3.out.size))
  have HWS4 := Lib.hid (HWS.out.below hb4 (Nat.le_refl _))
  clear hb4 HGT HB3 HWS
  have HAT := Lib.hid (At_any l n _ w4 (HRL.out.below HB4.out (Nat.le_refl _)))
  go_wp2_with fail
  refine HAT.out.mono ?_
  rintro e w5 ⟨rfl, hb5⟩
  have HB5 := Lib.hid (HB4.out.trans (hb5.mono HB4.out.size))
  have HWS5 := Lib.hid (HWS4.out.below hb5 (Nat.le_refl _))
  clear hb5 HAT HB4 HWS4
  go_upto_region 5 with fail
  generalize hg8 : (getL l n).getD ⟨#[]⟩ = s8
  generalize hg9 : (getL l n).isSome = b9
  generalize hg10 : atI l n = i10
  have HG8 := Lib.hid hg8
  have HG9 := Lib.hid hg9
  have HG10 := Lib.hid hg10
  clear hg8 hg9 hg10
  go_cut [56] from 14 to 57 (fun t wx => t = .bool false ∧ wx = w5)
  case first =>
    cases hf : l.findIdx? (fun p => eqS p.n n) with
    | none =>
      have hg : getL l n = none := by unfold getL; rw [hf]; rfl
      have hat : atI l n = -1 := by unfold atI; rw [hf]
      have e8 := HG8.out
      have e9 := HG9.out
      have e10 := HG10.out
      rw [hg] at e8 e9
      rw [hat] at e10
      have hneg : ¬ (0 : Int) ≤ i10 := by omega
      have hneg2 : i10 < 0 := by omega
      obtain rfl : s8 = ⟨#[]⟩ := e8.symm
      obtain rfl : b9 = false := e9.symm
      clear hf hg hat e8 e9 e10 HG8 HG9 HG10
      go_wp2_with fail
      go_meet
      exact ⟨rfl, rfl⟩
    | some i =>
      have hi : i < l.length := by
        rw [List.findIdx?_eq_some_iff_getElem] at hf
        exact hf.1
      obtain ⟨x, hx⟩ : ∃ x, l[i]? = some x := ⟨_, List.getElem?_eq_getElem hi⟩
      have hg : getL l n = some x.v := by unfold getL; rw [hf]; show l[i]?.map (·.v) = _; rw [hx]; rfl
      have hat : atI l n = (i : Nat) := by unfold atI; rw [hf]
      obtain ⟨a1, e1, p0, p1⟩ := RdSl.elem (HRL.out.below HB5.out (Nat.le_refl _)) hx
      subst e1
      have e8 := HG8.out
      have e9 := HG9.out
      have e10 := HG10.out
      rw [hg] at e8 e9
      rw [hat] at e10
      obtain rfl : s8 = x.v := e8.symm
      obtain rfl : b9 = true := e9.symm
      obtain rfl : i10 = (i : Nat) := e10.symm
      clear e8 e9 e10 HG8 HG9 HG10
      have hiI : (i : Int) < (l.length : Int) := by omega
      have hpos : (0 : Int) ≤ (i : Int) := by omega
      have hpos2 : ¬ (i : Int) < 0 := by omega
      clear hf hg hat hx
      go_wp2_with fail
      go_meet
      exact ⟨rfl, rfl⟩
  case rest =>
  obtain ⟨rfl, hwc⟩ := hcut
  obtain rfl : w5 = wc := hwc.symm
  clear hwc
  have HRL5 := Lib.hid (HRL.out.below HB5.out (Nat.le_refl _))
  have HRM5 := Lib.hid (HRM.out.below HB5.out (Nat.le_refl _))
  have HB25 := Lib.hid (HB2.out.trans (HB5.out.mono HB2.out.size))
  clear HRL HRM HB2 HB5
  have hraw := Lib.hid (RdPs.raw HRL5.out)
  go_wp2_with (at_builtin
               refine wpList_copy rfl _ _ rfl Try.underlying27 prop_info rfl (by decide) w5 (.slice aL l.length cL) l.length (rowPr l) rfl rfl hraw.out (by omega) (by omega) ?_)
  intro v11 w6 hown hb6
  have HO6 := Lib.hid hown
  have HB6 := Lib.hid hb6
  clear hown hb6 hraw
  go_upto_region 9 with fail
  go_loopw [11, 62] (fun t i wr => ∃ k : Nat, k ≤ mm.length ∧ i = .int .i64 k ∧ wr.ownsRow w5.heap.size 33 2 t (over l (mm.take k)).length (rowPr (over l (mm.take k))) ∧ Below w5.heap.size w5 wr) (fun _ i _ => mm.length - (intOf i).toNat)
  case atStart => exact ⟨0, by omega, rfl, HO6.out, HB6.out⟩
  case round =>
    obtain ⟨k, hk, rfl, ho, hb⟩ := hrel
    have HO := Lib.hid ho
    have HB := Lib.hid hb
    have hol : (over l (mm.take k)).length ≤ 10000 := by
      have h1 := over_len (mm.take k) l
      have h2 := List.length_take_le k mm
      omega
    obtain ⟨a11, c11, ht11⟩ := RdSl.shape (RdPs.of_own ho)
    subst ht11
    clear ho
    by_cases hlt : k < mm.length
    · obtain ⟨x, hx⟩ : ∃ x, mm[k]? = some x := ⟨_, List.getElem?_eq_getElem hlt⟩
      obtain ⟨a1, e1, p0, p1⟩ := RdSl.elem (HRM5.out.below hb (Nat.le_refl _)) hx
      subst e1
      have HST := Lib.hid (over_step (l := l) hx)
      have hkI : (k : Int) < (mm.length : Int) := by omega
      have hbb : Below wr.heap.size wr (wr.alloc (.cells #[.string x.n, .string x.v] 33)) := (Below.refl _ _).alloc (Nat.le_refl _) _
      have hnew := heap_alloc_new wr (.cells #[.string x.n, .string x.v] 33)
      have HO2 := Lib.hid (own_below10 HO.out hbb)
      have HBB := Lib.hid (HB.out.trans (hbb.mono HB.out.size))
      generalize over l (mm.take k) = o at HST HO2 hol ⊢
      clear hb hbb hx HO HB
      go_upto_region 11 with fail
      generalize wr.alloc (.cells #[.string x.n, .string x.v] 33) = w7 at hnew HO2 HBB ⊢
      generalize wr.heap.size = P0 at hnew ⊢
      have r0 : w7.cell? ⟨P0, 0, none⟩ = some (.string x.n) := by rw [cell_of_row w7 P0 0 _ _ (0, 0) hnew]; rfl
      have r1 : w7.cell? ⟨P0, 1, none⟩ = some (.string x.v) := by rw [cell_of_row w7 P0 1 _ _ (0, 0) hnew]; rfl
      have HPT := Lib.hid (Put_any o x _ w7 (RdPs.of_own HO2.out) (by omega))
      clear p0 p1 hnew
      go_wp2_with fail
      refine HPT.out.mono ?_
      rintro e w8 ⟨v8, rfl, ho8, hb8⟩
      have HO8 := Lib.hid (show w8.ownsRow w5.heap.size 33 2 v8 (over l (mm.take (k + 1))).length (rowPr (over l (mm.take (k + 1)))) from by rw [HST.out]; exact own_mono10 ho8 HBB.out.size)
      have HB8 := Lib.hid (HBB.out.trans (hb8.mono HBB.out.size))
      clear ho8 hb8 HPT r0 r1
      go_wp2
      go_roundw
      case rel => exact ⟨k + 1, by omega, by go_num, HO8.out, HB8.out⟩
      case measure => simp [intOf]; omega
    · have hle : (mm.length : Int) ≤ (k : Int) := by omega
      have htk : mm.take k = mm := List.take_of_length_le (by omega)
      have hrw := RdPs.of_own HO.out
      rw [htk] at hrw
      have HRW := Lib.hid hrw
      have HRLr := Lib.hid (HRL5.out.below HB.out (Nat.le_refl _))
      have HRMr := Lib.hid (HRM5.out.below HB.out (Nat.le_refl _))
      have HWSr := Lib.hid (HWS5.out.below HB.out (Nat.le_refl _))
      have HBr := Lib.hid (HB25.out.trans (HB.out.mono HB25.out.size))
      rw [htk]
      clear hb hrw htk HO HB HRL5 HRM5 HWS5 HB25 HO6 HB6
      have HOV := Lib.hid (Over_any l mm _ _ wr wr HRLr.out HRMr.out (Below.refl _ _) (by omega) (by omega) HF1.out.2 HFM.out.2)
      go_wp2_with fail
      refine HOV.out.mono ?_
      rintro e w7 ⟨v7', rfl, ho7, hb7⟩
      have HR7 := Lib.hid (RdPs.of_own ho7)
      have HB7 := Lib.hid hb7
      clear ho7 hb7 HOV
      have HS1 := Lib.hid (by
        have h := SameProps_any _ _ _ _ w7 HR7.out (HRW.out.below HB7.out (Nat.le_refl _))
        rw [sameL_self samePr_self] at h
        exact h)
      go_wp2_with fail
      refine HS1.out.mono ?_
      rintro e w8 ⟨rfl, hb8⟩
      have HB8 := Lib.hid (HB7.out.trans (hb8.mono HB7.out.size))
      clear hb8 HS1
      have HPX := Lib.hid (PutX_any l n ⟨#[120]⟩ _ w8 (HRLr.out.below HB8.out (Nat.le_refl _)) (by omega) HF1.out.2 HAN.out)
      go_wp2_with fail
      refine HPX.out.mono ?_
      rintro e w9 ⟨v9, rfl, ho9, hb9⟩
      have HR9 := Lib.hid (RdPs.of_own ho9)
      have HB9 := Lib.hid (HB8.out.trans (hb9.mono HB8.out.size))
      clear ho9 hb9 HPX
      have HPA := Lib.hid (Put_any l ⟨n, ⟨#[120]⟩⟩ _ w9 (HRLr.out.below HB9.out (Nat.le_refl _)) (by omega))
      go_wp2_with fail
      refine HPA.out.mono ?_
      rintro e w10 ⟨v10, rfl, ho10, hb10⟩
      have HR10 := Lib.hid (RdPs.of_own ho10)
      have HR9b := Lib.hid (HR9.out.below hb10 (Nat.le_refl _))
      have HB10 := Lib.hid (HB9.out.trans (hb10.mono HB9.out.size))
      clear ho10 hb10 HPA
      have HS2 := Lib.hid (by
        have h := SameProps_any _ _ _ _ w10 HR9b.out HR10.out
        rw [sameL_self samePr_self] at h
        exact h)
      go_wp2_with fail
      refine HS2.out.mono ?_
      rintro e w11 ⟨rfl, hb11⟩
      have HB11 := Lib.hid (HB10.out.trans (hb11.mono HB10.out.size))
      clear hb11 HS2
      have HS3 := Lib.hid (by
        have h := SameProps_any _ _ _ _ w11 (HRLr.out.below HB11.out (Nat.le_refl _)) (HWSr.out.below HB11.out (Nat.le_refl _))
        rw [sameL_self samePr_self] at h
        exact h)
      go_wp2_with fail
      refine HS3.out.mono ?_
      rintro e w12 ⟨rfl, hb12⟩
      have HB12 := Lib.hid (HBr.out.trans ((HB11.out.trans (hb12.mono HB11.out.size)).mono HBr.out.size))
      clear hb12 HS3
      have HLW := Lib.hid (HLV.out _ HB12.out)
      go_wp2_with fail
      refine HLW.out.mono ?_
      rintro e w13 ⟨rfl, hb13⟩
      have HZ := Lib.hid (HB12.out.trans (hb13.mono HB12.out.size))
      clear hb13
      go_wp2
      go_ret
      exact ⟨rfl, HZ.out⟩

theorem laid_met_PropPuts (os : Os) : laidMet Try.prog Rows.propPutsRow.laid ((laidWorld #[.slice none 0 0, .slice none 0 0, .string .empty] os).forCall (fun _ _ => 0) ⟨#[], #[.slice none 0 0, .slice none 0 0, .string .empty], []⟩).memory :=
  laidMet_of_run' 8 (by kernel_rfl) (by kernel_rfl)
theorem reads_PropPuts (os : Os) {H : Type} (enc : TypeId × Value → H) : ∃ places, DataW.whole enc Try.prog ((laidWorld #[.slice none 0 0, .slice none 0 0, .string .empty] os).forCall (fun _ _ => 0) ⟨#[], #[.slice none 0 0, .slice none 0 0, .string .empty], []⟩).memory Try.f4.params.toList Rows.propPutsSpec.vars false (#[.slice none 0 0, .slice none 0 0, .string .empty] : Array Value).toList 8 = some ([.nil, .nil, .lit (.string [])], [], places) :=
  ⟨[], by kernel_rfl⟩
set_option maxRecDepth 100000 in
theorem lifted_PropPuts (os : Os) (started : os.Started) (H : Type) (enc : TypeId × Value → H) (F : Stop.Interp) :
    ReturnsInHanded {} Try.checked os 4 .any ((OpenSpec.ofChange Rows.propPutsSpec).preRow enc Try.prog Try.f4 Rows.propPutsRow.domain false Rows.propPutsRow.laid) (((OpenSpec.ofChange Rows.propPutsSpec).at F).post enc Try.prog Try.f4 false true false false) := by
  obtain ⟨places, hx⟩ := reads_PropPuts os enc
  refine returnsInHanded_of_row (C := Try.checked) (s := OpenSpec.ofChange Rows.propPutsSpec) own_knob started (by kernel_rfl) Try.func4
    (witness_row_at (enc := enc) (C := Try.checked) false (laidWorld #[.slice none 0 0, .slice none 0 0, .string .empty] os) #[.slice none 0 0, .slice none 0 0, .string .empty] rfl (by kernel_rfl) (by kernel_rfl) (by kernel_rfl)
      (OpenSpec.preRow_of_cond 8 hx (by kernel_rfl) (fun k hk => by cases hk) (by kernel_rfl) (laid_met_PropPuts os))) ?_
  intro W base args ds gs before hval0 hW _ _ _ _ hsh _
  have hval : ∀ (j : Nat) t v, Try.f4.params[j]? = some t → args[j]? = some v → Value.okWide Try.prog W .any base t v := hval0
  obtain ⟨m, hm⟩ := maxLen_cell W hsh
  have hW' := hW
  obtain ⟨p, q, hA0, hV, rfl, _, _⟩ := hW
  have hA : DataW.TrodAll enc Try.prog W 0 (fun _ => true) true Try.f4.params.toList args.toList ds p := hA0
  rw [Try.params4] at hA hval
  obtain ⟨v0, vs0, d0, ds0, p0, q0, hargs, rfl, rfl, h0, r0⟩ := trodAll_cons hA
  obtain ⟨v1, vs1, d1, ds1, p1, q1, rfl, rfl, rfl, h1, r1⟩ := trodAll_cons r0
  obtain ⟨v2, vs2, d2, ds2, p2, q2, rfl, rfl, rfl, h2, r2⟩ := trodAll_cons r1
  obtain ⟨rfl, rfl, rfl⟩ := trodAll_nil r2
  obtain rfl : args = #[v0, v1, v2] := by cases args; simp_all
  obtain ⟨rfl, rfl⟩ := trodVars_none hV
  obtain ⟨l0, g0, w0⟩ := open_props (hval 0 27 v0 rfl rfl) h0
  obtain ⟨l1, g1, w1⟩ := open_props (hval 1 27 v1 rfl rfl) h1
  obtain ⟨a2, rfl, rfl, rfl, w2⟩ := open_string Try.underlying9 (hval 2 9 v2 rfl rfl) h2
  clear hA0 hval0
  refine (walk_PropPuts W m hm v0 l0 g0 w0 v1 l1 g1 w1 a2 (by unfold maxLen at w2; exact w2)).mono fun e W' ⟨he, hb⟩ => ?_
  subst he
  exact ⟨_, rfl, law_post (by kernel_rfl) rfl rfl rfl hW' hb⟩
/-- the statement of PropPuts -/
theorem proved_PropPuts : Rows.PropPutsSaid :=
  OpenClaim.holds_of_cond 4 Try.f4 rfl rfl rfl rfl rfl rfl rfl ⟨rfl, rfl, rfl, rfl, rfl⟩ rfl rfl rfl rfl rfl (by kernel_rfl) Try.func4 (by kernel_rfl)
    (of_decide_eq_true (by kernel_rfl)) (by unfold Func.isWrapper; first | (rw [if_pos (by decide +kernel)]; kernel_rfl) | (rw [if_neg (by decide +kernel)]; exact ⟨rfl, rfl⟩))
    (fun os started H enc _ F => by rw [OpenClaim.pre_eq_preRow]; exact lifted_PropPuts os started H enc F)
end Go.Proofs.Ythfholnnkdoagaa
