/-
  Layer 5: the card BoundsBack: any range that may be, printed, is read as the same. For every input. Own work.
-/
import Derived.Test.YtnghagikchffiaaDoorHas5
import Derived.Test.YtnghagikchffiaaDoorRefMay5
import Derived.Test.YtnghagikchffiaaDoorRefSame5
import Derived.Test.YtnghagikchffiaaDoorPrint5b
import Derived.Test.YtnghagikchffiaaDoorMeet5b
import Derived.Test.YtnghagikchffiaaDoorDoor
import Derived.Lib.LaidU8
namespace Go.Proofs.YtnghagikchffiaaDoor
set_option linter.unusedVariables false
set_option linter.unusedSimpArgs false
open Go.ChangeShapes Go.WideShapes Go.ChangeAt Go.RowKit
open Go.ChangeMaps (open_string shut_string)

theorem wrap_str (l : List UInt8) : (⟨#[32, 10]⟩ : ByteArray) ++ str l ++ ⟨#[9]⟩ = str (32 :: 10 :: (l ++ [9])) := by
  apply ByteArray.ext
  apply Array.toList_inj.1
  simp [str]
set_option maxRecDepth 100000 in
set_option maxHeartbeats 4000000 in
theorem walk_BoundsBack (hard : Bool) (ver : ByteArray) (pv : Value) (l : List Iv) (ov : okV ver) (ol : ∀ p ∈ l, okV p.lo.ver ∧ okV p.hi.ver) (w : World) (hr : RdI w pv l) (hT : Lib.Utf8Tabs 1 2 w) :
    Calls Tryd.prog 4 #[.agg #[.bool hard, .string ver, pv]] w fun e w' => e = .returned (.bool true) ∧ Below w.heap.size w w' := by
  obtain ⟨pa, pc, rfl⟩ := rd_shape hr
  have HLV := Lib.hid (fun w' (hb : Below w.heap.size w w') => lives05 w' (Utf8Tabs_below hT hb))
  have HLI := Lib.hid (fun w' (hb : Below w.heap.size w w') => Light_at hard ver _ l ov ol w' (hr.below hb (Nat.le_refl _)))
  have HT := Lib.hid hT
  have HR := Lib.hid hr
  have HB1 := Lib.hid ((Below.refl w.heap.size w).alloc (Nat.le_refl _) (.cells #[.bool hard, .string ver, .slice pa l.length pc] 25))
  have Q1 := Lib.hid (show VarR (w.alloc (.cells #[.bool hard, .string ver, .slice pa l.length pc] 25)) w.heap.size hard ver (.slice pa l.length pc) l from VarR.new hr)
  clear hT ov ol hr
  go_enter Tryd.func4, Tryd.ntmps4
  go_wp2_with fail
  refine (HLI.out _ HB1.out).mono ?_
  rintro e w2 ⟨b, rfl, hlight, hb2⟩
  have HLG' := Lib.hid hlight
  have HB2 := Lib.hid (HB1.out.trans (hb2.mono HB1.out.size))
  have Q2 := Lib.hid (Q1.out.below hb2)
  clear hlight hb2 Q1 HB1
  cases b
  · clear HLG'
    go_wp2_with fail
    refine (HLV.out _ HB2.out).mono ?_
    rintro e wz ⟨rfl, hbz⟩
    go_wp2
    go_ret
    exact ⟨rfl, (HB2.out).trans (hbz.mono (HB2.out).size)⟩
  have HLG := Lib.hid (HLG'.out rfl)
  clear HLG'
  have HMY := Lib.hid (fun w' (hb : Below w.heap.size w w') => refMay_any hard ver _ l (by have := HLG.out.2.1; omega) HLG.out.small w' (HR.out.below hb (Nat.le_refl _)))
  generalize hmb : mayB hard ver l = mb at HMY
  have HMB := Lib.hid hmb
  clear hmb
  obtain ⟨x0, x1, x2⟩ := Q2.out.cells
  go_wp2_with fail
  refine (HMY.out _ HB2.out).mono ?_
  rintro e w3 ⟨rfl, hb3⟩
  have HB3 := Lib.hid (HB2.out.trans (hb3.mono HB2.out.size))
  have Q3 := Lib.hid (Q2.out.below hb3)
  clear hb3 x0 x1 x2 Q2 HB2 HMY
  cases mb
  · clear HMB
    go_wp2_with fail
    refine (HLV.out _ HB3.out).mono ?_
    rintro e wz ⟨rfl, hbz⟩
    go_wp2
    go_ret
    exact ⟨rfl, (HB3.out).trans (hbz.mono (HB3.out).size)⟩
  have hok := prR_ok HMB.out
  have hsmall : ∀ p ∈ l, smallV p := HLG.out.2.2
  have hlen := prR_len (hard := hard) hsmall HLG.out.1 HLG.out.2.1
  have h1 : hard = true → 1 ≤ l.length := fun h => by
    have hm := HMB.out
    unfold mayB at hm
    rw [h] at hm
    simp only [if_true, Bool.and_eq_true, decide_eq_true_eq] at hm
    exact hm.1.1.2
  have HPR := Lib.hid (fun w' (hb : Below w.heap.size w w') => Print_any hard ver _ l HLG.out.2.1 hsmall HLG.out.1 h1 w' (HR.out.below hb (Nat.le_refl _)))
  have HP1 := Lib.hid (fun w' hb => parse_ok (parse_pr HMB.out (trim_nb hok.1)) (by rw [str_size]; omega) w w' HT.out hb)
  have HP2 := Lib.hid (fun w' hb => parse_ok (parse_pr HMB.out (s := (⟨#[32, 10]⟩ : ByteArray) ++ str (prR hard ver l) ++ ⟨#[9]⟩) (by rw [wrap_str]; exact trim_wrap hok.1 hok.2)) (by rw [wrap_str, str_size]; simp; omega) w w' HT.out hb)
  have hsz : (str (prR hard ver l)).size ≤ 5000 := by rw [str_size]; exact hlen
  generalize str (prR hard ver l) = ps at HPR HP1 HP2 hsz
  have hszI : (ps.size : Int) ≤ 5000 := by omega
  clear hok hsmall hlen h1 hsz
  obtain ⟨x0, x1, x2⟩ := Q3.out.cells
  go_wp2_with fail
  refine (HPR.out _ HB3.out).mono ?_
  rintro e w4 ⟨rfl, hb4⟩
  have HB4 := Lib.hid (HB3.out.trans (hb4.mono HB3.out.size))
  have Q4 := Lib.hid (Q3.out.below hb4)
  clear hb4 x0 x1 x2 Q3 HB3
  go_wp2_with fail
  refine (HP1.out _ HB4.out).mono ?_
  rintro e w5 ⟨qa, qc, rfl, hrq, hb5⟩
  have hb5a := hb5.alloc hb5.size (.cells #[.bool hard, .string ver, .slice qa l.length qc] 25)
  have HB5 := Lib.hid (HB4.out.trans (hb5a.mono HB4.out.size))
  have Q5 := Lib.hid (Q4.out.below hb5a)
  have QQ := Lib.hid (show VarR (w5.alloc (.cells #[.bool hard, .string ver, .slice qa l.length qc] 25)) w5.heap.size hard ver (.slice qa l.length qc) l from VarR.new hrq)
  clear hb5 hb5a hrq Q4 HB4
  go_upto_region 4 with fail
  generalize (w5.alloc (.cells #[.bool hard, .string ver, .slice qa l.length qc] 25)) = w6 at HB5 Q5 QQ ⊢
  generalize w5.heap.size = QB at QQ ⊢
  obtain ⟨x0, x1, x2⟩ := Q5.out.cells
  go_wp2_with fail
  refine (HPR.out _ HB5.out).mono ?_
  rintro e w7 ⟨rfl, hb7⟩
  have HB7 := Lib.hid (HB5.out.trans (hb7.mono HB5.out.size))
  have Q7 := Lib.hid (Q5.out.below hb7)
  have QQ7 := Lib.hid (QQ.out.below hb7)
  clear hb7 x0 x1 x2 Q5 HB5 QQ
  go_wp2_with fail
  refine (HP2.out _ HB7.out).mono ?_
  rintro e w8 ⟨na, nc, rfl, hrn, hb8⟩
  have hb8a := hb8.alloc hb8.size (.cells #[.bool hard, .string ver, .slice na l.length nc] 25)
  have HB8 := Lib.hid (HB7.out.trans (hb8a.mono HB7.out.size))
  have Q8 := Lib.hid (Q7.out.below hb8a)
  have QQ8 := Lib.hid (QQ7.out.below hb8a)
  have QN8 := Lib.hid (show VarR (w8.alloc (.cells #[.bool hard, .string ver, .slice na l.length nc] 25)) w8.heap.size hard ver (.slice na l.length nc) l from VarR.new hrn)
  clear hb8 hb8a hrn Q7 HB7 QQ7
  go_upto_region 5 with fail
  generalize (w8.alloc (.cells #[.bool hard, .string ver, .slice na l.length nc] 25)) = w9 at HB8 Q8 QQ8 QN8 ⊢
  generalize w8.heap.size = NB8 at QN8 ⊢
  obtain ⟨x0, x1, x2⟩ := Q8.out.cells
  obtain ⟨y0, y1, y2⟩ := QQ8.out.cells
  go_wp2_with fail
  refine (refSame_eq hard ver _ _ l _ Q8.out.2 QQ8.out.2).mono ?_
  rintro e wa ⟨rfl, hba⟩
  have HBA := Lib.hid (HB8.out.trans (hba.mono HB8.out.size))
  have QA := Lib.hid (Q8.out.below hba)
  have QNA := Lib.hid (QN8.out.below hba)
  clear hba x0 x1 x2 y0 y1 y2 Q8 HB8 QQ8 QN8
  obtain ⟨x0, x1, x2⟩ := QA.out.cells
  obtain ⟨y0, y1, y2⟩ := QNA.out.cells
  go_wp2_with fail
  refine (refSame_eq hard ver _ _ l _ QA.out.2 QNA.out.2).mono ?_
  rintro e wb ⟨rfl, hbb⟩
  have HBB := Lib.hid (HBA.out.trans (hbb.mono HBA.out.size))
  clear hbb x0 x1 x2 y0 y1 y2 QA QNA HBA
  go_wp2_with fail
  refine (HLV.out _ HBB.out).mono ?_
  rintro e wz ⟨rfl, hbz⟩
  go_wp2
  go_ret
  exact ⟨rfl, (HBB.out).trans (hbz.mono (HBB.out).size)⟩

theorem laid_met_BoundsBack (os : Os) : laidMet Tryd.prog Rows.boundsBackRow.laid ((laidWorld #[.agg #[.bool false, .string .empty, .slice none 0 0]] os).forCall (fun _ _ => 0) ⟨#[], #[.agg #[.bool false, .string .empty, .slice none 0 0]], []⟩).memory :=
  laidMet_of_run' 8 (by kernel_rfl) (by kernel_rfl)
theorem reads_BoundsBack (os : Os) {H : Type} (enc : TypeId × Value → H) : ∃ places, DataW.whole enc Tryd.prog ((laidWorld #[.agg #[.bool false, .string .empty, .slice none 0 0]] os).forCall (fun _ _ => 0) ⟨#[], #[.agg #[.bool false, .string .empty, .slice none 0 0]], []⟩).memory Tryd.f4.params.toList Rows.boundsBackSpec.vars false (#[.agg #[.bool false, .string .empty, .slice none 0 0]] : Array Value).toList 8 = some ([.agg [.lit (.bool false), .lit (.string []), .nil]], [], places) :=
  ⟨[], by kernel_rfl⟩
set_option maxRecDepth 100000 in
theorem lifted_BoundsBack (os : Os) (started : os.Started) (H : Type) (enc : TypeId × Value → H) (F : Stop.Interp) :
    ReturnsInHanded {} Tryd.checked os 4 .any ((OpenSpec.ofChange Rows.boundsBackSpec).preRow enc Tryd.prog Tryd.f4 Rows.boundsBackRow.domain false Rows.boundsBackRow.laid) (((OpenSpec.ofChange Rows.boundsBackSpec).at F).post enc Tryd.prog Tryd.f4 false true false false) := by
  obtain ⟨places, hx⟩ := reads_BoundsBack os enc
  refine returnsInHanded_of_row (C := Tryd.checked) (s := OpenSpec.ofChange Rows.boundsBackSpec) own_knob started (by kernel_rfl) Tryd.func4
    (witness_row_at (enc := enc) (C := Tryd.checked) false (laidWorld #[.agg #[.bool false, .string .empty, .slice none 0 0]] os) #[.agg #[.bool false, .string .empty, .slice none 0 0]] rfl (by kernel_rfl) (by kernel_rfl) (by kernel_rfl)
      (OpenSpec.preRow_of_cond 8 hx (by kernel_rfl) (fun k hk => by cases hk) (by kernel_rfl) (laid_met_BoundsBack os))) ?_
  intro W base args ds gs before hval0 hW _ _ _ hL hsh _
  have hU : Lib.Utf8Tabs 1 2 W :=
    utf8Tabs_of_reads (ρ := Tryd.lays260_ren) { Tryd.lays260 with } ⟨by kernel_rfl, by kernel_rfl, by kernel_rfl, by kernel_rfl, by kernel_rfl, by kernel_rfl, by kernel_rfl⟩ (Lib.laidMet.reads hL (.tail _ (.head _))) (Lib.laidMet.reads hL (.head _))
  have hval : ∀ (j : Nat) t v, Tryd.f4.params[j]? = some t → args[j]? = some v → Value.okWide Tryd.prog W .any base t v := hval0
  have hW' := hW
  obtain ⟨p, q, hA0, hV, rfl, _, _⟩ := hW
  have hA : DataW.TrodAll enc Tryd.prog W 0 (fun _ => true) true Tryd.f4.params.toList args.toList ds p := hA0
  rw [Tryd.params4] at hA hval
  obtain ⟨v0, vs0, d0, ds0, p0, q0, hargs, rfl, rfl, h0, r0⟩ := trodAll_cons hA
  obtain ⟨rfl, rfl, rfl⟩ := trodAll_nil r0
  obtain rfl : args = #[v0] := by cases args; simp_all
  obtain ⟨rfl, rfl⟩ := trodVars_none hV
  obtain ⟨hd0, vr0, pv0, l0, rfl, rd0, ov0, ol0⟩ := open_range (hval 0 25 v0 rfl rfl) h0
  clear hA0 hval0
  refine (walk_BoundsBack hd0 vr0 pv0 l0 ov0 ol0 W rd0 hU).mono fun e W' ⟨he, hb⟩ => ?_
  subst he
  exact ⟨_, rfl, law_post (by kernel_rfl) rfl rfl rfl hW' hb⟩
theorem said_BoundsBack : Rows.BoundsBackSaid :=
  OpenClaim.holds_of_cond 4 Tryd.f4 rfl rfl rfl rfl rfl rfl rfl ⟨rfl, rfl, rfl, rfl, rfl⟩ rfl rfl rfl rfl rfl (by kernel_rfl) Tryd.func4 (by kernel_rfl)
    (of_decide_eq_true (by kernel_rfl)) (by unfold Func.isWrapper; first | (rw [if_pos (by decide +kernel)]; kernel_rfl) | (rw [if_neg (by decide +kernel)]; exact ⟨rfl, rfl⟩))
    (fun os started H enc _ F => by rw [OpenClaim.pre_eq_preRow]; exact lifted_BoundsBack os started H enc F)
set_option maxRecDepth 100000 in
theorem plain_BoundsBack (f : FuncId) (fn : Func) (hf : Tryd.pinned.checked.prog.funcNamed "pomace/pomacelaw05.BoundsBack" = some f) (hfn : Tryd.pinned.checked.prog.funcs[f]? = some fn) :
    true = Tryd.pinned.checked.prog.looks [] ∧ ∀ (j : Nat) t, fn.params[j]? = some t → Tryd.pinned.checked.prog.wantsStandIn t = false := by
  obtain rfl : f = 4 := Option.some.inj ((show Tryd.prog.funcNamed "pomace/pomacelaw05.BoundsBack" = some 4 by kernel_rfl).symm.trans hf) |>.symm
  obtain rfl : fn = Tryd.f4 := (Option.some.inj (Tryd.func4.symm.trans hfn)).symm
  refine ⟨by kernel_rfl, fun j t ht => ?_⟩
  rw [Tryd.params4] at ht
  have h := Array.mem_of_getElem? ht
  simp only [List.mem_toArray, List.mem_cons, List.not_mem_nil, or_false] at h
  rcases h with rfl
  all_goals first
    | exact (show Tryd.prog.wantsStandIn 25 = false by kernel_rfl)

/-- the statement of BoundsBack: its card -/
theorem proved_BoundsBack : Rows.BoundsBackCardSaid :=
  Claim7.holds_tied_plain_at .later [] _ _ _ _ said_BoundsBack (fun _ h => by cases h) (by kernel_rfl) (fun _ h => by cases h) boundsBack_row_tie rfl ⟨rfl, rfl⟩ (by kernel_rfl) rfl plain_BoundsBack (by kernel_rfl)
end Go.Proofs.YtnghagikchffiaaDoor
