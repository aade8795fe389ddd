/-
  Layer 8: the statement PropAll: for every properties. Own work.
-/
import Derived.Test.YthfholnnkdoagaaRAl8
import Derived.Test.YthfholnnkdoagaaSam8
namespace Go.Proofs.Ythfholnnkdoagaa
set_option linter.unusedVariables false
set_option linter.unusedSimpArgs false
open Go.ChangeShapes Go.WideShapes Go.ChangeAt Go.RowKit
open Go.ChangeMaps (open_string shut_string)

theorem own_low8 {w : World} {base base' e size n : Nat} {v : Value} {xs : List Value} (h : w.ownsRow base e size v n xs) (hb : base' ≤ base) : w.ownsRow base' e size v n xs := by
  refine ⟨h.1, ?_⟩
  rcases h.2 with hn | ⟨g, cap, cur, rfl, h1, rest⟩
  · exact .inl hn
  · exact .inr ⟨g, cap, cur, rfl, Nat.le_trans hb h1, rest⟩
def XaIs (x : Xa) (l : List Pp) (er : Int) (n : List UInt8) : Prop :=
  match x with
  | .ok l2 _ => l = l2 ∧ er = 0 ∧ n = []
  | .bad e2 n2 _ => l = [] ∧ er = e2 ∧ n = n2
/-- what All answers, and what lies behind its row -/
theorem all_two {S : Tb} {X : Nat → Prop} {x : Xa} {w w' : World} {e : Ending} (h : AllP8 S X x w e w') (hB : S.B ≤ w.heap.size) : Below S.B w w' ∧ ∃ (v : Value) (l : List Pp) (er : Int) (n : List UInt8), e = .returned (.tuple #[v, .int .i64 er, .string (str n)]) ∧ w'.ownsRow w.heap.size 33 2 v (prs l).length (rowPr (prs l)) ∧ XaIs x l er n := by
  refine ⟨h.1.under hB, ?_⟩
  cases x with
  | ok l D => obtain ⟨_, v, rfl, h2⟩ := h; exact ⟨v, l, 0, [], rfl, h2, rfl, rfl, rfl⟩
  | bad er n D => obtain ⟨_, rfl⟩ := h; exact ⟨_, [], er, n, rfl, World.ownsRow_nil _ _ _ _, rfl, rfl, rfl⟩
theorem all_two' {B : Nat} {x : Xa} {w w' : World} {e : Ending} (h : RAllP B x w e w') : Below B w w' ∧ ∃ (v : Value) (l : List Pp) (er : Int) (n : List UInt8), e = .returned (.tuple #[v, .int .i64 er, .string (str n)]) ∧ w'.ownsRow w.heap.size 33 2 v (prs l).length (rowPr (prs l)) ∧ XaIs x l er n := by
  refine ⟨h.1, ?_⟩
  cases x with
  | ok l D => obtain ⟨_, v, rfl, h2⟩ := h; exact ⟨v, l, 0, [], rfl, h2, rfl, rfl, rfl⟩
  | bad er n D => obtain ⟨_, rfl⟩ := h; exact ⟨_, [], er, n, rfl, World.ownsRow_nil _ _ _ _, rfl, rfl, rfl⟩
set_option maxRecDepth 100000 in
set_option maxHeartbeats 8000000 in
theorem walk_PropAll (w : World) (m : Int) (hm : w.cell? ⟨0, 0, none⟩ = some (.int .i64 m)) (v0 : Value) (l0 : List Pr) (h0 : RdPs w v0 l0) (ok0 : ∀ p ∈ l0, okPr p) :
    Calls Try.prog 6 #[v0] w fun e w' => e = .returned (.bool true) ∧ Below w.heap.size w w' := by
  have HF := Lib.hid (few8_any l0 v0 w h0 ok0)
  have HM := Lib.hid hm
  clear hm h0 ok0
  go_enter Try.func6, Try.ntmps6
  go_wp2_with fail
  refine HF.out.mono ?_
  rintro e w1 ⟨vL, L, rfl, hrow, hfit, hb1⟩
  obtain ⟨aL, cL, hvL⟩ := own_shape8 hrow
  have hpl : (prs L).length = L.length := prs_len L
  rw [hpl] at hvL
  subst hvL
  have HROW := Lib.hid hrow
  have HFIT := Lib.hid hfit
  have HB1 := Lib.hid hb1
  have hm1 := (hb1.cell (World.block_lt_of_cell? w _ HM.out)).trans HM.out
  have HN := Lib.hid (New8_any L (.slice aL L.length cL) m w1 (RdPs.of_own hrow) (by have := hfit.1; omega) (fun p hp => (hfit.2 p hp).1) hm1)
  clear HF hrow hfit hb1 hm1 hpl
  go_wp2_with fail
  refine HN.out.mono ?_
  rintro e w2 ⟨S, rfl, hst, hSB, hb2, hSm⟩
  have hwB : w.heap.size ≤ S.B := by rw [hSB]; exact HB1.out.size
  have HB2 := Lib.hid (HB1.out.trans (hb2.mono HB1.out.size))
  have HROW2 := Lib.hid (own_mvd8 HROW.out hb2)
  have hB2 : S.B ≤ w2.heap.size := own8_base (hst.st (X := fun _ => False) rfl (fun _ h => h.elim))
  have HALL := Lib.hid ((All8_any S (firsts [] L) HFIT.out.ok (fun _ => False) [] w2 (Q8.nil _ _) (hst.st rfl (fun _ h => h.elim))).mono fun e w' h => all_two h hB2)
  have hLB : ∀ k, (Value.slice aL L.length cL).ownBlock = some k → k < S.B := fun k hk => by
    obtain ⟨cs, q, _⟩ := own_ty HROW.out hk
    rw [hSB]
    exact (Array.getElem?_eq_some_iff.1 q).1
  clear HN hst hb2 HROW HB1 hSm hSB
  go_wp2_with fail
  refine HALL.out.mono ?_
  rintro e w3 ⟨hb3, va, la, ea, na, rfl, hra, hxa⟩
  have HROW3 := Lib.hid (own_frame HROW2.out fun k cs hk hc => (hb3.block k (hLB k hk)).trans hc)
  have HRA := Lib.hid hra
  have HB3 := Lib.hid (HB2.out.trans (hb3.mono hwB))
  obtain ⟨aa, ca, hva⟩ := own_shape8 hra
  rw [prs_len] at hva
  subst hva
  clear hb3 hra HROW2 HB2 HALL hLB hB2
  have hbb : Below w3.heap.size w3 (w3.alloc (.cells #[.slice aL L.length cL, .slice none 0 0, .int .i64 0, .string ⟨#[]⟩, .int .i64 0, .slice none 0 0] 44)) := (Below.refl _ _).alloc (Nat.le_refl _) _
  have hnew := heap_alloc_new w3 (.cells #[.slice aL L.length cL, .slice none 0 0, .int .i64 0, .string ⟨#[]⟩, .int .i64 0, .slice none 0 0] 44)
  have HRT := Lib.hid (show RT8 w3.heap.size w3.heap.size L (.slice aL L.length cL) 0 [] [] [] (.slice none 0 0) (.slice none 0 0) (w3.alloc (.cells #[.slice aL L.length cL, .slice none 0 0, .int .i64 0, .string ⟨#[]⟩, .int .i64 0, .slice none 0 0] 44)) from
    ⟨hnew, own_low8 (own_mvd8 HROW3.out hbb) (Nat.zero_le _), fun k hk => by
      obtain ⟨cs, q1, _⟩ := own_ty HROW3.out hk
      exact (Array.getElem?_eq_some_iff.1 q1).1, World.ownsRow_nil _ _ _ _, World.ownsRow_nil _ _ _ _, Nat.le_refl _⟩)
  have HRALL := Lib.hid ((rall8_any w3.heap.size w3.heap.size L (.slice aL L.length cL) (by have := HFIT.out.1; omega) (fun p hp => (HFIT.out.2 p hp).2) [] [] [] _ _ _ (Q8.nil _ _) HRT.out).mono fun e w' h => all_two' h)
  have HB4 := Lib.hid (HB3.out.trans (hbb.mono HB3.out.size))
  have HRA4 := Lib.hid (own_mvd8 HRA.out hbb)
  have hlt3 : ∀ k, (Value.slice aa la.length ca).ownBlock = some k → k < w3.heap.size := fun k hk => by
    obtain ⟨cs, q1, _⟩ := own_ty HRA.out hk
    exact (Array.getElem?_eq_some_iff.1 q1).1
  have hwB3 : w.heap.size ≤ w3.heap.size := HB3.out.size
  clear hnew hbb HRT HROW3 HB3 HRA
  go_wp2_with fail
  refine HRALL.out.mono ?_
  rintro e w5 ⟨hb5, vb, lb, eb, nb, rfl, hrb, hxb⟩
  have heq : la = lb ∧ ea = eb ∧ na = nb := by
    revert hxa hxb
    cases allGo (firsts [] L) (firsts [] L) [] [] with
    | ok l D => exact fun h1 h2 => ⟨h1.1.trans h2.1.symm, h1.2.1.trans h2.2.1.symm, h1.2.2.trans h2.2.2.symm⟩
    | bad er n D => exact fun h1 h2 => ⟨h1.1.trans h2.1.symm, h1.2.1.trans h2.2.1.symm, h1.2.2.trans h2.2.2.symm⟩
  obtain ⟨rfl, rfl, rfl⟩ := heq
  have hra5 := own_frame HRA4.out fun k cs hk hc => (hb5.block k (hlt3 k hk)).trans hc
  have HB5 := Lib.hid (HB4.out.trans (hb5.mono hwB3))
  obtain ⟨ab, cb, hvb⟩ := own_shape8 hrb
  rw [prs_len] at hvb
  subst hvb
  have HSM := Lib.hid (fun w' (hb : Below w5.heap.size w5 w') => SameProps_any _ _ (prs la) (prs la) w' ((RdPs.of_own hra5).below hb (Nat.le_refl _)) ((RdPs.of_own hrb).below hb (Nat.le_refl _)))
  rw [sameL_self samePr_self] at HSM
  have HLV := Lib.hid (fun w' (hb : Below w.heap.size w w') => lives8 m w' ((hb.cell (World.block_lt_of_cell? w _ HM.out)).trans HM.out))
  clear hra5 hrb hb5 hxa hxb HRALL HRA4 HB4 hlt3
  generalize str na = sn
  go_upto_region 4 with fail
  go_wp2_with fail
  refine (HSM.out _ (Below.refl _ _)).mono ?_
  rintro e w6 ⟨rfl, hb6⟩
  have HB6 := Lib.hid (HB5.out.trans (hb6.mono HB5.out.size))
  clear hb6 HSM
  go_wp2_with fail
  refine (HLV.out _ HB6.out).mono ?_
  rintro e w7 ⟨rfl, hb7⟩
  have HZ := Lib.hid (HB6.out.trans (hb7.mono HB6.out.size))
  clear hb7 HLV
  go_wp2
  go_ret
  exact ⟨rfl, HZ.out⟩

theorem laid_met_PropAll (os : Os) : laidMet Try.prog Rows.propAllRow.laid ((laidWorld #[.slice none 0 0] os).forCall (fun _ _ => 0) ⟨#[], #[.slice none 0 0], []⟩).memory :=
  laidMet_of_run' 8 (by kernel_rfl) (by kernel_rfl)
theorem reads_PropAll (os : Os) {H : Type} (enc : TypeId × Value → H) : ∃ places, DataW.whole enc Try.prog ((laidWorld #[.slice none 0 0] os).forCall (fun _ _ => 0) ⟨#[], #[.slice none 0 0], []⟩).memory Try.f6.params.toList Rows.propAllSpec.vars false (#[.slice none 0 0] : Array Value).toList 8 = some ([.nil], [], places) :=
  ⟨[], by kernel_rfl⟩
set_option maxRecDepth 100000 in
theorem lifted_PropAll (os : Os) (started : os.Started) (H : Type) (enc : TypeId × Value → H) (F : Stop.Interp) :
    ReturnsInHanded {} Try.checked os 6 .any ((OpenSpec.ofChange Rows.propAllSpec).preRow enc Try.prog Try.f6 Rows.propAllRow.domain false Rows.propAllRow.laid) (((OpenSpec.ofChange Rows.propAllSpec).at F).post enc Try.prog Try.f6 false true false false) := by
  obtain ⟨places, hx⟩ := reads_PropAll os enc
  refine returnsInHanded_of_row (C := Try.checked) (s := OpenSpec.ofChange Rows.propAllSpec) own_knob started (by kernel_rfl) Try.func6
    (witness_row_at (enc := enc) (C := Try.checked) false (laidWorld #[.slice none 0 0] os) #[.slice none 0 0] rfl (by kernel_rfl) (by kernel_rfl) (by kernel_rfl)
      (OpenSpec.preRow_of_cond 8 hx (by kernel_rfl) (fun k hk => by cases hk) (by kernel_rfl) (laid_met_PropAll os))) ?_
  intro W base args ds gs before hval0 hW _ _ _ _ hsh _
  have hval : ∀ (j : Nat) t v, Try.f6.params[j]? = some t → args[j]? = some v → Value.okWide Try.prog W .any base t v := hval0
  obtain ⟨m, hm⟩ := maxLen_cell W hsh
  have hW' := hW
  obtain ⟨p, q, hA0, hV, rfl, _, _⟩ := hW
  have hA : DataW.TrodAll enc Try.prog W 0 (fun _ => true) true Try.f6.params.toList args.toList ds p := hA0
  rw [Try.params6] at hA hval
  obtain ⟨v0, vs0, d0, ds0, p0, q0, hargs, rfl, rfl, h0, r0⟩ := trodAll_cons hA
  obtain ⟨rfl, rfl, rfl⟩ := trodAll_nil r0
  obtain rfl : args = #[v0] := by cases args; simp_all
  obtain ⟨rfl, rfl⟩ := trodVars_none hV
  obtain ⟨l0, g0, w0⟩ := open_props (hval 0 27 v0 rfl rfl) h0
  clear hA0 hval0
  refine (walk_PropAll W m hm v0 l0 g0 w0).mono fun e W' ⟨he, hb⟩ => ?_
  subst he
  exact ⟨_, rfl, law_post (by kernel_rfl) rfl rfl rfl hW' hb⟩
/-- the statement of PropAll -/
theorem proved_PropAll : Rows.PropAllSaid :=
  OpenClaim.holds_of_cond 6 Try.f6 rfl rfl rfl rfl rfl rfl rfl ⟨rfl, rfl, rfl, rfl, rfl⟩ rfl rfl rfl rfl rfl (by kernel_rfl) Try.func6 (by kernel_rfl)
    (of_decide_eq_true (by kernel_rfl)) (by unfold Func.isWrapper; first | (rw [if_pos (by decide +kernel)]; kernel_rfl) | (rw [if_neg (by decide +kernel)]; exact ⟨rfl, rfl⟩))
    (fun os started H enc _ F => by rw [OpenClaim.pre_eq_preRow]; exact lifted_PropAll os started H enc F)
end Go.Proofs.Ythfholnnkdoagaa
