/-
  Layer 8: the statement PropRefs: for every text. Own work.
-/
import Derived.Test.YthfholnnkdoagaaOp8
namespace Go.Proofs.Ythfholnnkdoagaa
set_option linter.unusedVariables false
set_option linter.unusedSimpArgs false
open Go.ChangeShapes Go.WideShapes Go.ChangeAt Go.RowKit
open Go.ChangeMaps (open_string shut_string)

theorem RowS.at {w w' : World} {v : Value} {l : List (List UInt8)} {a : Option Addr} {c : Nat} {i : Nat} {n : List UInt8} (h : RowS w v l w') (hv : v = .slice a l.length c) (hi : l[i]? = some n) : ∃ g, a = some ⟨g, 0, none⟩ ∧ w'.cell? ⟨g, i, none⟩ = some (.string (str n)) := by
  obtain ⟨g, cap, hvf, _, _⟩ := h.1.form (by have := (List.getElem?_eq_some_iff.1 hi).1; omega)
  rw [hv] at hvf
  cases hvf
  refine ⟨g, rfl, ?_⟩
  have h1 := h.1.cells (g := g) (by rw [hv]; rfl) i (.string (str n)) (by unfold strVs; rw [List.getElem?_map, hi]; rfl)
  rw [add_q] at h1
  exact h1
theorem RowS.shape {w w' : World} {v : Value} {l : List (List UInt8)} (h : RowS w v l w') : ∃ a c, v = .slice a l.length c := by
  rcases h.1.2 with ⟨rfl, h0⟩ | ⟨g, cap, cur, rfl, _⟩
  · exact ⟨none, 0, by rw [h0]⟩
  · exact ⟨_, _, rfl⟩
theorem RowS.far {w w1 w2 : World} {v : Value} {l : List (List UInt8)} (h : RowS w v l w1) (hb : Below w1.heap.size w1 w2) : RowS w v l w2 :=
  ⟨own_mvd8 h.1 hb, h.2.trans (hb.mono h.2.size)⟩
set_option maxRecDepth 100000 in
set_option maxHeartbeats 4000000 in
theorem walk_PropRefs (w : World) (m : Int) (hm : w.cell? ⟨0, 0, none⟩ = some (.int .i64 m)) (s : ByteArray) (hs : s.size ≤ 9223372036854775807) :
    Calls Try.prog 3 #[.string s] w fun e w' => e = .returned (.bool true) ∧ Below w.heap.size w w' := by
  have HC := Lib.hid (cutL8_any s hs w)
  have HM := Lib.hid hm
  clear hm
  go_enter Try.func3, Try.ntmps3
  go_wp2_with fail
  refine HC.out.mono ?_
  rintro e w1 ⟨l, rfl, hl, hw1⟩
  obtain rfl : w = w1 := hw1.symm
  have HR := Lib.hid (Refs8_any l (by omega) m w HM.out)
  clear HC
  go_wp2_with fail
  refine HR.out.mono ?_
  rintro e w2 ⟨v2, rfl, h2⟩
  have HR2 := Lib.hid (refRefs8_any l (by omega) w2)
  have H2 := Lib.hid h2
  clear HR h2
  go_wp2_with fail
  refine HR2.out.mono ?_
  rintro e w3 ⟨v3, rfl, h3⟩
  have H3 := Lib.hid h3
  have H23 := Lib.hid (H2.out.far h3.2)
  have HB := Lib.hid (H2.out.2.trans (h3.2.mono H2.out.2.size))
  clear h3 HR2 H2
  generalize refsM (l.length + 1) l = ns at H3 H23
  obtain ⟨a2, c2, rfl⟩ := H23.out.shape
  obtain ⟨a3, c3, rfl⟩ := H3.out.shape
  have hnl : ns.length ≤ 9223372036854775807 := by
    rcases H3.out.1.2 with ⟨_, h0⟩ | ⟨g, cap, cur, _, _, _, h1, h4, _⟩
    · omega
    · unfold maxLen at h4; omega
  go_upto_region 6 with fail
  go_loopw [19] (fun i wr => ∃ k : Nat, k ≤ ns.length ∧ i = .int .i64 k ∧ Below w3.heap.size w3 wr) (fun i _ => ns.length - (intOf i).toNat)
  case atStart => exact ⟨0, by omega, rfl, Below.refl _ _⟩
  case round =>
    obtain ⟨k, hk, rfl, hwr⟩ := hrel
    have HW := Lib.hid hwr
    clear hwr
    by_cases hlt : k < ns.length
    · obtain ⟨n, hn⟩ : ∃ n, ns[k]? = some n := ⟨_, List.getElem?_eq_getElem hlt⟩
      obtain ⟨g2, hg2, c2'⟩ := (H23.out.far HW.out).at rfl hn
      obtain ⟨g3, hg3, c3'⟩ := (H3.out.far HW.out).at rfl hn
      subst hg2
      subst hg3
      have hkI : (k : Int) < (ns.length : Int) := by omega
      clear hn
      go_upto_region 8 with fail
      go_region
      all_goals
        go_wp2
        go_roundw
        case rel => exact ⟨k + 1, by omega, by go_num, HW.out.drew⟩
        case measure => simp [intOf]; omega
    · have hle : (ns.length : Int) ≤ k := by omega
      have HB := Lib.hid (HB.out.trans (HW.out.mono HB.out.size))
      have hm3 := (HB.out.cell (World.block_lt_of_cell? w _ HM.out)).trans HM.out
      have HL := Lib.hid (lives8 m wr hm3)
      clear hm3
      go_wp2_with fail
      refine HL.out.mono ?_
      rintro e w4 ⟨rfl, hb4⟩
      have HZ := Lib.hid (HB.out.trans (hb4.mono HB.out.size))
      clear hb4
      go_wp2
      go_ret
      exact ⟨rfl, HZ.out⟩

theorem laid_met_PropRefs (os : Os) : laidMet Try.prog Rows.propRefsRow.laid ((laidWorld #[.string .empty] os).forCall (fun _ _ => 0) ⟨#[], #[.string .empty], []⟩).memory :=
  laidMet_of_run' 8 (by kernel_rfl) (by kernel_rfl)
theorem reads_PropRefs (os : Os) {H : Type} (enc : TypeId × Value → H) : ∃ places, DataW.whole enc Try.prog ((laidWorld #[.string .empty] os).forCall (fun _ _ => 0) ⟨#[], #[.string .empty], []⟩).memory Try.f3.params.toList Rows.propRefsSpec.vars false (#[.string .empty] : Array Value).toList 8 = some ([.lit (.string [])], [], places) :=
  ⟨[], by kernel_rfl⟩
set_option maxRecDepth 100000 in
theorem lifted_PropRefs (os : Os) (started : os.Started) (H : Type) (enc : TypeId × Value → H) (F : Stop.Interp) :
    ReturnsInHanded {} Try.checked os 3 .any ((OpenSpec.ofChange Rows.propRefsSpec).preRow enc Try.prog Try.f3 Rows.propRefsRow.domain false Rows.propRefsRow.laid) (((OpenSpec.ofChange Rows.propRefsSpec).at F).post enc Try.prog Try.f3 false true false false) := by
  obtain ⟨places, hx⟩ := reads_PropRefs os enc
  refine returnsInHanded_of_row (C := Try.checked) (s := OpenSpec.ofChange Rows.propRefsSpec) own_knob started (by kernel_rfl) Try.func3
    (witness_row_at (enc := enc) (C := Try.checked) false (laidWorld #[.string .empty] os) #[.string .empty] rfl (by kernel_rfl) (by kernel_rfl) (by kernel_rfl)
      (OpenSpec.preRow_of_cond 8 hx (by kernel_rfl) (fun k hk => by cases hk) (by kernel_rfl) (laid_met_PropRefs os))) ?_
  intro W base args ds gs before hval0 hW _ _ _ _ hsh _
  have hval : ∀ (j : Nat) t v, Try.f3.params[j]? = some t → args[j]? = some v → Value.okWide Try.prog W .any base t v := hval0
  obtain ⟨m, hm⟩ := maxLen_cell W hsh
  have hW' := hW
  obtain ⟨p, q, hA0, hV, rfl, _, _⟩ := hW
  have hA : DataW.TrodAll enc Try.prog W 0 (fun _ => true) true Try.f3.params.toList args.toList ds p := hA0
  rw [Try.params3] at hA hval
  obtain ⟨v0, vs0, d0, ds0, p0, q0, hargs, rfl, rfl, h0, r0⟩ := trodAll_cons hA
  obtain ⟨rfl, rfl, rfl⟩ := trodAll_nil r0
  obtain rfl : args = #[v0] := by cases args; simp_all
  obtain ⟨rfl, rfl⟩ := trodVars_none hV
  obtain ⟨a0, rfl, rfl, rfl, w0⟩ := open_string Try.underlying9 (hval 0 9 v0 rfl rfl) h0
  clear hA0 hval0
  refine (walk_PropRefs W m hm a0 (by unfold maxLen at w0; exact w0)).mono fun e W' ⟨he, hb⟩ => ?_
  subst he
  exact ⟨_, rfl, law_post (by kernel_rfl) rfl rfl rfl hW' hb⟩
/-- the statement of PropRefs -/
theorem proved_PropRefs : Rows.PropRefsSaid :=
  OpenClaim.holds_of_cond 3 Try.f3 rfl rfl rfl rfl rfl rfl rfl ⟨rfl, rfl, rfl, rfl, rfl⟩ rfl rfl rfl rfl rfl (by kernel_rfl) Try.func3 (by kernel_rfl)
    (of_decide_eq_true (by kernel_rfl)) (by unfold Func.isWrapper; first | (rw [if_pos (by decide +kernel)]; kernel_rfl) | (rw [if_neg (by decide +kernel)]; exact ⟨rfl, rfl⟩))
    (fun os started H enc _ F => by rw [OpenClaim.pre_eq_preRow]; exact lifted_PropRefs os started H enc F)
end Go.Proofs.Ythfholnnkdoagaa
