/-
  Layer 6: the card CoordTogether.
-/
import Derived.Test.YtinhedegbaegnaaDoorLaws06a
namespace Go.Proofs.YtinhedegbaegnaaDoor
set_option linter.unusedVariables false
set_option linter.unusedSimpArgs false
open Go.ChangeShapes Go.WideShapes Go.ChangeAt Go.RowKit
open Go.ChangeMaps (open_string shut_string)

theorem derI_assoc (a b c : Int) : derI (derI a b) c = derI a (derI b c) := by
  have key : ∀ x : Int, (x = 1 ∨ x = 2 ∨ x = 3 ∨ x = 4 ∨ x = 5) ∨ (x ≠ 1 ∧ x ≠ 2 ∧ x ≠ 3 ∧ x ≠ 4 ∧ x ≠ 5) := fun x => by omega
  unfold derI
  repeat' split
  all_goals omega
theorem widerI_assoc (a b c : Int) : widerI (widerI a b) c = widerI a (widerI b c) := by
  unfold widerI
  generalize ha : widI a = x
  generalize hb : widI b = y
  generalize hc : widI c = z
  by_cases h1 : x < y <;> by_cases h2 : y < z <;> by_cases h3 : x < z <;> simp [h1, h2, h3, ha, hb, hc] <;> omega
theorem widerI_self (a : Int) : widerI a a = a := by unfold widerI; rw [if_neg (by omega)]
theorem widI_inj {a b : Int} (ha : 1 ≤ a ∧ a ≤ 5) (hb : 1 ≤ b ∧ b ≤ 5) (h : widI a = widI b) : a = b := by
  have e : ∀ x : Int, 1 ≤ x ∧ x ≤ 5 → widI x = 6 - x := by
    intro x hx
    have : x = 1 ∨ x = 2 ∨ x = 3 ∨ x = 4 ∨ x = 5 := by omega
    rcases this with rfl | rfl | rfl | rfl | rfl <;> rfl
  rw [e a ha, e b hb] at h
  omega
theorem widerI_comm {a b : Int} (ha : 1 ≤ a ∧ a ≤ 5) (hb : 1 ≤ b ∧ b ≤ 5) : widerI a b = widerI b a := by
  unfold widerI
  by_cases h1 : widI a < widI b
  · rw [if_pos h1, if_neg (by omega)]
  · by_cases h2 : widI b < widI a
    · rw [if_neg h1, if_pos h2]
    · rw [if_neg h1, if_neg h2]
      exact widI_inj ha hb (by omega)
theorem derI_wider (a b : Int) (h : derI a b ≠ 0) : widerI a (derI a b) = a ∧ visB (derI a b) 5 = true := by
  have hb : b = 1 ∨ b = 2 := by unfold derI at h; split at h <;> simp_all
  have ha : a = 1 ∨ a = 2 ∨ a = 3 ∨ a = 5 := by
    unfold derI at h
    rw [if_pos hb] at h
    split at h
    · simp_all
    · split at h
      · omega
      · simp_all
  rcases ha with rfl | rfl | rfl | rfl <;> rcases hb with rfl | rfl <;> decide

set_option maxHeartbeats 1000000 in
theorem walk_CoordTogether (a : Int) (ha : -9223372036854775808 ≤ a ∧ a ≤ 9223372036854775807) (b : Int) (hb : -9223372036854775808 ≤ b ∧ b ≤ 9223372036854775807) (c : Int) (hc : -9223372036854775808 ≤ c ∧ c ≤ 9223372036854775807) (w : World) (hm : MaxOk w) :
    Calls Tryd.prog 9 #[.int .i64 a, .int .i64 b, .int .i64 c] w fun e w' => e = .returned (.bool true) ∧ Below w.heap.size w w' := by
  clear ha hb hc
  have hl := lives06 w hm
  have HM := Lib.hid hl; clear hl hm
  have hd := derI_assoc a b c
  have hw := widerI_assoc a b c
  have hs := widerI_self a
  have hlaw : (1 ≤ a ∧ a ≤ 5 → 1 ≤ b ∧ b ≤ 5 → widerI a b = widerI b a) := fun h1 h2 => widerI_comm h1 h2
  have hdw := derI_wider a b
  by_cases hin : (1 ≤ a ∧ a ≤ 5) ∧ 1 ≤ b ∧ b ≤ 5
  · have hcm : (widerI a b != widerI b a) = false := by rw [hlaw hin.1 hin.2]; simp
    clear hlaw
    by_cases h0 : derI a b = 0
    · have hb0 : (derI a b == 0) = true := by simpa using h0
      clear hdw h0
      go_enter Tryd.func9, Tryd.ntmps9
      go_wp2_with (first
        | (go_at_call 31; refine (Derive_any _ _ _).mono ?_; rintro e w' ⟨rfl, rfl⟩)
        | (go_at_call 33; refine (Wider_any _ _ _).mono ?_; rintro e w' ⟨rfl, rfl⟩)
        | (go_at_call 35; refine (Visible_any _ _ _).mono ?_; rintro e w' ⟨rfl, rfl⟩)
        | (go_at_call 11; refine HM.out.mono ?_; rintro e w' ⟨rfl, hb⟩))
      all_goals (go_ret; exact ⟨rfl, by assumption⟩)
    · obtain ⟨h1, h2⟩ := hdw h0
      have hb0 : (derI a b == 0) = false := by simpa using h0
      clear hdw h0
      go_enter Tryd.func9, Tryd.ntmps9
      go_wp2_with (first
        | (go_at_call 31; refine (Derive_any _ _ _).mono ?_; rintro e w' ⟨rfl, rfl⟩)
        | (go_at_call 33; refine (Wider_any _ _ _).mono ?_; rintro e w' ⟨rfl, rfl⟩)
        | (go_at_call 35; refine (Visible_any _ _ _).mono ?_; rintro e w' ⟨rfl, rfl⟩)
        | (go_at_call 11; refine HM.out.mono ?_; rintro e w' ⟨rfl, hb⟩))
      all_goals (go_ret; exact ⟨rfl, by assumption⟩)
  · clear hlaw
    by_cases h0 : derI a b = 0
    · have hb0 : (derI a b == 0) = true := by simpa using h0
      clear hdw h0
      go_enter Tryd.func9, Tryd.ntmps9
      go_wp2_with (first
        | (go_at_call 31; refine (Derive_any _ _ _).mono ?_; rintro e w' ⟨rfl, rfl⟩)
        | (go_at_call 33; refine (Wider_any _ _ _).mono ?_; rintro e w' ⟨rfl, rfl⟩)
        | (go_at_call 35; refine (Visible_any _ _ _).mono ?_; rintro e w' ⟨rfl, rfl⟩)
        | (go_at_call 11; refine HM.out.mono ?_; rintro e w' ⟨rfl, hb⟩))
      all_goals (go_ret; exact ⟨rfl, by assumption⟩)
    · obtain ⟨h1, h2⟩ := hdw h0
      have hb0 : (derI a b == 0) = false := by simpa using h0
      clear hdw h0
      go_enter Tryd.func9, Tryd.ntmps9
      go_wp2_with (first
        | (go_at_call 31; refine (Derive_any _ _ _).mono ?_; rintro e w' ⟨rfl, rfl⟩)
        | (go_at_call 33; refine (Wider_any _ _ _).mono ?_; rintro e w' ⟨rfl, rfl⟩)
        | (go_at_call 35; refine (Visible_any _ _ _).mono ?_; rintro e w' ⟨rfl, rfl⟩)
        | (go_at_call 11; refine HM.out.mono ?_; rintro e w' ⟨rfl, hb⟩))
      all_goals (go_ret; exact ⟨rfl, by assumption⟩)

theorem laid_met_CoordTogether (os : Os) : laidMet Tryd.prog Rows.coordTogetherRow.laid ((laidWorld #[.int .i64 0, .int .i64 0, .int .i64 0] os).forCall (fun _ _ => 0) ⟨#[], #[.int .i64 0, .int .i64 0, .int .i64 0], []⟩).memory :=
  laidMet_of_run' 8 (by kernel_rfl) (by kernel_rfl)
theorem reads_CoordTogether (os : Os) {H : Type} (enc : TypeId × Value → H) : ∃ places, DataW.whole enc Tryd.prog ((laidWorld #[.int .i64 0, .int .i64 0, .int .i64 0] os).forCall (fun _ _ => 0) ⟨#[], #[.int .i64 0, .int .i64 0, .int .i64 0], []⟩).memory Tryd.f9.params.toList Rows.coordTogetherSpec.vars false (#[.int .i64 0, .int .i64 0, .int .i64 0] : Array Value).toList 8 = some ([.lit (.int .i64 0), .lit (.int .i64 0), .lit (.int .i64 0)], [], places) :=
  ⟨[], by kernel_rfl⟩
set_option maxRecDepth 100000 in
theorem lifted_CoordTogether (os : Os) (started : os.Started) (H : Type) (enc : TypeId × Value → H) (F : Stop.Interp) :
    ReturnsInHanded {} Tryd.checked os 9 .any ((OpenSpec.ofChange Rows.coordTogetherSpec).preRow enc Tryd.prog Tryd.f9 Rows.coordTogetherRow.domain false Rows.coordTogetherRow.laid) (((OpenSpec.ofChange Rows.coordTogetherSpec).at F).post enc Tryd.prog Tryd.f9 false true false false) := by
  obtain ⟨places, hx⟩ := reads_CoordTogether os enc
  refine returnsInHanded_of_row (C := Tryd.checked) (s := OpenSpec.ofChange Rows.coordTogetherSpec) own_knob started (by kernel_rfl) Tryd.func9
    (witness_row_at (enc := enc) (C := Tryd.checked) false (laidWorld #[.int .i64 0, .int .i64 0, .int .i64 0] os) #[.int .i64 0, .int .i64 0, .int .i64 0] rfl (by kernel_rfl) (by kernel_rfl) (by kernel_rfl)
      (OpenSpec.preRow_of_cond 8 hx (by kernel_rfl) (fun k hk => by cases hk) (by kernel_rfl) (laid_met_CoordTogether os))) ?_
  intro W base args ds gs before hval0 hW _ _ _ _ hsh _
  have hval : ∀ (j : Nat) t v, Tryd.f9.params[j]? = some t → args[j]? = some v → Value.okWide Tryd.prog W .any base t v := hval0
  have hm : MaxOk W := maxOk_of (maxLen_cell W hsh)
  have hW' := hW
  obtain ⟨p, q, hA0, hV, rfl, _, _⟩ := hW
  have hA : DataW.TrodAll enc Tryd.prog W 0 (fun _ => true) true Tryd.f9.params.toList args.toList ds p := hA0
  rw [Tryd.params9] at hA hval
  obtain ⟨v0, vs0, d0, ds0, p0, q0, hargs, rfl, rfl, h0, r0⟩ := trodAll_cons hA
  obtain ⟨v1, vs1, d1, ds1, p1, q1, rfl, rfl, rfl, h1, r1⟩ := trodAll_cons r0
  obtain ⟨v2, vs2, d2, ds2, p2, q2, rfl, rfl, rfl, h2, r2⟩ := trodAll_cons r1
  obtain ⟨rfl, rfl, rfl⟩ := trodAll_nil r2
  obtain rfl : args = #[v0, v1, v2] := by cases args; simp_all
  obtain ⟨rfl, rfl⟩ := trodVars_none hV
  obtain ⟨a0, rfl, rfl, rfl, w0⟩ := open_int Tryd.underlying3 (hval 0 3 v0 rfl rfl) h0
  obtain ⟨a1, rfl, rfl, rfl, w1⟩ := open_int Tryd.underlying3 (hval 1 3 v1 rfl rfl) h1
  obtain ⟨a2, rfl, rfl, rfl, w2⟩ := open_int Tryd.underlying3 (hval 2 3 v2 rfl rfl) h2
  clear hA0 hval0
  refine (walk_CoordTogether a0 (wf_i64 w0) a1 (wf_i64 w1) a2 (wf_i64 w2) W hm).mono fun e W' ⟨he, hb⟩ => ?_
  subst he
  exact ⟨_, rfl, law_post (by kernel_rfl) rfl rfl rfl hW' hb⟩
theorem said_CoordTogether : Rows.CoordTogetherSaid :=
  OpenClaim.holds_of_cond 9 Tryd.f9 rfl rfl rfl rfl rfl rfl rfl ⟨rfl, rfl, rfl, rfl, rfl⟩ rfl rfl rfl rfl rfl (by kernel_rfl) Tryd.func9 (by kernel_rfl)
    (of_decide_eq_true (by kernel_rfl)) (by unfold Func.isWrapper; first | (rw [if_pos (by decide +kernel)]; kernel_rfl) | (rw [if_neg (by decide +kernel)]; exact ⟨rfl, rfl⟩))
    (fun os started H enc _ F => by rw [OpenClaim.pre_eq_preRow]; exact lifted_CoordTogether os started H enc F)
theorem plain_CoordTogether (f : FuncId) (fn : Func) (hf : Tryd.pinned.checked.prog.funcNamed "pomace/pomacelaw06.CoordTogether" = some f) (hfn : Tryd.pinned.checked.prog.funcs[f]? = some fn) :
    false = Tryd.pinned.checked.prog.looks [] ∧ ∀ (j : Nat) t, fn.params[j]? = some t → Tryd.pinned.checked.prog.wantsStandIn t = false := by
  obtain rfl : f = 9 := Option.some.inj ((show Tryd.prog.funcNamed "pomace/pomacelaw06.CoordTogether" = some 9 by kernel_rfl).symm.trans hf) |>.symm
  obtain rfl : fn = Tryd.f9 := (Option.some.inj (Tryd.func9.symm.trans hfn)).symm
  refine ⟨by kernel_rfl, fun j t ht => ?_⟩
  rw [Tryd.params9] at ht
  have h := Array.mem_of_getElem? ht
  simp only [List.mem_toArray, List.mem_cons, List.not_mem_nil, or_false] at h
  rcases h with rfl | rfl | rfl
  all_goals first
    | exact (show Tryd.prog.wantsStandIn 3 = false by kernel_rfl)

/-- the statement of CoordTogether: its card -/
theorem proved_CoordTogether : Rows.CoordTogetherCardSaid :=
  Claim7.holds_tied_plain_at .later [] _ _ _ _ said_CoordTogether (fun _ h => by cases h) (by kernel_rfl) (fun _ h => by cases h) coordTogether_row_tie rfl ⟨rfl, rfl⟩ (by kernel_rfl) rfl plain_CoordTogether (by kernel_rfl)
end Go.Proofs.YtinhedegbaegnaaDoor
