/-
  Each law of layer 1 returns true for every input of its types, and turns nothing that was there: the statements CharsEscapes, CharsLowers, CharsRefs.
-/
import Derived.Test.YtjoljlcbkoakcaaLaw
import Derived.Test.YtjoljlcbkoakcaaLives01
import Derived.Test.YtjoljlcbkoakcaaRefRef
import Derived.Test.YtjoljlcbkoakcaaLower
namespace Go.Proofs.Ytjoljlcbkoakcaa
set_option linter.unusedVariables false
set_option linter.unusedSimpArgs false
open Go.ChangeShapes Go.WideShapes Go.ChangeAt Go.RowKit
open Go.ChangeMaps (open_string shut_string)

theorem walk_CharsEscapes (s : ByteArray) (hs : s.size ≤ 9223372036854775807) (b : Bool) (w : World) :
    Calls Try.prog 9 #[.string s, .bool b] w fun e w' => e = .returned (.bool true) ∧ Below w.heap.size w w' := by
  go_enter Try.func9, Try.ntmps9
  go_wp2_with fail
  refine (cut01_any s hs _).mono ?_
  rintro e w' ⟨t, rfl, ht, rfl⟩
  go_wp2_with fail
  refine (Escape_any b t (by omega) _).mono ?_
  rintro e w1 ⟨rfl, hb1⟩
  go_wp2_with fail
  refine (refEscape_any b t (by omega) _).mono ?_
  rintro e w' ⟨rfl, rfl⟩
  go_wp2_with fail
  refine (lives01 _).mono ?_
  rintro e w2 ⟨rfl, hb2⟩
  go_wp2
  go_ret
  exact ⟨rfl, hb1.trans (hb2.mono hb1.size)⟩

set_option maxHeartbeats 1000000 in
set_option maxRecDepth 100000 in
theorem walk_CharsLowers (s : ByteArray) (hs : s.size ≤ 9223372036854775807) (w : World) :
    Calls Try.prog 4 #[.string s] w fun e w' => e = .returned (.bool true) ∧ Below w.heap.size w w' := by
  go_enter Try.func4, Try.ntmps4
  go_wp2_with fail
  refine (cut01_any s hs _).mono ?_
  rintro e w' ⟨t, rfl, ht, rfl⟩
  obtain ⟨u, hu⟩ : ∃ u, u = str (lowS t.data.toList) := ⟨_, rfl⟩
  have c1 := fun w => Lower_any t (by omega) w
  rw [← hu] at c1
  have hul : u.data.toList = lowS t.data.toList := by rw [hu]; rfl
  have hus : u.size = t.size := by rw [hu, size_str]; simp [lowS]
  have c2 := fun w => Lower_any u (by omega) w
  rw [hul, lowS_lowS, ← hu] at c2
  have C1 := Lib.hid c1; clear c1
  have C2 := Lib.hid c2; clear c2 hu
  have HU := Lib.hid hul; clear hul
  have hne : ((u.size : Int) != (t.size : Int)) = false := by rw [bne_eq_false_iff_eq]; omega
  have HUS := Lib.hid hus; clear hus
  go_wp2_with fail
  refine (C1.out _).mono ?_
  rintro e w1 ⟨rfl, hb1⟩
  go_wp2_with fail
  refine (C2.out _).mono ?_
  rintro e w2 ⟨rfl, hb2⟩
  have hb := hb1.trans (hb2.mono hb1.size)
  clear hb1 hb2
  go_wp2
  go_loop [4] (fun i => ∃ k : Nat, k ≤ t.size ∧ i = .int .i64 k) (fun i => t.size - (intOf i).toNat)
  case atStart => exact ⟨0, Nat.zero_le _, rfl⟩
  case round =>
    obtain ⟨k, hk, rfl⟩ := hrel
    by_cases hlt : k < t.size
    · obtain ⟨c, hc⟩ : ∃ c, t.data.toList[k]? = some c := ⟨_, List.getElem?_eq_getElem (by simpa using hlt)⟩
      have hi1 := hidx t k c hc
      have hi2 := hidx u k (low1 c) (by rw [HU.out]; simp only [lowS, List.getElem?_map, hc]; rfl)
      clear hc
      have hc256 : (c.toNat : Int) < 256 := by have := c.toNat_lt; omega
      by_cases hup : 65 ≤ c.toNat ∧ c.toNat ≤ 90
      · rw [low1_add hup] at hi2
        have a1 : (65 : Int) ≤ c.toNat := by omega
        have a2 : (c.toNat : Int) ≤ 90 := by omega
        clear hup
        go_wp2
        go_round
        case rel => exact ⟨k + 1, by omega, by go_num⟩
        case measure => simp [intOf]; omega
      · rw [low1_same hup] at hi2
        have hcase : (c.toNat : Int) < 65 ∨ (65 : Int) ≤ c.toNat ∧ (90 : Int) < c.toNat := by omega
        clear hup
        rcases hcase with a1 | ⟨a0, a1⟩
        all_goals
          go_wp2
          go_round
          case rel => exact ⟨k + 1, by omega, by go_num⟩
          case measure => simp [intOf]; omega
    · go_wp2_with fail
      refine (lives01 _).mono ?_
      rintro e w3 ⟨rfl, hb3⟩
      go_wp2
      go_ret
      exact ⟨rfl, hb.trans (hb3.mono hb.size)⟩

theorem refS_why (l : List UInt8) : (refS l).2.2 = 0 ∨ (refS l).2.2 = 1 ∨ (refS l).2.2 = 2 := by
  have fin (b : Int) (l : List UInt8) (f j : Nat) : (finS b l f j).2.2 = 0 ∨ (finS b l f j).2.2 = 1 ∨ (finS b l f j).2.2 = 2 := by
    unfold finS
    repeat' split
    all_goals simp
  unfold refS numS
  repeat' split
  all_goals first | exact fin _ _ _ _ | simp

set_option maxHeartbeats 1000000 in
set_option maxRecDepth 100000 in
theorem walk_CharsRefs (s : ByteArray) (hs : s.size ≤ 9223372036854775807) (w : World) :
    Calls Try.prog 7 #[.string s] w fun e w' => e = .returned (.bool true) ∧ Below w.heap.size w w' := by
  go_enter Try.func7, Try.ntmps7
  go_wp2_with fail
  refine (cut01_any s hs _).mono ?_
  rintro e w' ⟨t, rfl, ht, rfl⟩
  have c1 := fun w => Ref_any t (by omega) w
  have c2 := fun w => refRef_any t (by omega) w
  have hy := refS_why t.data.toList
  generalize refS t.data.toList = x at c1 c2 hy
  obtain ⟨x1, x2, x3⟩ := x
  have C1 := Lib.hid c1; clear c1
  have C2 := Lib.hid c2; clear c2
  simp only at hy
  have i0 : ∀ w, (Instr.index 37 (.agg #[.int .i64 0, .int .i64 13, .int .i64 12]) (.int .i64 0)).run Try.prog w = .ok (.int .i64 0) w := fun _ => by kernel_rfl
  have i1 : ∀ w, (Instr.index 37 (.agg #[.int .i64 0, .int .i64 13, .int .i64 12]) (.int .i64 1)).run Try.prog w = .ok (.int .i64 13) w := fun _ => by kernel_rfl
  have i2 : ∀ w, (Instr.index 37 (.agg #[.int .i64 0, .int .i64 13, .int .i64 12]) (.int .i64 2)).run Try.prog w = .ok (.int .i64 12) w := fun _ => by kernel_rfl
  rcases hy with rfl | rfl | rfl
  all_goals
    go_wp2_with fail
    refine (C1.out _).mono ?_
    unfold refV
    rintro e w' ⟨rfl, rfl⟩
    go_wp2_with fail
    refine (C2.out _).mono ?_
    unfold refV2
    rintro e w1 ⟨rfl, hb1⟩
    go_wp2_with fail
    refine (lives01 _).mono ?_
    rintro e w2 ⟨rfl, hb2⟩
    go_wp2
    go_ret
    exact ⟨rfl, hb1.trans (hb2.mono hb1.size)⟩

set_option maxRecDepth 100000 in
theorem lifted_CharsEscapes (os : Os) (started : os.Started) (H : Type) (enc : TypeId × Value → H) :
    ReturnsInHanded {} Try.checked os 9 .any (Rows.charsEscapesSpec.pre6 enc Try.prog Try.f9 Rows.charsEscapesRow.domain false) (Rows.charsEscapesSpec.post enc Try.prog Try.f9 false true false false) := by
  refine returnsInHanded_of_change (C := Try.checked) own_knob started (by kernel_rfl) Try.func9
    (ChangeSpec.witness6 (enc := enc) (C := Try.checked) false ⟨#[], #[.string .empty, .bool false], []⟩ 8 (by kernel_rfl) (by kernel_rfl) (by kernel_rfl) (by kernel_rfl)) ?_
  intro W base args ds gs before hval0 hW _ _
  have hval : ∀ (j : Nat) t v, Try.f9.params[j]? = some t → args[j]? = some v → Value.okWide Try.prog W .any base t v := hval0
  have hW' := hW
  obtain ⟨p, q, hA0, hV, rfl, _, _⟩ := hW
  have hA : DataW.TrodAll enc Try.prog W 0 (fun _ => true) true Try.f9.params.toList args.toList ds p := hA0
  rw [Try.params9] at hA hval
  obtain ⟨v0, vs0, d0, ds0, p0, q0, hargs, rfl, rfl, h0, r0⟩ := trodAll_cons hA
  obtain ⟨v1, vs1, d1, ds1, p1, q1, rfl, rfl, rfl, h1, r1⟩ := trodAll_cons r0
  obtain ⟨rfl, rfl, rfl⟩ := trodAll_nil r1
  obtain rfl : args = #[v0, v1] := by cases args; simp_all
  obtain ⟨rfl, rfl⟩ := trodVars_none hV
  obtain ⟨a0, rfl, rfl, rfl, w0⟩ := open_string Try.underlying9 (hval 0 9 v0 rfl rfl) h0
  obtain ⟨a1, rfl, rfl, rfl⟩ := open_bool Try.underlying4 (hval 1 4 v1 rfl rfl) h1
  clear hA0 hval0
  refine (walk_CharsEscapes a0 (by unfold maxLen at w0; exact w0) a1 W).mono fun e W' ⟨he, hb⟩ => ?_
  subst he
  exact ⟨_, rfl, law_post (by kernel_rfl) rfl rfl rfl hW' hb⟩

/-- the statement of CharsEscapes -/
theorem proved_CharsEscapes : Rows.CharsEscapesSaid :=
  OpenClaim.holds_of_wide 9 Try.f9 rfl rfl rfl rfl rfl rfl rfl ⟨rfl, rfl, rfl, rfl, rfl⟩ rfl rfl rfl rfl rfl (by kernel_rfl) Try.func9 (by kernel_rfl)
    (of_decide_eq_true (by kernel_rfl)) (by unfold Func.isWrapper; first | (rw [if_pos (by decide +kernel)]; kernel_rfl) | (rw [if_neg (by decide +kernel)]; exact ⟨rfl, rfl⟩))
    (fun os started H enc _ => lifted_CharsEscapes os started H enc)

set_option maxRecDepth 100000 in
theorem lifted_CharsLowers (os : Os) (started : os.Started) (H : Type) (enc : TypeId × Value → H) :
    ReturnsInHanded {} Try.checked os 4 .any (Rows.charsLowersSpec.pre6 enc Try.prog Try.f4 Rows.charsLowersRow.domain false) (Rows.charsLowersSpec.post enc Try.prog Try.f4 false true false false) := by
  refine returnsInHanded_of_change (C := Try.checked) own_knob started (by kernel_rfl) Try.func4
    (ChangeSpec.witness6 (enc := enc) (C := Try.checked) false ⟨#[], #[.string .empty], []⟩ 8 (by kernel_rfl) (by kernel_rfl) (by kernel_rfl) (by kernel_rfl)) ?_
  intro W base args ds gs before hval0 hW _ _
  have hval : ∀ (j : Nat) t v, Try.f4.params[j]? = some t → args[j]? = some v → Value.okWide Try.prog W .any base t v := hval0
  have hW' := hW
  obtain ⟨p, q, hA0, hV, rfl, _, _⟩ := hW
  have hA : DataW.TrodAll enc Try.prog W 0 (fun _ => true) true Try.f4.params.toList args.toList ds p := hA0
  rw [Try.params4] at hA hval
  obtain ⟨v0, vs0, d0, ds0, p0, q0, hargs, rfl, rfl, h0, r0⟩ := trodAll_cons hA
  obtain ⟨rfl, rfl, rfl⟩ := trodAll_nil r0
  obtain rfl : args = #[v0] := by cases args; simp_all
  obtain ⟨rfl, rfl⟩ := trodVars_none hV
  obtain ⟨a0, rfl, rfl, rfl, w0⟩ := open_string Try.underlying9 (hval 0 9 v0 rfl rfl) h0
  clear hA0 hval0
  refine (walk_CharsLowers a0 (by unfold maxLen at w0; exact w0) W).mono fun e W' ⟨he, hb⟩ => ?_
  subst he
  exact ⟨_, rfl, law_post (by kernel_rfl) rfl rfl rfl hW' hb⟩

/-- the statement of CharsLowers -/
theorem proved_CharsLowers : Rows.CharsLowersSaid :=
  OpenClaim.holds_of_wide 4 Try.f4 rfl rfl rfl rfl rfl rfl rfl ⟨rfl, rfl, rfl, rfl, rfl⟩ rfl rfl rfl rfl rfl (by kernel_rfl) Try.func4 (by kernel_rfl)
    (of_decide_eq_true (by kernel_rfl)) (by unfold Func.isWrapper; first | (rw [if_pos (by decide +kernel)]; kernel_rfl) | (rw [if_neg (by decide +kernel)]; exact ⟨rfl, rfl⟩))
    (fun os started H enc _ => lifted_CharsLowers os started H enc)

set_option maxRecDepth 100000 in
theorem lifted_CharsRefs (os : Os) (started : os.Started) (H : Type) (enc : TypeId × Value → H) :
    ReturnsInHanded {} Try.checked os 7 .any (Rows.charsRefsSpec.pre6 enc Try.prog Try.f7 Rows.charsRefsRow.domain false) (Rows.charsRefsSpec.post enc Try.prog Try.f7 false true false false) := by
  refine returnsInHanded_of_change (C := Try.checked) own_knob started (by kernel_rfl) Try.func7
    (ChangeSpec.witness6 (enc := enc) (C := Try.checked) false ⟨#[], #[.string .empty], []⟩ 8 (by kernel_rfl) (by kernel_rfl) (by kernel_rfl) (by kernel_rfl)) ?_
  intro W base args ds gs before hval0 hW _ _
  have hval : ∀ (j : Nat) t v, Try.f7.params[j]? = some t → args[j]? = some v → Value.okWide Try.prog W .any base t v := hval0
  have hW' := hW
  obtain ⟨p, q, hA0, hV, rfl, _, _⟩ := hW
  have hA : DataW.TrodAll enc Try.prog W 0 (fun _ => true) true Try.f7.params.toList args.toList ds p := hA0
  rw [Try.params7] at hA hval
  obtain ⟨v0, vs0, d0, ds0, p0, q0, hargs, rfl, rfl, h0, r0⟩ := trodAll_cons hA
  obtain ⟨rfl, rfl, rfl⟩ := trodAll_nil r0
  obtain rfl : args = #[v0] := by cases args; simp_all
  obtain ⟨rfl, rfl⟩ := trodVars_none hV
  obtain ⟨a0, rfl, rfl, rfl, w0⟩ := open_string Try.underlying9 (hval 0 9 v0 rfl rfl) h0
  clear hA0 hval0
  refine (walk_CharsRefs a0 (by unfold maxLen at w0; exact w0) W).mono fun e W' ⟨he, hb⟩ => ?_
  subst he
  exact ⟨_, rfl, law_post (by kernel_rfl) rfl rfl rfl hW' hb⟩

/-- the statement of CharsRefs -/
theorem proved_CharsRefs : Rows.CharsRefsSaid :=
  OpenClaim.holds_of_wide 7 Try.f7 rfl rfl rfl rfl rfl rfl rfl ⟨rfl, rfl, rfl, rfl, rfl⟩ rfl rfl rfl rfl rfl (by kernel_rfl) Try.func7 (by kernel_rfl)
    (of_decide_eq_true (by kernel_rfl)) (by unfold Func.isWrapper; first | (rw [if_pos (by decide +kernel)]; kernel_rfl) | (rw [if_neg (by decide +kernel)]; exact ⟨rfl, rfl⟩))
    (fun os started H enc _ => lifted_CharsRefs os started H enc)
end Go.Proofs.Ytjoljlcbkoakcaa
