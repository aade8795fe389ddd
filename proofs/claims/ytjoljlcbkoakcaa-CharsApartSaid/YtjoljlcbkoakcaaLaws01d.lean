/-
  Each law of layer 1 returns true for every input of its types, and turns nothing that was there: the statement CharsApart.
-/
import Derived.Test.YtjoljlcbkoakcaaLaw
import Derived.Test.YtjoljlcbkoakcaaLives01
import Derived.Test.YtjoljlcbkoakcaaRefRef
import Derived.Test.YtjoljlcbkoakcaaLower
namespace Go.Proofs.Ytjoljlcbkoakcaa
set_option linter.unusedVariables false
set_option linter.unusedSimpArgs false
open Go.ChangeShapes Go.WideShapes Go.ChangeAt Go.RowKit
open Go.ChangeMaps (open_string shut_string)

theorem b8_eq {a b : Int} (h : UInt8.ofNat a.toNat = UInt8.ofNat b.toNat) (ha : 0 ≤ a) (hb : 0 ≤ b) (ha2 : a ≤ 255) (hb2 : b ≤ 255) : a = b := by
  have := congrArg UInt8.toNat h
  simp at this
  omega
theorem let_list {n : Int} (h : letOk n = true) :
    (0 ≤ n ∧ n < 128 ∧ (letB n).data.toList = [n].map (fun n => UInt8.ofNat n.toNat)) ∨
    (128 ≤ n ∧ n < 2048 ∧ (letB n).data.toList = [192 + n / 64, 128 + n % 64].map (fun n => UInt8.ofNat n.toNat)) ∨
    (2048 ≤ n ∧ n < 65536 ∧ (letB n).data.toList = [224 + n / 4096, 128 + n / 64 % 64, 128 + n % 64].map (fun n => UInt8.ofNat n.toNat)) ∨
    (65536 ≤ n ∧ n ≤ 1114111 ∧ (letB n).data.toList = [240 + n / 262144, 128 + n / 4096 % 64, 128 + n / 64 % 64, 128 + n % 64].map (fun n => UInt8.ofNat n.toNat)) := by
  have h0 : 0 ≤ n ∧ n ≤ 1114111 := by simp [letOk] at h; omega
  rcases Int.lt_or_le n 128 with h1 | h1
  · exact .inl ⟨h0.1, h1, by rw [← enc1 h h1]; rfl⟩
  rcases Int.lt_or_le n 2048 with h2 | h2
  · exact .inr (.inl ⟨h1, h2, by rw [← enc2 h h1 h2]; rfl⟩)
  rcases Int.lt_or_le n 65536 with h3 | h3
  · exact .inr (.inr (.inl ⟨h2, h3, by rw [← enc3 h h2 h3]; rfl⟩))
  · exact .inr (.inr (.inr ⟨h3, h0.2, by rw [← enc4 h h3]; rfl⟩))
theorem let_apart {a b : Int} (ha : letOk a = true) (hb : letOk b = true) (hne : a ≠ b) : ¬ (letB a).data.toList <+: (letB b).data.toList := by
  intro hp
  rcases let_list ha with ⟨a1, a2, ea⟩ | ⟨a1, a2, ea⟩ | ⟨a1, a2, ea⟩ | ⟨a1, a2, ea⟩ <;> rcases let_list hb with ⟨b1, b2, eb⟩ | ⟨b1, b2, eb⟩ | ⟨b1, b2, eb⟩ | ⟨b1, b2, eb⟩
  all_goals
    rw [ea, eb] at hp
    simp only [List.map_cons, List.map_nil, List.cons_prefix_cons] at hp
  all_goals first
    | (have := b8_eq hp.1 (by omega) (by omega) (by omega) (by omega); omega)
    | (have e1 := b8_eq hp.1 (by omega) (by omega) (by omega) (by omega)
       have e2 := b8_eq hp.2.1 (by omega) (by omega) (by omega) (by omega)
       omega)
    | (have e1 := b8_eq hp.1 (by omega) (by omega) (by omega) (by omega)
       have e2 := b8_eq hp.2.1 (by omega) (by omega) (by omega) (by omega)
       have e3 := b8_eq hp.2.2.1 (by omega) (by omega) (by omega) (by omega)
       omega)
    | (have e1 := b8_eq hp.1 (by omega) (by omega) (by omega) (by omega)
       have e2 := b8_eq hp.2.1 (by omega) (by omega) (by omega) (by omega)
       have e3 := b8_eq hp.2.2.1 (by omega) (by omega) (by omega) (by omega)
       have e4 := b8_eq hp.2.2.2.1 (by omega) (by omega) (by omega) (by omega)
       omega)
theorem cut_ne {p q : ByteArray} (h : ¬ p.data.toList <+: q.data.toList) : ((q.extract 0 p.size).toList == p.toList) = false := by
  rw [beq_eq_false_iff_ne]
  intro he
  apply h
  rw [ByteArray.toList_eq, ByteArray.toList_eq, ext_str] at he
  simp [str] at he
  rw [← he]
  exact List.take_prefix _ _

set_option maxHeartbeats 2000000 in
theorem walk_CharsApart (a : Int) (ha : -9223372036854775808 ≤ a ∧ a ≤ 9223372036854775807) (b : Int) (hb : -9223372036854775808 ≤ b ∧ b ≤ 9223372036854775807) (w : World) :
    Calls Try.prog 6 #[.int .i64 a, .int .i64 b] w fun e w' => e = .returned (.bool true) ∧ Below w.heap.size w w' := by
  clear ha hb
  have cut : ∀ p q : ByteArray, p.size ≤ q.size → ∀ w, (Instr.slice 9 (.string q) none (some (.int .i64 (p.size : Int))) none).run Try.prog w = .ok (.string (q.extract 0 p.size)) w := fun p q h w => by
    rw [run_slice_string_h (w := w) (t := 9) (s := q) Try.underlying9 .i64 p.size (by omega) (by omega)]; rfl
  have c1 := fun w => Letter_any a w
  have c2 := fun w => Letter_any b w
  by_cases h : letOk a = true ∧ letOk b = true ∧ a ≠ b
  · obtain ⟨h1, h2, h3⟩ := h
    have n1 := cut_ne (let_apart h1 h2 h3)
    have n2 := cut_ne (let_apart h2 h1 (Ne.symm h3))
    have e3 : (a == b) = false := by simpa using h3
    rw [h1] at c1
    rw [h2] at c2
    have k1 := cut (letB a) (letB b)
    have k2 := cut (letB b) (letB a)
    generalize letB a = p at c1 n1 n2 k1 k2
    generalize letB b = q at c2 n1 n2 k1 k2
    have C1 := Lib.hid c1
    have C2 := Lib.hid c2
    clear c1 c2 h1 h2 h3 cut
    rcases Nat.lt_trichotomy p.size q.size with hlt | heq | hgt
    · have k := k1 (by omega)
      have hn : ¬ q.size < p.size := by omega
      clear k1 k2
      go_enter Try.func6, Try.ntmps6
      go_wp2_with fail
      refine (C1.out _).mono ?_
      rintro e w' ⟨rfl, rfl⟩
      go_wp2_with fail
      refine (C2.out _).mono ?_
      rintro e w' ⟨rfl, rfl⟩
      go_wp2_with fail
      refine (lives01 _).mono ?_
      rintro e w1 ⟨rfl, hb1⟩
      go_wp2
      go_ret
      exact ⟨rfl, hb1⟩
    · have kk1 := k1 (by omega)
      have kk2 := k2 (by omega)
      have hn1 : ¬ q.size < p.size := by omega
      have hn2 : ¬ p.size < q.size := by omega
      have HQ := Lib.hid heq
      clear k1 k2 heq
      go_enter Try.func6, Try.ntmps6
      go_wp2_with fail
      refine (C1.out _).mono ?_
      rintro e w' ⟨rfl, rfl⟩
      go_wp2_with fail
      refine (C2.out _).mono ?_
      rintro e w' ⟨rfl, rfl⟩
      go_wp2_with fail
      refine (lives01 _).mono ?_
      rintro e w1 ⟨rfl, hb1⟩
      go_wp2
      go_ret
      exact ⟨rfl, hb1⟩
    · have k := k2 (by omega)
      have hn : ¬ p.size < q.size := by omega
      clear k1 k2
      go_enter Try.func6, Try.ntmps6
      go_wp2_with fail
      refine (C1.out _).mono ?_
      rintro e w' ⟨rfl, rfl⟩
      go_wp2_with fail
      refine (C2.out _).mono ?_
      rintro e w' ⟨rfl, rfl⟩
      go_wp2_with fail
      refine (lives01 _).mono ?_
      rintro e w1 ⟨rfl, hb1⟩
      go_wp2
      go_ret
      exact ⟨rfl, hb1⟩
  · have hcase : letOk a = false ∨ letOk a = true ∧ letOk b = false ∨ letOk a = true ∧ letOk b = true ∧ (a == b) = true := by
      cases h1 : letOk a
      · exact .inl rfl
      · cases h2 : letOk b
        · exact .inr (.inl ⟨rfl, rfl⟩)
        · refine .inr (.inr ⟨rfl, rfl, ?_⟩)
          rw [beq_iff_eq]
          exact Decidable.byContradiction fun h3 => h ⟨h1, h2, h3⟩
    generalize letB a = p at c1
    generalize letB b = q at c2
    clear h cut
    rcases hcase with h1 | ⟨h1, h2⟩ | ⟨h1, h2, e3⟩
    · rw [h1] at c1
      have C1 := Lib.hid c1
      have C2 := Lib.hid c2
      clear c1 c2 h1
      go_enter Try.func6, Try.ntmps6
      go_wp2_with fail
      refine (C1.out _).mono ?_
      rintro e w' ⟨rfl, rfl⟩
      go_wp2_with fail
      refine (C2.out _).mono ?_
      rintro e w' ⟨rfl, rfl⟩
      go_wp2_with fail
      refine (lives01 _).mono ?_
      rintro e w1 ⟨rfl, hb1⟩
      go_wp2
      go_ret
      exact ⟨rfl, hb1⟩
    all_goals
      rw [h1] at c1
      rw [h2] at c2
      have C1 := Lib.hid c1
      have C2 := Lib.hid c2
      clear c1 c2 h1 h2
      go_enter Try.func6, Try.ntmps6
      go_wp2_with fail
      refine (C1.out _).mono ?_
      rintro e w' ⟨rfl, rfl⟩
      go_wp2_with fail
      refine (C2.out _).mono ?_
      rintro e w' ⟨rfl, rfl⟩
      go_wp2_with fail
      refine (lives01 _).mono ?_
      rintro e w1 ⟨rfl, hb1⟩
      go_wp2
      go_ret
      exact ⟨rfl, hb1⟩

set_option maxRecDepth 100000 in
theorem lifted_CharsApart (os : Os) (started : os.Started) (H : Type) (enc : TypeId × Value → H) :
    ReturnsInHanded {} Try.checked os 6 .any (Rows.charsApartSpec.pre6 enc Try.prog Try.f6 Rows.charsApartRow.domain false) (Rows.charsApartSpec.post enc Try.prog Try.f6 false true false false) := by
  refine returnsInHanded_of_change (C := Try.checked) own_knob started (by kernel_rfl) Try.func6
    (ChangeSpec.witness6 (enc := enc) (C := Try.checked) false ⟨#[], #[.int .i64 0, .int .i64 0], []⟩ 8 (by kernel_rfl) (by kernel_rfl) (by kernel_rfl) (by kernel_rfl)) ?_
  intro W base args ds gs before hval0 hW _ _
  have hval : ∀ (j : Nat) t v, Try.f6.params[j]? = some t → args[j]? = some v → Value.okWide Try.prog W .any base t v := hval0
  have hW' := hW
  obtain ⟨p, q, hA0, hV, rfl, _, _⟩ := hW
  have hA : DataW.TrodAll enc Try.prog W 0 (fun _ => true) true Try.f6.params.toList args.toList ds p := hA0
  rw [Try.params6] at hA hval
  obtain ⟨v0, vs0, d0, ds0, p0, q0, hargs, rfl, rfl, h0, r0⟩ := trodAll_cons hA
  obtain ⟨v1, vs1, d1, ds1, p1, q1, rfl, rfl, rfl, h1, r1⟩ := trodAll_cons r0
  obtain ⟨rfl, rfl, rfl⟩ := trodAll_nil r1
  obtain rfl : args = #[v0, v1] := by cases args; simp_all
  obtain ⟨rfl, rfl⟩ := trodVars_none hV
  obtain ⟨a0, rfl, rfl, rfl, w0⟩ := open_int Try.underlying3 (hval 0 3 v0 rfl rfl) h0
  obtain ⟨a1, rfl, rfl, rfl, w1⟩ := open_int Try.underlying3 (hval 1 3 v1 rfl rfl) h1
  clear hA0 hval0
  refine (walk_CharsApart a0 (wf_i64 w0) a1 (wf_i64 w1) W).mono fun e W' ⟨he, hb⟩ => ?_
  subst he
  exact ⟨_, rfl, law_post (by kernel_rfl) rfl rfl rfl hW' hb⟩

/-- the statement of CharsApart -/
theorem proved_CharsApart : Rows.CharsApartSaid :=
  OpenClaim.holds_of_wide 6 Try.f6 rfl rfl rfl rfl rfl rfl rfl ⟨rfl, rfl, rfl, rfl, rfl⟩ rfl rfl rfl rfl rfl (by kernel_rfl) Try.func6 (by kernel_rfl)
    (of_decide_eq_true (by kernel_rfl)) (by unfold Func.isWrapper; first | (rw [if_pos (by decide +kernel)]; kernel_rfl) | (rw [if_neg (by decide +kernel)]; exact ⟨rfl, rfl⟩))
    (fun os started H enc _ => lifted_CharsApart os started H enc)
end Go.Proofs.Ytjoljlcbkoakcaa
