/-
  Each law of layer 1 returns true for every input of its types, and turns nothing that was there: the statement CharsPlaces.
-/
import Derived.Test.YtjoljlcbkoakcaaLaw
import Derived.Test.YtjoljlcbkoakcaaLives01
import Derived.Test.YtjoljlcbkoakcaaRefRef
import Derived.Test.YtjoljlcbkoakcaaLower
namespace Go.Proofs.Ytjoljlcbkoakcaa
set_option linter.unusedVariables false
set_option linter.unusedSimpArgs false
open Go.ChangeShapes Go.WideShapes Go.ChangeAt Go.RowKit
open Go.ChangeMaps (open_string shut_string)

/-- of two places in a text the later one has the greater line, or the same line and the greater column -/
theorem place_up (l : List UInt8) (i j : Nat) (h : i < j) (hj : j ≤ l.length) : lineS (l.take i) < lineS (l.take j) ∨ lineS (l.take i) = lineS (l.take j) ∧ colS (l.take i) < colS (l.take j) := by
  obtain ⟨d, rfl⟩ : ∃ d, j = i + 1 + d := ⟨j - i - 1, by omega⟩
  clear h
  induction d with
  | zero =>
    have hc : l[i]? = some (l[i]'(by omega)) := List.getElem?_eq_getElem (by omega)
    rw [Nat.add_zero, take_snoc l i _ hc, lineS_snoc, colS_snoc]
    split
    · left; omega
    · right; exact ⟨rfl, by omega⟩
  | succ d ih =>
    have ih := ih (by omega)
    have hc : l[i + 1 + d]? = some (l[i + 1 + d]'(by omega)) := List.getElem?_eq_getElem (by omega)
    rw [show i + 1 + (d + 1) = i + 1 + d + 1 by omega, take_snoc l _ _ hc, lineS_snoc, colS_snoc]
    split <;> omega

theorem ret_place {l : List UInt8} {o : Nat} {a b c : Int} (h1 : a = o) (h2 : b = lineS (l.take o)) (h3 : c = colS (l.take o)) : placeV l o = .agg #[.int .i64 a, .int .i64 b, .int .i64 c] := by
  subst h1 h2 h3; rfl

set_option maxHeartbeats 2000000 in
theorem walk_CharsPlaces (s : ByteArray) (hs : s.size ≤ 9223372036854775807) (a : Int) (ha : -9223372036854775808 ≤ a ∧ a ≤ 9223372036854775807) (b : Int) (hb : -9223372036854775808 ≤ b ∧ b ≤ 9223372036854775807) (w : World) :
    Calls Try.prog 11 #[.string s, .int .i64 a, .int .i64 b] w fun e w' => e = .returned (.bool true) ∧ Below w.heap.size w w' := by
  clear ha hb
  go_enter Try.func11, Try.ntmps11
  go_wp2_with fail
  refine (cut01_any s hs _).mono ?_
  rintro e w' ⟨t, rfl, ht, rfl⟩
  obtain ⟨o, ho⟩ : ∃ o : Nat, min (max a 0) (t.size : Int) = (o : Int) := ⟨(min (max a 0) (t.size : Int)).toNat, by omega⟩
  obtain ⟨p, hp⟩ : ∃ p : Nat, min (max b 0) (t.size : Int) = (p : Int) := ⟨(min (max b 0) (t.size : Int)).toNat, by omega⟩
  have ho2 : max 0 (min a (t.size : Int)) = (o : Int) := by omega
  have hol : o ≤ t.size := by omega
  have hpl : p ≤ t.size := by omega
  have hlen : t.data.toList.length = t.size := by simp
  have c1 := fun w => At_any t (by omega) a o ho w
  have c2 := fun w => At_any t (by omega) b p hp w
  have c3 := fun w => refAt_any t (by omega) o hol w
  have hup : (o < p ∧ (lineS (t.data.toList.take o) < lineS (t.data.toList.take p) ∨ lineS (t.data.toList.take o) = lineS (t.data.toList.take p) ∧ colS (t.data.toList.take o) < colS (t.data.toList.take p))) ∨
      (¬ o < p ∧ ¬ lineS (t.data.toList.take o) < lineS (t.data.toList.take p) ∧ ¬ (lineS (t.data.toList.take o) = lineS (t.data.toList.take p) ∧ colS (t.data.toList.take o) < colS (t.data.toList.take p))) := by
    rcases Nat.lt_trichotomy o p with h | h | h
    · exact .inl ⟨h, place_up _ _ _ h (by omega)⟩
    · subst h; right; omega
    · have := place_up t.data.toList p o h (by omega)
      right; omega
  unfold placeV at c1 c2
  generalize lineS (t.data.toList.take o) = l1 at c1 c3 hup
  generalize colS (t.data.toList.take o) = k1 at c1 c3 hup
  generalize lineS (t.data.toList.take p) = l2 at c2 hup
  generalize colS (t.data.toList.take p) = k2 at c2 hup
  have C1 := Lib.hid c1
  have C2 := Lib.hid c2
  have C3 := Lib.hid c3
  have HO2 := Lib.hid ho2
  clear c1 c2 c3 ho hp ho2
  go_wp2_with fail
  refine (C1.out _).mono ?_
  rintro e w1 ⟨rfl, hb1⟩
  go_wp2_with fail
  refine (C2.out _).mono ?_
  rintro e w2 ⟨rfl, hb2⟩
  go_wp2_with fail
  rw [HO2.out]
  refine (C3.out _).mono ?_
  rintro e w' ⟨rfl, rfl⟩
  have hz1 := hb1.size
  have hz2 := hb2.size
  rcases hup with ⟨h1, h2 | ⟨h2, h3⟩⟩ | ⟨h1, h2, h3⟩
  all_goals
    go_wp2_with fail
    all_goals
      refine (lives01 _).mono ?_
      rintro e w3 ⟨rfl, hb3⟩
      go_wp2
      go_ret
      refine ⟨by first | rfl | exact ret_bool (by simp; omega), ?_⟩
      refine ((hb1.trans (hb2.mono hz1)).trans ?_).trans (hb3.mono (by simp; omega))
      exact ((Below.refl _ _).alloc (by omega) _).alloc (by simp; omega) _

set_option maxRecDepth 100000 in
theorem lifted_CharsPlaces (os : Os) (started : os.Started) (H : Type) (enc : TypeId × Value → H) :
    ReturnsInHanded {} Try.checked os 11 .any (Rows.charsPlacesSpec.pre6 enc Try.prog Try.f11 Rows.charsPlacesRow.domain false) (Rows.charsPlacesSpec.post enc Try.prog Try.f11 false true false false) := by
  refine returnsInHanded_of_change (C := Try.checked) own_knob started (by kernel_rfl) Try.func11
    (ChangeSpec.witness6 (enc := enc) (C := Try.checked) false ⟨#[], #[.string .empty, .int .i64 0, .int .i64 0], []⟩ 8 (by kernel_rfl) (by kernel_rfl) (by kernel_rfl) (by kernel_rfl)) ?_
  intro W base args ds gs before hval0 hW _ _
  have hval : ∀ (j : Nat) t v, Try.f11.params[j]? = some t → args[j]? = some v → Value.okWide Try.prog W .any base t v := hval0
  have hW' := hW
  obtain ⟨p, q, hA0, hV, rfl, _, _⟩ := hW
  have hA : DataW.TrodAll enc Try.prog W 0 (fun _ => true) true Try.f11.params.toList args.toList ds p := hA0
  rw [Try.params11] at hA hval
  obtain ⟨v0, vs0, d0, ds0, p0, q0, hargs, rfl, rfl, h0, r0⟩ := trodAll_cons hA
  obtain ⟨v1, vs1, d1, ds1, p1, q1, rfl, rfl, rfl, h1, r1⟩ := trodAll_cons r0
  obtain ⟨v2, vs2, d2, ds2, p2, q2, rfl, rfl, rfl, h2, r2⟩ := trodAll_cons r1
  obtain ⟨rfl, rfl, rfl⟩ := trodAll_nil r2
  obtain rfl : args = #[v0, v1, v2] := by cases args; simp_all
  obtain ⟨rfl, rfl⟩ := trodVars_none hV
  obtain ⟨a0, rfl, rfl, rfl, w0⟩ := open_string Try.underlying9 (hval 0 9 v0 rfl rfl) h0
  obtain ⟨a1, rfl, rfl, rfl, w1⟩ := open_int Try.underlying3 (hval 1 3 v1 rfl rfl) h1
  obtain ⟨a2, rfl, rfl, rfl, w2⟩ := open_int Try.underlying3 (hval 2 3 v2 rfl rfl) h2
  clear hA0 hval0
  refine (walk_CharsPlaces a0 (by unfold maxLen at w0; exact w0) a1 (wf_i64 w1) a2 (wf_i64 w2) W).mono fun e W' ⟨he, hb⟩ => ?_
  subst he
  exact ⟨_, rfl, law_post (by kernel_rfl) rfl rfl rfl hW' hb⟩

/-- the statement of CharsPlaces -/
theorem proved_CharsPlaces : Rows.CharsPlacesSaid :=
  OpenClaim.holds_of_wide 11 Try.f11 rfl rfl rfl rfl rfl rfl rfl ⟨rfl, rfl, rfl, rfl, rfl⟩ rfl rfl rfl rfl rfl (by kernel_rfl) Try.func11 (by kernel_rfl)
    (of_decide_eq_true (by kernel_rfl)) (by unfold Func.isWrapper; first | (rw [if_pos (by decide +kernel)]; kernel_rfl) | (rw [if_neg (by decide +kernel)]; exact ⟨rfl, rfl⟩))
    (fun os started H enc _ => lifted_CharsPlaces os started H enc)
end Go.Proofs.Ytjoljlcbkoakcaa
