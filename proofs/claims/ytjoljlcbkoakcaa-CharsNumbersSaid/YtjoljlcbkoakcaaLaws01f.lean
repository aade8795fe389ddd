/-
  Each law of layer 1 returns true for every input of its types, and turns nothing that was there: the statement CharsNumbers.
-/
import Derived.Test.YtjoljlcbkoakcaaLaw
import Derived.Test.YtjoljlcbkoakcaaLives01
import Derived.Test.YtjoljlcbkoakcaaRefRef
import Derived.Test.YtjoljlcbkoakcaaLower
namespace Go.Proofs.Ytjoljlcbkoakcaa
set_option linter.unusedVariables false
set_option linter.unusedSimpArgs false
open Go.ChangeShapes Go.WideShapes Go.ChangeAt Go.RowKit
open Go.ChangeMaps (open_string shut_string)

/-- a number of digits of base b, with a semicolon behind it, is the letter -/
theorem refS_digits (b : Int) (f : Nat) (pre ds r : List UInt8) (hpre : pre.length = f) (hf : 0 < f) (hd : ∀ c ∈ ds, (dval b c).isSome = true) (h1 : 1 ≤ ds.length) (h8 : ds.length ≤ 8) (ho : letOk (dnum b ds) = true) :
    numS b (pre ++ ds ++ 59 :: r) f = (letB (dnum b ds), f + ds.length + 1, 0) := by
  have hk : (pre ++ ds ++ 59 :: r)[f + ds.length]? = some 59 := by
    rw [List.getElem?_append_right (by simp; omega)]
    have : f + ds.length - (pre ++ ds).length = 0 := by simp; omega
    rw [this]; rfl
  have hall : AllDig b (pre ++ ds ++ 59 :: r) f (f + ds.length) := by
    intro i c a1 a2 a3
    rw [List.getElem?_append_left (by simp; omega), List.getElem?_append_right (by omega)] at a3
    exact hd c (List.mem_of_getElem? a3)
  have htk : ((pre ++ ds ++ 59 :: r).drop f).take (f + ds.length - f) = ds := by
    rw [List.append_assoc, List.drop_append_of_le_length (by omega), List.drop_of_length_le (by omega), List.nil_append]
    simp
  rw [num_fin (k := f + ds.length) (by omega) (by omega) hall (by simp; omega) (.inr (.inr ⟨59, hk, by
    unfold dval
    rw [if_neg (by decide), if_neg (by rintro ⟨_, h, _⟩; revert h; decide), if_neg (by rintro ⟨_, h, _⟩; revert h; decide)]⟩)), fin_some (by omega) hk (by rw [htk]; exact ho), htk]

/-- the digits that the loop has laid so far, k being what is left -/
def DigOf (b : Int) (n k : Int) (ds : List UInt8) (m : Nat) : Prop := (∀ c ∈ ds, (dval b c).isSome = true) ∧ ds.length ≤ m ∧ n = k * b ^ ds.length + dnum b ds ∧ (k = 0 → n = 0 ∨ 1 ≤ ds.length)

theorem dnum_cons (b : Int) (c : UInt8) (l : List UInt8) : dnum b (c :: l) = (dval b c).getD 0 * b ^ l.length + dnum b l := by
  have : ∀ (l : List UInt8) (x : Int), l.foldl (fun n c => n * b + (dval b c).getD 0) x = x * b ^ l.length + dnum b l := by
    intro l
    induction l with
    | nil => intro x; simp [dnum]
    | cons d l ih =>
      intro x
      simp only [List.foldl_cons, dnum, List.length_cons]
      rw [ih, ih (0 * b + (dval b d).getD 0), Int.pow_succ]
      have e1 : (x * b + (dval b d).getD 0) * b ^ l.length = x * (b ^ l.length * b) + (dval b d).getD 0 * b ^ l.length := by
        rw [Int.add_mul, Int.mul_assoc, Int.mul_comm b]
      rw [e1]
      simp only [Int.zero_mul, Int.zero_add]
      omega
  unfold dnum
  rw [List.foldl_cons, this]
  simp only [Int.zero_mul, Int.zero_add]
  rfl
theorem DigOf.next {b n k : Int} {ds : List UInt8} {m : Nat} {c : UInt8} (h : DigOf b n k ds m) (hc : dval b c = some (k % b)) : DigOf b n (k / b) (c :: ds) (m + 1) := by
  obtain ⟨h1, h2, h3, h4⟩ := h
  refine ⟨?_, by simp; omega, ?_, fun _ => .inr (by simp)⟩
  · intro x hx
    rcases List.mem_cons.1 hx with rfl | hx
    · rw [hc]; rfl
    · exact h1 x hx
  · rw [dnum_cons, hc, List.length_cons, Int.pow_succ, h3]
    have e := Int.mul_ediv_add_emod k b
    have e1 : k / b * (b ^ ds.length * b) + (k % b * b ^ ds.length + dnum b ds) = (b * (k / b) + k % b) * b ^ ds.length + dnum b ds := by
      rw [Int.add_mul, Int.mul_comm (b ^ ds.length) b, ← Int.mul_assoc, Int.mul_comm (k / b) b]
      omega
    simp only [Option.getD_some]
    rw [e1, e]

theorem lt_cases {P : Int → Prop} {r : Int} (n : Nat) (h0 : 0 ≤ r) (hn : r < n) (h : ∀ i : Nat, i < n → P (i : Int)) : P r := by
  have := h r.toNat (by omega)
  rwa [Int.toNat_of_nonneg h0] at this
def tab10 : List UInt8 := [48, 49, 50, 51, 52, 53, 54, 55, 56, 57]
def tab16 : List UInt8 := [48, 49, 50, 51, 52, 53, 54, 55, 56, 57, 97, 98, 99, 100, 101, 102]
theorem tab10_at (r : Int) (h0 : 0 ≤ r) (h1 : r < 10) : ∃ c, (str tab10).extract r.toNat (r + 1).toNat = str [c] ∧ dval 10 c = some r ∧ c ≠ 120 := by
  refine lt_cases (P := fun r => ∃ c, (str tab10).extract r.toNat (r + 1).toNat = str [c] ∧ dval 10 c = some r ∧ c ≠ 120) 10 h0 h1 (fun i hi => ?_)
  refine ⟨tab10[i]'hi, ?_, ?_, ?_⟩
  · rw [show (i : Int).toNat = i from rfl, show ((i : Int) + 1).toNat = i + 1 by omega]
    exact ext_one _ _ _ (by rw [toList_str]; exact List.getElem?_eq_getElem hi)
  · have : ∀ j : Fin 10, dval 10 (tab10[j.val]'j.isLt) = some ((j.val : Nat) : Int) := by decide
    exact this ⟨i, hi⟩
  · have : ∀ j : Fin 10, (tab10[j.val]'j.isLt) ≠ 120 := by decide
    exact this ⟨i, hi⟩
theorem tab16_at (r : Int) (h0 : 0 ≤ r) (h1 : r < 16) : ∃ c, (str tab16).extract r.toNat (r + 1).toNat = str [c] ∧ dval 16 c = some r := by
  refine lt_cases (P := fun r => ∃ c, (str tab16).extract r.toNat (r + 1).toNat = str [c] ∧ dval 16 c = some r) 16 h0 h1 (fun i hi => ?_)
  refine ⟨tab16[i]'hi, ?_, ?_⟩
  · rw [show (i : Int).toNat = i from rfl, show ((i : Int) + 1).toNat = i + 1 by omega]
    exact ext_one _ _ _ (by rw [toList_str]; exact List.getElem?_eq_getElem hi)
  · have : ∀ j : Fin 16, dval 16 (tab16[j.val]'j.isLt) = some ((j.val : Nat) : Int) := by decide
    exact this ⟨i, hi⟩
theorem step10 {k n : Int} {m : Nat} (hk : 0 < k) (hn : n ≤ 1114111) (hm : m ≤ 8) (h : k * 10 ^ m ≤ n) : m + 1 ≤ 8 ∧ k / 10 * 10 ^ (m + 1) ≤ n := by
  constructor
  · rcases (show m = 8 ∨ m = 7 ∨ m ≤ 6 by omega) with rfl | rfl | h6
    · simp at h; omega
    · simp at h; omega
    · omega
  · have h1 : k / 10 * 10 ≤ k := by omega
    have h2 : (0 : Int) ≤ 10 ^ m := Int.pow_nonneg (by omega)
    have h3 := Int.mul_le_mul_of_nonneg_right h1 h2
    rw [Int.pow_succ, Int.mul_comm ((10 : Int) ^ m), ← Int.mul_assoc]
    omega
theorem step16 {k n : Int} {m : Nat} (hk : 0 < k) (hn : n ≤ 1114111) (hm : m ≤ 7) (h : k * 16 ^ m ≤ n) : m + 1 ≤ 7 ∧ k / 16 * 16 ^ (m + 1) ≤ n := by
  constructor
  · rcases (show m = 7 ∨ m = 6 ∨ m ≤ 5 by omega) with rfl | rfl | h6
    · simp at h; omega
    · simp at h; omega
    · omega
  · have h1 : k / 16 * 16 ≤ k := by omega
    have h2 : (0 : Int) ≤ 16 ^ m := Int.pow_nonneg (by omega)
    have h3 := Int.mul_le_mul_of_nonneg_right h1 h2
    rw [Int.pow_succ, Int.mul_comm ((16 : Int) ^ m), ← Int.mul_assoc]
    omega

set_option maxHeartbeats 4000000 in
set_option maxRecDepth 100000 in
theorem walk_CharsNumbers (n : Int) (hn : -9223372036854775808 ≤ n ∧ n ≤ 9223372036854775807) (s : ByteArray) (hs : s.size ≤ 9223372036854775807) (w : World) :
    Calls Try.prog 8 #[.int .i64 n, .string s] w fun e w' => e = .returned (.bool true) ∧ Below w.heap.size w w' := by
  clear hn
  have c1 := fun w => Letter_any n w
  cases ho : letOk n with
  | false =>
    rw [ho] at c1
    have C1 := Lib.hid c1; clear c1
    go_enter Try.func8, Try.ntmps8
    go_wp2_with fail
    refine (cut01_any s hs _).mono ?_
    rintro e w' ⟨t, rfl, ht, rfl⟩
    go_wp2_with fail
    refine (C1.out _).mono ?_
    rintro e w' ⟨rfl, rfl⟩
    go_wp2_with fail
    refine (lives01 _).mono ?_
    rintro e w3 ⟨rfl, hb3⟩
    go_wp2
    go_ret
    exact ⟨rfl, hb3⟩
  | true =>
    have hn0 : 9 ≤ n ∧ n ≤ 1114111 := by simp [letOk] at ho; omega
    obtain ⟨hn0, hn1⟩ := hn0
    rw [ho] at c1
    have C1 := Lib.hid c1; clear c1
    have HO := Lib.hid ho; clear ho
    go_enter Try.func8, Try.ntmps8
    go_wp2_with fail
    refine (cut01_any s hs _).mono ?_
    rintro e w' ⟨t, rfl, ht, rfl⟩
    go_wp2_with fail
    refine (C1.out _).mono ?_
    rintro e w' ⟨rfl, rfl⟩
    go_wp2_with fail
    go_loop [7, 9] (fun o i => ∃ (k : Int) (ds : List UInt8) (m : Nat), 0 ≤ k ∧ k ≤ n ∧ k * 10 ^ m ≤ n ∧ i = .int .i64 k ∧ o = .string (str ds) ∧ DigOf 10 n k ds m ∧ m ≤ 8) (fun _ i => (intOf i).toNat)
    case atStart => exact ⟨n, [], 0, by omega, by omega, by simp, rfl, rfl, ⟨by simp, by simp, by simp [dnum], by omega⟩, by omega⟩
    case round =>
      obtain ⟨k, ds, m, hk0, hkn, hkm, rfl, rfl, hdig, hm8⟩ := hrel
      have HD := Lib.hid hdig; clear hdig
      have HM := Lib.hid hkm; clear hkm
      have hdl : (str ds).size ≤ 8 := by rw [size_str]; have := HD.out.2.1; omega
      rcases Int.lt_or_le 0 k with hpos | hz
      · have hr0 : 0 ≤ k % 10 := by omega
        have hr1 : k % 10 < 10 := by omega
        obtain ⟨c, hext, hdv, hc120⟩ := tab10_at (k % 10) hr0 hr1
        have hsl : ∀ w, (Instr.slice 9 (.string ⟨#[48, 49, 50, 51, 52, 53, 54, 55, 56, 57]⟩) (some (.int .i64 (k % 10))) (some (.int .i64 (k % 10 + 1))) none).run Try.prog w = .ok (.string (str [c])) w := fun w => by
          rw [run_slice_string w 9 _ _ _ _ _ Try.underlying9 (by omega) (by omega) (by show k % 10 + 1 ≤ 10; omega)]
          exact congrArg (fun x => Result.ok (Value.string x) w) hext
        have hcs : (str [c]).size ≤ 1 := by rw [size_str]; simp
        have hst := step10 hpos hn1 hm8 HM.out
        have HS := Lib.hid hst
        have HX := Lib.hid hdv
        clear hst hdv hext hc120
        go_wp2
        refine ⟨⟨k / 10, c :: ds, m + 1, by omega, by omega, HS.out.2, by go_num, ?_, HD.out.next HX.out, HS.out.1⟩, by simp [intOf]; omega⟩
        exact congrArg Value.string (by rw [app_str]; rfl)
      · obtain rfl : k = 0 := by omega
        clear hk0 hkn hz
        go_wp2_with fail
        go_loop [8, 10] (fun o i => ∃ (k : Int) (es : List UInt8) (m : Nat), 0 ≤ k ∧ k ≤ n ∧ k * 16 ^ m ≤ n ∧ i = .int .i64 k ∧ o = .string (str es) ∧ DigOf 16 n k es m ∧ m ≤ 7) (fun _ i => (intOf i).toNat)
        case atStart => exact ⟨n, [], 0, by omega, by omega, by simp, rfl, rfl, ⟨by simp, by simp, by simp [dnum], by omega⟩, by omega⟩
        case round =>
          obtain ⟨k, es, m', hk0, hkn, hkm, rfl, rfl, hdig, hm7⟩ := hrel
          have HE := Lib.hid hdig; clear hdig
          have HM' := Lib.hid hkm; clear hkm
          have hel : (str es).size ≤ 7 := by rw [size_str]; have := HE.out.2.1; omega
          rcases Int.lt_or_le 0 k with hpos | hz
          · have hr0 : 0 ≤ k % 16 := by omega
            have hr1 : k % 16 < 16 := by omega
            obtain ⟨c, hext, hdv⟩ := tab16_at (k % 16) hr0 hr1
            have hsl : ∀ w, (Instr.slice 9 (.string ⟨#[48, 49, 50, 51, 52, 53, 54, 55, 56, 57, 97, 98, 99, 100, 101, 102]⟩) (some (.int .i64 (k % 16))) (some (.int .i64 (k % 16 + 1))) none).run Try.prog w = .ok (.string (str [c])) w := fun w => by
              rw [run_slice_string w 9 _ _ _ _ _ Try.underlying9 (by omega) (by omega) (by show k % 16 + 1 ≤ 16; omega)]
              exact congrArg (fun x => Result.ok (Value.string x) w) hext
            have hcs : (str [c]).size ≤ 1 := by rw [size_str]; simp
            have hst := step16 hpos hn1 hm7 HM'.out
            have HS := Lib.hid hst
            have HX := Lib.hid hdv
            clear hst hdv hext
            go_wp2
            refine ⟨⟨k / 16, c :: es, m' + 1, by omega, by omega, HS.out.2, by go_num, ?_, HE.out.next HX.out, HS.out.1⟩, by simp [intOf]; omega⟩
            exact congrArg Value.string (by rw [app_str]; rfl)
          · obtain rfl : k = 0 := by omega
            clear hk0 hkn hz
            have hx1 : (⟨#[38, 35]⟩ ++ str ds ++ ⟨#[59]⟩ ++ t : ByteArray).data.toList = [38, 35] ++ ds ++ 59 :: t.data.toList := by
              simp [ByteArray.data_append, str]
            have hx2 : (⟨#[38, 35, 120, 48]⟩ ++ str es ++ ⟨#[59]⟩ ++ t : ByteArray).data.toList = [38, 35, 120] ++ (48 :: es) ++ 59 :: t.data.toList := by
              simp [ByteArray.data_append, str]
            have z1 : (⟨#[38, 35]⟩ ++ str ds ++ ⟨#[59]⟩ ++ t : ByteArray).size ≤ 1000000 := by
              have h1 := congrArg List.length hx1
              have h2 : t.data.toList.length = t.size := by simp
              have h3 := HD.out.2.1
              rw [Array.length_toList] at h1
              have h4 : (⟨#[38, 35]⟩ ++ str ds ++ ⟨#[59]⟩ ++ t : ByteArray).size = (⟨#[38, 35]⟩ ++ str ds ++ ⟨#[59]⟩ ++ t : ByteArray).data.size := rfl
              rw [h4, h1]
              simp only [List.length_append, List.length_cons, List.length_nil, h2]
              omega
            have z2 : (⟨#[38, 35, 120, 48]⟩ ++ str es ++ ⟨#[59]⟩ ++ t : ByteArray).size ≤ 1000000 := by
              have h1 := congrArg List.length hx2
              have h2 : t.data.toList.length = t.size := by simp
              have h3 := HE.out.2.1
              rw [Array.length_toList] at h1
              have h4 : (⟨#[38, 35, 120, 48]⟩ ++ str es ++ ⟨#[59]⟩ ++ t : ByteArray).size = (⟨#[38, 35, 120, 48]⟩ ++ str es ++ ⟨#[59]⟩ ++ t : ByteArray).data.size := rfl
              rw [h4, h1]
              simp only [List.length_append, List.length_cons, List.length_nil, h2]
              omega
            have c1 := fun w => Ref_any _ z1 w
            have c2 := fun w => Ref_any _ z2 w
            have d1 : dnum 10 ds = n := by have := HD.out.2.2.1; simp at this; exact this.symm
            have d2 : dnum 16 es = n := by have := HE.out.2.2.1; simp at this; exact this.symm
            have l1 : 1 ≤ ds.length := by have := HD.out.2.2.2 rfl; omega
            have r1 : refS ([38, 35] ++ ds ++ 59 :: t.data.toList) = (letB n, (str ds).size + 3, 0) := by
              have hx : [38, 35, 120].isPrefixOf ([38, 35] ++ ds ++ 59 :: t.data.toList) = false := by
                cases hds : ds with
                | nil => rw [hds] at l1; simp at l1
                | cons c l =>
                  have hc := HD.out.1 c (by rw [hds]; simp)
                  have hc2 : c ≠ 120 := by
                    intro h; subst h; revert hc; decide
                  simp [List.isPrefixOf]
                  exact fun h => hc2 h.symm
              unfold refS
              rw [if_neg (by rw [hx]; decide), if_pos (by simp [List.isPrefixOf]), refS_digits 10 2 [38, 35] ds _ rfl (by decide) HD.out.1 l1 (by have := HD.out.2.1; omega) (by rw [d1]; exact HO.out), d1, size_str]
              congr 2; omega
            have r2 : refS ([38, 35, 120] ++ (48 :: es) ++ 59 :: t.data.toList) = (letB n, (str es).size + 5, 0) := by
              have d3 : dnum 16 (48 :: es) = n := by rw [dnum_cons, d2, show (dval 16 48).getD 0 = 0 from by decide]; simp
              unfold refS
              rw [if_pos (by simp [List.isPrefixOf]), refS_digits 16 3 [38, 35, 120] (48 :: es) _ rfl (by decide) (by
                intro c hc
                rcases List.mem_cons.1 hc with rfl | hc
                · decide
                · exact HE.out.1 c hc) (by simp) (by have := HE.out.2.1; simp; omega) (by rw [d3]; exact HO.out), d3, size_str]
              congr 2; simp; omega
            rw [hx1, r1] at c1
            rw [hx2, r2] at c2
            have R1 := Lib.hid c1
            have R2 := Lib.hid c2
            clear c1 c2 r1 r2 hx1 hx2 d1 d2 l1 z1 z2
            go_wp2_with fail
            refine (R1.out _).mono ?_
            unfold refV
            rintro e w' ⟨rfl, rfl⟩
            go_wp2_with fail
            refine (R2.out _).mono ?_
            unfold refV
            rintro e w' ⟨rfl, rfl⟩
            go_wp2_with fail
            refine (lives01 _).mono ?_
            rintro e w3 ⟨rfl, hb3⟩
            go_wp2
            go_ret
            exact ⟨rfl, hb3⟩

set_option maxRecDepth 100000 in
theorem lifted_CharsNumbers (os : Os) (started : os.Started) (H : Type) (enc : TypeId × Value → H) :
    ReturnsInHanded {} Try.checked os 8 .any (Rows.charsNumbersSpec.pre6 enc Try.prog Try.f8 Rows.charsNumbersRow.domain false) (Rows.charsNumbersSpec.post enc Try.prog Try.f8 false true false false) := by
  refine returnsInHanded_of_change (C := Try.checked) own_knob started (by kernel_rfl) Try.func8
    (ChangeSpec.witness6 (enc := enc) (C := Try.checked) false ⟨#[], #[.int .i64 0, .string .empty], []⟩ 8 (by kernel_rfl) (by kernel_rfl) (by kernel_rfl) (by kernel_rfl)) ?_
  intro W base args ds gs before hval0 hW _ _
  have hval : ∀ (j : Nat) t v, Try.f8.params[j]? = some t → args[j]? = some v → Value.okWide Try.prog W .any base t v := hval0
  have hW' := hW
  obtain ⟨p, q, hA0, hV, rfl, _, _⟩ := hW
  have hA : DataW.TrodAll enc Try.prog W 0 (fun _ => true) true Try.f8.params.toList args.toList ds p := hA0
  rw [Try.params8] at hA hval
  obtain ⟨v0, vs0, d0, ds0, p0, q0, hargs, rfl, rfl, h0, r0⟩ := trodAll_cons hA
  obtain ⟨v1, vs1, d1, ds1, p1, q1, rfl, rfl, rfl, h1, r1⟩ := trodAll_cons r0
  obtain ⟨rfl, rfl, rfl⟩ := trodAll_nil r1
  obtain rfl : args = #[v0, v1] := by cases args; simp_all
  obtain ⟨rfl, rfl⟩ := trodVars_none hV
  obtain ⟨a0, rfl, rfl, rfl, w0⟩ := open_int Try.underlying3 (hval 0 3 v0 rfl rfl) h0
  obtain ⟨a1, rfl, rfl, rfl, w1⟩ := open_string Try.underlying9 (hval 1 9 v1 rfl rfl) h1
  clear hA0 hval0
  refine (walk_CharsNumbers a0 (wf_i64 w0) a1 (by unfold maxLen at w1; exact w1) W).mono fun e W' ⟨he, hb⟩ => ?_
  subst he
  exact ⟨_, rfl, law_post (by kernel_rfl) rfl rfl rfl hW' hb⟩

/-- the statement of CharsNumbers -/
theorem proved_CharsNumbers : Rows.CharsNumbersSaid :=
  OpenClaim.holds_of_wide 8 Try.f8 rfl rfl rfl rfl rfl rfl rfl ⟨rfl, rfl, rfl, rfl, rfl⟩ rfl rfl rfl rfl rfl (by kernel_rfl) Try.func8 (by kernel_rfl)
    (of_decide_eq_true (by kernel_rfl)) (by unfold Func.isWrapper; first | (rw [if_pos (by decide +kernel)]; kernel_rfl) | (rw [if_neg (by decide +kernel)]; exact ⟨rfl, rfl⟩))
    (fun os started H enc _ => lifted_CharsNumbers os started H enc)
end Go.Proofs.Ytjoljlcbkoakcaa
