/-
  Layer 2: the statement TokenPlain: for every text. Own work.
-/
import Derived.Test.YtldgjiohigiioaaLaws02a
import Derived.Test.YtldgjiohigiioaaPlain2
namespace Go.Proofs.Ytldgjiohigiioaa
set_option linter.unusedVariables false
set_option linter.unusedSimpArgs false
open Go.ChangeShapes Go.WideShapes Go.ChangeAt Go.RowKit
open Go.ChangeMaps (open_string shut_string)

theorem cut3 (l : List UInt8) (o : Nat) : (str l).extract o (o + 3) = str ((l.drop o).take 3) := by
  rw [ext_str, toList_str, List.drop_take]
  congr 2
  omega
theorem eq3 (x : List UInt8) : ((str x).toList == [93, 93, 62]) = (x == cdB) := by rw [ByteArray.toList_eq, toList_str]; rfl
set_option maxRecDepth 100000 in
set_option maxHeartbeats 2000000 in
theorem walk_TokenPlain (s : ByteArray) (hs : s.size ≤ 9223372036854775807) (w : World) :
    Calls Try.prog 9 #[.string s] w fun e w' => e = .returned (.bool true) ∧ Below w.heap.size w w' := by
  have HLV := Lib.hid (fun w => lives02 w)
  go_enter Try.func9, Try.ntmps9
  go_wp2_with fail
  refine (cut02_any s hs w).mono ?_
  rintro e w1 ⟨l, rfl, hl, rfl⟩
  have HL := Lib.hid hl
  have hsz := size_str l
  have HSZ := Lib.hid hsz
  have hszI : ((str l).size : Int) ≤ 2000 := by omega
  clear hl hsz
  go_wp2_with fail
  go_loop [15] (fun i => ∃ k : Nat, k ≤ (str l).size ∧ i = .int .i64 k ∧ ∀ c ∈ l.take k, tx c = true) (fun i => (str l).size - (intOf i).toNat)
  case atStart => exact ⟨0, by omega, rfl, by simp⟩
  case round =>
    obtain ⟨k, hk, rfl, ht⟩ := hrel
    have HT := Lib.hid ht; clear ht
    by_cases hlt : k < (str l).size
    · obtain ⟨c, hc⟩ : ∃ c, l[k]? = some c := ⟨_, List.getElem?_eq_getElem (by rw [← HSZ.out]; exact hlt)⟩
      have hix := hidx (str l) k c hc
      have HC := Lib.hid hc
      clear hc
      have hltI : (k : Int) < ((str l).size : Int) := by omega
      cases hb : tx c with
      | false =>
        have HIS := Lib.hid (fun w => is_at (c.toNat : Int) 16 false (by decide) (by decide) (by rw [(cls_all _).2.2.2.2]; exact hb) w)
        go_wp2_with (go_at_call 21; with_reducible refine (HIS.out _).mono ?_; rintro e w' ⟨rfl, rfl⟩)
        refine (HLV.out _).mono ?_
        rintro e w4 ⟨rfl, hb4⟩
        go_wp2
        go_ret
        exact ⟨rfl, hb4⟩
      | true =>
        have HIS := Lib.hid (fun w => is_at (c.toNat : Int) 16 true (by decide) (by decide) (by rw [(cls_all _).2.2.2.2]; exact hb) w)
        have HT2 := Lib.hid (show ∀ d ∈ l.take (k + 1), tx d = true from fun d hd => by
          rw [take_snoc _ k c HC.out, List.mem_append] at hd
          rcases hd with hd | hd
          · exact HT.out d hd
          · simp at hd; rw [hd]; exact hb)
        clear hb
        go_wp2_with (go_at_call 21; with_reducible refine (HIS.out _).mono ?_; rintro e w' ⟨rfl, rfl⟩)
        refine ⟨⟨k + 1, by omega, by go_num, HT2.out⟩, by simp [intOf]; omega⟩
    · have HTX := Lib.hid (show ∀ c ∈ l, tx c = true from fun c hc => HT.out c (by rw [List.take_of_length_le (by have := HSZ.out; omega)]; exact hc))
      have hle : ((str l).size : Int) ≤ (k : Int) := by omega
      clear HT hk hlt
      have HEA := Lib.hid (all_esc HL.out HTX.out)
      have hel := escS_len false l
      have hez := size_str (escS false l)
      have hez2 : ((str (escS false l)).size : Int) ≤ 12000 := by have := HL.out; omega
      have HTL := Lib.hid (show (escT l).length ≤ 1000000 by have := HL.out; simp [escT]; omega)
      clear hel hez
      go_wp2_with fail
      refine (refEscape_any false (str l) (by omega) w1).mono ?_
      rintro e w2 ⟨rfl, rfl⟩
      rw [toList_str]
      go_wp2_with fail
      rw [show (⟨#[60, 97, 47, 62]⟩ : ByteArray) ++ str (escS false l) = str (escT l) from app_str [60, 97, 47, 62] (escS false l)]
      refine (all_ok HEA.out HTL.out w2).mono ?_
      rintro e w4 ⟨a, cp, rfl, hr, hb4⟩
      obtain ⟨w5, hw5⟩ : ∃ w5, w5 = w4.alloc (.cells #[.int .i64 0, .int .i64 0, .int .i64 0] 26) := ⟨_, rfl⟩
      have hb45 : Below w4.heap.size w4 w5 := by rw [hw5]; exact (Below.refl _ _).alloc (Nat.le_refl _) _
      have HB5 := Lib.hid (show Below w2.heap.size w2 w5 from hb4.trans (hb45.mono hb4.size))
      have HR5 := Lib.hid (hr.below hb45 (Nat.le_refl _))
      have HW5 := Lib.hid hw5
      clear hw5 hb4 hb45 hr hez2
      generalize str (escT l) = et at *
      generalize str (escS false l) = es at *
      go_upto_region 9 with fail
      rw [← HW5.out]
      have HNXT := Lib.hid (show ∀ c, l.getLast? = some c → (str l).size ≠ 0 → ∀ w, (Instr.index 9 (.string (str l)) (.int .i64 (((str l).size : Int) - 1))).run Try.prog w = .ok (.int .u8 (c.toNat : Int)) w from fun c hc h0 w => by
        have := bidx2 (str l) ((str l).size - 1) c (by rw [toList_str, HSZ.out, ← List.getLast?_eq_getElem?]; exact hc) w
        rwa [show (((str l).size - 1 : Nat) : Int) = ((str l).size : Int) - 1 by omega] at this)
      by_cases h0 : l = []
      · have hem : (str l).toList.isEmpty = true := by rw [ByteArray.toList_eq, toList_str, h0]; rfl
        have heq : ((str l).toList == []) = true := by rw [ByteArray.toList_eq, toList_str, h0]; rfl
        have hz : ((str l).size : Int) = 0 := by rw [HSZ.out, h0]; rfl
        have HL0 := Lib.hid h0
        have HZ := Lib.hid hz
        rw [if_pos h0]
        clear h0
        go_upto_region 11 with fail
        clear hz hem heq
        go_wp2_with fail
        go_loop [7] (fun i => ∃ m : Nat, m ≤ (str l).size ∧ i = .int .i64 m ∧ ∀ j, j < m → (l.drop j).take 3 ≠ cdB) (fun i => (str l).size - (intOf i).toNat)
        case atStart => exact ⟨0, by omega, rfl, fun j hj => absurd hj (by omega)⟩
        case round =>
          obtain ⟨m, hm, rfl, hno⟩ := hrel
          have HNO := Lib.hid hno; clear hno
          by_cases hlt : m + 2 < (str l).size
          · have hltI : (m : Int) + 2 < ((str l).size : Int) := by omega
            have hsl : ∀ w, (Instr.slice 9 (.string (str l)) (some (.int .i64 m)) (some (.int .i64 ((m:Int)+3))) none).run Try.prog w = .ok (.string (str ((l.drop m).take 3))) w := fun w => by
              rw [run_slice_string w 9 _ _ _ _ _ Try.underlying9 (by omega) (by omega) (by omega), ← cut3]; rfl
            have he3 := eq3 ((l.drop m).take 3)
            generalize hq : ((l.drop m).take 3 == cdB) = q at he3
            cases q with
            | true =>
              go_wp2_with fail
              refine (HLV.out _).mono ?_
              rintro e w6 ⟨rfl, hb6⟩
              have HB6 := Lib.hid (HB5.out.trans (hb6.mono HB5.out.size))
              clear hb6
              go_wp2
              go_ret
              exact ⟨rfl, HB6.out⟩
            | false =>
              have HNO2 := Lib.hid (show ∀ j, j < m + 1 → (l.drop j).take 3 ≠ cdB from fun j hj => by
                by_cases e : j = m
                · subst e; exact beq_eq_false_iff_ne.1 hq
                · exact HNO.out j (by omega))
              clear hq
              go_wp2
              refine ⟨⟨m + 1, by omega, by go_num, HNO2.out⟩, by simp [intOf]; omega⟩
          · have hle2 : ((str l).size : Int) ≤ (m : Int) + 2 := by omega
            have HNOA := Lib.hid (show ∀ i, (l.drop i).take 3 ≠ cdB from fun i he => by
              by_cases hi : i < m
              · exact HNO.out i hi he
              · have h1 := congrArg List.length he
                have h2 := HSZ.out
                rw [List.length_take, List.length_drop] at h1
                have h3 : cdB.length = 3 := rfl
                omega)
            clear hlt HNO
            by_cases hlast : l.getLast? = some 93
            · have hn0 : (str l).size ≠ 0 := by
                intro h
                have h2 := HSZ.out
                have : l = [] := List.eq_nil_of_length_eq_zero (by omega)
                rw [this] at hlast
                simp at hlast
              have hix := HNXT.out 93 hlast hn0
              have hpos : (0 : Int) < ((str l).size : Int) := by omega
              clear hlast hn0
              go_wp2_with fail
              refine (HLV.out _).mono ?_
              rintro e w6 ⟨rfl, hb6⟩
              have HB6 := Lib.hid (HB5.out.trans (hb6.mono HB5.out.size))
              clear hb6
              go_wp2
              go_ret
              exact ⟨rfl, HB6.out⟩
            have HCD := Lib.hid (all_cd HL.out HTX.out HNOA.out hlast)
            have HCL := Lib.hid (show (cdF ++ l ++ cdB).length ≤ 1000000 by have := HL.out; simp [cdF, cdB]; omega)
            have HLA := Lib.hid hlast
            clear hlast
            have hz := HZ.out
            go_upto_region 18 with fail
            clear hz
            have hcat : ((⟨#[60, 33, 91, 67, 68, 65, 84, 65, 91]⟩ : ByteArray) ++ str l) ++ ⟨#[93, 93, 62]⟩ = str (cdF ++ l ++ cdB) := by
              rw [show (⟨#[60, 33, 91, 67, 68, 65, 84, 65, 91]⟩ : ByteArray) = str cdF from rfl, app_str, app_lit]; rfl
            have hcs : ((⟨#[60, 33, 91, 67, 68, 65, 84, 65, 91]⟩ : ByteArray) ++ str l).size = (str l).size + 9 := by rw [ByteArray.size_append, Nat.add_comm]; rfl
            have HCAT := Lib.hid hcat
            clear hcat
            go_wp2_with fail
            rw [HCAT.out]
            refine (all_ok HCD.out HCL.out w5).mono ?_
            rintro e w6 ⟨a6, c6, rfl, hr6, hb6⟩
            obtain ⟨w7, hw7⟩ : ∃ w7, w7 = w6.alloc (.cells #[.int .i64 0, .int .i64 0, .int .i64 0] 26) := ⟨_, rfl⟩
            have hb67 : Below w6.heap.size w6 w7 := by rw [hw7]; exact (Below.refl _ _).alloc (Nat.le_refl _) _
            have HB7 := Lib.hid (HB5.out.trans ((hb6.trans (hb67.mono hb6.size)).mono HB5.out.size))
            have hr7 := hr6.below hb67 (Nat.le_refl _)
            have HW7 := Lib.hid hw7
            obtain ⟨b7, e1, va, ⟨x0, _, _, x3, _, _, _⟩, _⟩ := RdSl.elem hr7 (i := 0) rfl
            subst e1
            simp only [Tk.mem, Nat.zero_mul, add_0] at x0 x3
            clear hw7 hb6 hr6 hb67 hr7
            go_upto_region 19 with fail
            rw [← HW7.out]
            have hss2 : ((str l).toList == (str l).toList) = true := by simp
            go_wp2_with fail
            refine (HLV.out _).mono ?_
            rintro e w8 ⟨rfl, hb8⟩
            have HB8 := Lib.hid (HB7.out.trans (hb8.mono HB7.out.size))
            clear hb8
            go_wp2
            go_ret
            exact ⟨rfl, HB8.out⟩
      · have hem : (str l).toList.isEmpty = false := by rw [ByteArray.toList_eq, toList_str]; cases l with | nil => exact absurd rfl h0 | cons c s => rfl
        have heq : ((str l).toList == []) = false := by rw [ByteArray.toList_eq, toList_str]; cases l with | nil => exact absurd rfl h0 | cons c s => rfl
        have hss : ((str l).toList != (str l).toList) = false := by simp
        have HL0 := Lib.hid h0
        have hr5 := HR5.out
        rw [if_neg h0] at hr5 ⊢
        obtain ⟨bb, e1, va, ⟨_, _, _, x3, _, _, _⟩, _⟩ := RdSl.elem hr5 (i := 1) rfl
        subst e1
        simp only [Tk.mem, Nat.one_mul, add_bl, add_of] at x3
        clear hr5
        go_upto_region 11 with fail
        go_wp2_with fail
        go_loop [7] (fun i => ∃ m : Nat, m ≤ (str l).size ∧ i = .int .i64 m ∧ ∀ j, j < m → (l.drop j).take 3 ≠ cdB) (fun i => (str l).size - (intOf i).toNat)
        case atStart => exact ⟨0, by omega, rfl, fun j hj => absurd hj (by omega)⟩
        case round =>
          obtain ⟨m, hm, rfl, hno⟩ := hrel
          have HNO := Lib.hid hno; clear hno
          by_cases hlt : m + 2 < (str l).size
          · have hltI : (m : Int) + 2 < ((str l).size : Int) := by omega
            have hsl : ∀ w, (Instr.slice 9 (.string (str l)) (some (.int .i64 m)) (some (.int .i64 ((m:Int)+3))) none).run Try.prog w = .ok (.string (str ((l.drop m).take 3))) w := fun w => by
              rw [run_slice_string w 9 _ _ _ _ _ Try.underlying9 (by omega) (by omega) (by omega), ← cut3]; rfl
            have he3 := eq3 ((l.drop m).take 3)
            generalize hq : ((l.drop m).take 3 == cdB) = q at he3
            cases q with
            | true =>
              go_wp2_with fail
              refine (HLV.out _).mono ?_
              rintro e w6 ⟨rfl, hb6⟩
              have HB6 := Lib.hid (HB5.out.trans (hb6.mono HB5.out.size))
              clear hb6
              go_wp2
              go_ret
              exact ⟨rfl, HB6.out⟩
            | false =>
              have HNO2 := Lib.hid (show ∀ j, j < m + 1 → (l.drop j).take 3 ≠ cdB from fun j hj => by
                by_cases e : j = m
                · subst e; exact beq_eq_false_iff_ne.1 hq
                · exact HNO.out j (by omega))
              clear hq
              go_wp2
              refine ⟨⟨m + 1, by omega, by go_num, HNO2.out⟩, by simp [intOf]; omega⟩
          · have hle2 : ((str l).size : Int) ≤ (m : Int) + 2 := by omega
            have HNOA := Lib.hid (show ∀ i, (l.drop i).take 3 ≠ cdB from fun i he => by
              by_cases hi : i < m
              · exact HNO.out i hi he
              · have h1 := congrArg List.length he
                have h2 := HSZ.out
                rw [List.length_take, List.length_drop] at h1
                have h3 : cdB.length = 3 := rfl
                omega)
            clear hlt HNO
            by_cases hlast : l.getLast? = some 93
            · have hn0 : (str l).size ≠ 0 := by
                intro h
                have h2 := HSZ.out
                have : l = [] := List.eq_nil_of_length_eq_zero (by omega)
                rw [this] at hlast
                simp at hlast
              have hix := HNXT.out 93 hlast hn0
              have hpos : (0 : Int) < ((str l).size : Int) := by omega
              clear hlast hn0
              go_wp2_with fail
              refine (HLV.out _).mono ?_
              rintro e w6 ⟨rfl, hb6⟩
              have HB6 := Lib.hid (HB5.out.trans (hb6.mono HB5.out.size))
              clear hb6
              go_wp2
              go_ret
              exact ⟨rfl, HB6.out⟩
            have HCD := Lib.hid (all_cd HL.out HTX.out HNOA.out hlast)
            have HCL := Lib.hid (show (cdF ++ l ++ cdB).length ≤ 1000000 by have := HL.out; simp [cdF, cdB]; omega)
            have HLA := Lib.hid hlast
            clear hlast
            obtain ⟨c, hc⟩ : ∃ c, l.getLast? = some c := by
              cases hq : l.getLast? with
              | none => exact absurd (List.getLast?_eq_none_iff.1 hq) HL0.out
              | some c => exact ⟨c, rfl⟩
            have hn0 : (str l).size ≠ 0 := by
              intro h
              have h2 := HSZ.out
              exact HL0.out (List.eq_nil_of_length_eq_zero (by omega))
            have hix := HNXT.out c hc hn0
            have hpos : (0 : Int) < ((str l).size : Int) := by omega
            have hc93 : ((c.toNat : Int) == 93) = false := u8_ne (d := 93) (fun e => HLA.out (by rw [hc, e]))
            clear hc hn0
            go_upto_region 18 with fail
            clear hix hpos hc93
            have hcat : ((⟨#[60, 33, 91, 67, 68, 65, 84, 65, 91]⟩ : ByteArray) ++ str l) ++ ⟨#[93, 93, 62]⟩ = str (cdF ++ l ++ cdB) := by
              rw [show (⟨#[60, 33, 91, 67, 68, 65, 84, 65, 91]⟩ : ByteArray) = str cdF from rfl, app_str, app_lit]; rfl
            have hcs : ((⟨#[60, 33, 91, 67, 68, 65, 84, 65, 91]⟩ : ByteArray) ++ str l).size = (str l).size + 9 := by rw [ByteArray.size_append, Nat.add_comm]; rfl
            have HCAT := Lib.hid hcat
            clear hcat
            go_wp2_with fail
            rw [HCAT.out]
            refine (all_ok HCD.out HCL.out w5).mono ?_
            rintro e w6 ⟨a6, c6, rfl, hr6, hb6⟩
            obtain ⟨w7, hw7⟩ : ∃ w7, w7 = w6.alloc (.cells #[.int .i64 0, .int .i64 0, .int .i64 0] 26) := ⟨_, rfl⟩
            have hb67 : Below w6.heap.size w6 w7 := by rw [hw7]; exact (Below.refl _ _).alloc (Nat.le_refl _) _
            have HB7 := Lib.hid (HB5.out.trans ((hb6.trans (hb67.mono hb6.size)).mono HB5.out.size))
            have hr7 := hr6.below hb67 (Nat.le_refl _)
            have HW7 := Lib.hid hw7
            obtain ⟨b7, e1, va, ⟨x0, _, _, x3, _, _, _⟩, _⟩ := RdSl.elem hr7 (i := 0) rfl
            subst e1
            simp only [Tk.mem, Nat.zero_mul, add_0] at x0 x3
            clear hw7 hb6 hr6 hb67 hr7
            go_upto_region 19 with fail
            rw [← HW7.out]
            have hss2 : ((str l).toList == (str l).toList) = true := by simp
            go_wp2_with fail
            refine (HLV.out _).mono ?_
            rintro e w8 ⟨rfl, hb8⟩
            have HB8 := Lib.hid (HB7.out.trans (hb8.mono HB7.out.size))
            clear hb8
            go_wp2
            go_ret
            exact ⟨rfl, HB8.out⟩

set_option maxRecDepth 100000 in
theorem lifted_TokenPlain (os : Os) (started : os.Started) (H : Type) (enc : TypeId × Value → H) :
    ReturnsInHanded {} Try.checked os 9 .any (Rows.tokenPlainSpec.pre6 enc Try.prog Try.f9 Rows.tokenPlainRow.domain false) (Rows.tokenPlainSpec.post enc Try.prog Try.f9 false true false false) := by
  refine returnsInHanded_of_change (C := Try.checked) own_knob started (by kernel_rfl) Try.func9
    (ChangeSpec.witness6 (enc := enc) (C := Try.checked) false ⟨#[], #[.string .empty], []⟩ 8 (by kernel_rfl) (by kernel_rfl) (by kernel_rfl) (by kernel_rfl)) ?_
  intro W base args ds gs before hval0 hW _ _
  have hval : ∀ (j : Nat) t v, Try.f9.params[j]? = some t → args[j]? = some v → Value.okWide Try.prog W .any base t v := hval0
  have hW' := hW
  obtain ⟨p, q, hA0, hV, rfl, _, _⟩ := hW
  have hA : DataW.TrodAll enc Try.prog W 0 (fun _ => true) true Try.f9.params.toList args.toList ds p := hA0
  rw [Try.params9] at hA hval
  obtain ⟨v0, vs0, d0, ds0, p0, q0, hargs, rfl, rfl, h0, r0⟩ := trodAll_cons hA
  obtain ⟨rfl, rfl, rfl⟩ := trodAll_nil r0
  obtain rfl : args = #[v0] := by cases args; simp_all
  obtain ⟨rfl, rfl⟩ := trodVars_none hV
  obtain ⟨a0, rfl, rfl, rfl, w0⟩ := open_string Try.underlying9 (hval 0 9 v0 rfl rfl) h0
  clear hA0 hval0
  refine (walk_TokenPlain a0 (by unfold maxLen at w0; exact w0) W).mono fun e W' ⟨he, hb⟩ => ?_
  subst he
  exact ⟨_, rfl, law_post (by kernel_rfl) rfl rfl rfl hW' hb⟩

/-- the statement of TokenPlain -/
theorem proved_TokenPlain : Rows.TokenPlainSaid :=
  OpenClaim.holds_of_wide 9 Try.f9 rfl rfl rfl rfl rfl rfl rfl ⟨rfl, rfl, rfl, rfl, rfl⟩ rfl rfl rfl rfl rfl (by kernel_rfl) Try.func9 (by kernel_rfl)
    (of_decide_eq_true (by kernel_rfl)) (by unfold Func.isWrapper; first | (rw [if_pos (by decide +kernel)]; kernel_rfl) | (rw [if_neg (by decide +kernel)]; exact ⟨rfl, rfl⟩))
    (fun os started H enc _ => lifted_TokenPlain os started H enc)
end Go.Proofs.Ytldgjiohigiioaa
