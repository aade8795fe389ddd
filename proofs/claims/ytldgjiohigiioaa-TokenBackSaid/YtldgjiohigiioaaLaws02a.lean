/-
  Layer 2: the statement TokenRises: for every text. Own work.
-/
import Derived.Test.YtldgjiohigiioaaLaw
import Derived.Test.YtldgjiohigiioaaLives2
import Derived.Test.YtldgjiohigiioaaErr2
namespace Go.Proofs.Ytldgjiohigiioaa
set_option linter.unusedVariables false
set_option linter.unusedSimpArgs false
open Go.ChangeShapes Go.WideShapes Go.ChangeAt Go.RowKit
open Go.ChangeMaps (open_string shut_string)

/-- the cut of a text to 2000 bytes -/
theorem cut02_any (s : ByteArray) (hs : s.size ≤ 9223372036854775807) (w : World) :
    Calls Try.prog 11 #[.string s] w fun e w' => ∃ l : List UInt8, e = .returned (.string (str l)) ∧ l.length ≤ 2000 ∧ w' = w := by
  by_cases h : 2000 < s.size
  · have h1 : (2000 : Int) < s.size := by omega
    have H2 := Lib.hid (show ∃ l : List UInt8, s.extract 0 2000 = str l ∧ l.length ≤ 2000 from ⟨s.data.toList.take 2000, by rw [ext_str, List.drop_zero], by rw [List.length_take]; omega⟩)
    go_enter Try.func11, Try.ntmps11
    go_wp2
    go_ret
    obtain ⟨l, h3, h4⟩ := H2.out
    exact ⟨l, by rw [h3]; rfl, h4, rfl⟩
  · have h1 : (s.size : Int) ≤ 2000 := by omega
    have H2 := Lib.hid (show ∃ l : List UInt8, s = str l ∧ l.length ≤ 2000 from ⟨s.data.toList, by unfold str; rw [Array.toArray_toList], by simp; omega⟩)
    go_enter Try.func11, Try.ntmps11
    go_wp2
    go_ret
    obtain ⟨l, h3, h4⟩ := H2.out
    exact ⟨l, by rw [h3]; rfl, h4, rfl⟩
/-- All, either way -/
theorem all_two (l : List UInt8) (hl : l.length ≤ 1000000) (w : World) :
    Calls Try.prog 12 #[.string (str l)] w fun e w' => Below w.heap.size w w' ∧
      ((∃ c r, allM l = .bad c r ∧ e = .returned (.tuple #[.slice none 0 0, .int .i64 c, .agg #[.int .i64 ((l.length - r.length : Nat) : Int), .int .i64 (lineS (preO l r)), .int .i64 (colS (preO l r))]])) ∨
        ∃ ts r a c, allM l = .ok ts r ∧ e = .returned (.tuple #[.slice a ts.length c, .int .i64 0, .agg #[.int .i64 0, .int .i64 0, .int .i64 0]]) ∧ RdTs w' (.slice a ts.length c) (ts.map (Tk.mem l))) := by
  refine (All_any l hl w).mono ?_
  rintro e w' ⟨hb, h⟩
  refine ⟨hb, ?_⟩
  cases hM : allM l with
  | bad c r => simp only [hM] at h; exact .inl ⟨c, r, rfl, h⟩
  | ok ts r =>
    simp only [hM] at h
    obtain ⟨v, rfl, hr⟩ := h
    obtain ⟨a, c, rfl⟩ := RdSl.shape hr
    rw [List.length_map] at hr ⊢
    exact .inr ⟨ts, r, a, c, rfl, rfl, hr⟩
theorem mem_at {l : List UInt8} {ts : List Tk} {k : Nat} {t : Tk} (h : ts[k]? = some t) : (ts.map (Tk.mem l))[k]? = some (t.mem l) := by rw [List.getElem?_map, h]; rfl
theorem cut9 (l : List UInt8) (o : Nat) : (str l).extract o (o + 9) = str ((l.drop o).take 9) := by
  rw [ext_str, toList_str, List.drop_take]
  congr 2
  omega
theorem pre9 (r : List UInt8) : ((str (r.take 9)).toList == [60, 33, 91, 67, 68, 65, 84, 65, 91]) = cdF.isPrefixOf r := by
  rw [ByteArray.toList_eq, toList_str, Bool.eq_iff_iff, beq_iff_eq, List.isPrefixOf_iff_prefix, List.prefix_iff_eq_take]
  exact eq_comm
set_option maxRecDepth 100000 in
set_option maxHeartbeats 2000000 in
theorem walk_TokenRises (s : ByteArray) (hs : s.size ≤ 9223372036854775807) (w : World) :
    Calls Try.prog 6 #[.string s] w fun e w' => e = .returned (.bool true) ∧ Below w.heap.size w w' := by
  go_enter Try.func6, Try.ntmps6
  go_wp2_with fail
  refine (cut02_any s hs w).mono ?_
  rintro e w1 ⟨l, rfl, hl, rfl⟩
  have HL := Lib.hid hl
  have hsz := size_str l
  go_wp2_with fail
  refine (all_two l (by omega) w1).mono ?_
  rintro e w2 ⟨hb2, ⟨c, r, hM, rfl⟩ | ⟨ts, r, a, cp, hM, rfl, hr⟩⟩
  · have hne : (c != 0) = true := by rw [bne_iff_ne]; exact all_ne hM
    have HB := Lib.hid (hb2.alloc hb2.size (.cells #[.int .i64 ((l.length - r.length : Nat) : Int), .int .i64 (lineS (preO l r)), .int .i64 (colS (preO l r))] 26))
    clear hb2 hM
    go_upto_region 3 with fail
    generalize w2.alloc (.cells #[.int .i64 ((l.length - r.length : Nat) : Int), .int .i64 (lineS (preO l r)), .int .i64 (colS (preO l r))] 26) = w3 at HB ⊢
    have HLV := Lib.hid (lives02 w3)
    go_wp2_with fail
    refine HLV.out.mono ?_
    rintro e w4 ⟨rfl, hb4⟩
    have HB4 := Lib.hid (HB.out.trans (hb4.mono HB.out.size))
    clear hb4
    go_wp2
    go_ret
    exact ⟨rfl, HB4.out⟩
  have HB3 := Lib.hid (hb2.alloc hb2.size (.cells #[.int .i64 0, .int .i64 0, .int .i64 0] 26))
  have HR3 := Lib.hid (hr.below ((Below.refl _ _).alloc (Nat.le_refl _) (.cells #[.int .i64 0, .int .i64 0, .int .i64 0] 26)) (Nat.le_refl _))
  have HM := Lib.hid hM
  have hnil : ((ts.length : Int) == 0) = ((str l).toList == []) := by
    rw [Bool.eq_iff_iff]
    simp only [beq_iff_eq]
    have h1 := chain_nil hM
    rw [ByteArray.toList_eq, toList_str]
    constructor
    · intro h; exact h1.1 (List.eq_nil_of_length_eq_zero (by omega))
    · intro h; rw [h1.2 h]; rfl
  have hlen := RdSl.len hr
  rw [List.length_map] at hlen
  have hlenI : (ts.length : Int) ≤ 9223372036854775807 := by omega
  clear hb2 hr hM
  go_upto_region 5 with fail
  generalize w2.alloc (.cells #[.int .i64 0, .int .i64 0, .int .i64 0] 26) = w3 at HB3 HR3 ⊢
  generalize hq0 : ((str l).toList == []) = q0 at hnil
  have hbb : (q0 != q0) = false := by simp
  go_upto_region 7 with fail
  clear hnil hbb hq0
  go_wp2_with fail
  go_loopw [29] (fun i wr => ∃ k : Nat, k ≤ ts.length ∧ i = .int .i64 k ∧ Below w3.heap.size w3 wr) (fun i _ => ts.length - (intOf i).toNat)
  case atStart => exact ⟨0, by omega, rfl, Below.refl _ _⟩
  case round =>
    obtain ⟨k, hk, rfl, hb⟩ := hrel
    have HB := Lib.hid hb
    by_cases hlt : k < ts.length
    · obtain ⟨t, ht⟩ : ∃ t, ts[k]? = some t := ⟨_, List.getElem?_eq_getElem hlt⟩
      have HT := Lib.hid ht
      obtain ⟨bb, e1, va, ⟨x0, x1, x2, x3, x4, x5, x6⟩, hats⟩ := RdSl.elem (HR3.out.below hb (Nat.le_refl _)) (mem_at ht)
      subst e1
      obtain ⟨ua, uc, rfl⟩ := RdSl.shape hats
      simp only [Tk.mem] at x0 x1 x2 x3 x4 x5 x6
      have HRISE := Lib.hid (rise_at HM.out ht)
      have hltI : (k : Int) < (ts.length : Int) := by omega
      obtain ⟨wb, hwb⟩ : ∃ wb, wb = wr.alloc (.cells #[.int .i64 t.k, .string (str t.n), .slice ua t.ats.length uc, .string (str t.t), .int .i64 (t.o : Int), .int .i64 (lineS (l.take t.o)), .int .i64 (colS (l.take t.o))] 34) := ⟨_, rfl⟩
      have HWB := Lib.hid hwb
      have HBB := Lib.hid (show Below wr.heap.size wr wb by rw [hwb]; exact (Below.refl _ _).alloc (Nat.le_refl _) _)
      have HTB := Lib.hid (show wb.heap[wr.heap.size]? = some (.cells #[.int .i64 t.k, .string (str t.n), .slice ua t.ats.length uc, .string (str t.t), .int .i64 (t.o : Int), .int .i64 (lineS (l.take t.o)), .int .i64 (colS (l.take t.o))] 34 (0, 0)) by rw [hwb]; exact heap_alloc_new wr _)
      clear hwb hats ht hb
      go_upto_region 10 with fail
      rw [← HWB.out]
      obtain ⟨KB, hKB⟩ : ∃ b, b = wr.heap.size := ⟨_, rfl⟩
      rw [← hKB] at HTB
      simp only [← hKB]
      have HKB := Lib.hid hKB
      clear hKB x0 x1 x2 x3 x4 x5 x6
      obtain ⟨ho, ho0, hup, c, hc, hkind⟩ := HRISE.out
      have HAT := Lib.hid (refAt_any (str l) (by rw [hsz]; have := HL.out; omega) t.o (by rw [hsz]; omega) wb)
      rw [toList_str] at HAT
      have HBC := Lib.hid (HB.out.trans (HBB.out.mono HB.out.size))
      have z0 : wb.cell? ⟨KB, 0, none⟩ = some (.int .i64 t.k) := by rw [cell_of_row wb KB 0 _ _ (0, 0) HTB.out]; rfl
      have z4 : wb.cell? ⟨KB, 4, none⟩ = some (.int .i64 (t.o : Int)) := by rw [cell_of_row wb KB 4 _ _ (0, 0) HTB.out]; rfl
      have z5 : wb.cell? ⟨KB, 5, none⟩ = some (.int .i64 (lineS (l.take t.o))) := by rw [cell_of_row wb KB 5 _ _ (0, 0) HTB.out]; rfl
      have z6 : wb.cell? ⟨KB, 6, none⟩ = some (.int .i64 (colS (l.take t.o))) := by rw [cell_of_row wb KB 6 _ _ (0, 0) HTB.out]; rfl
      clear hup hkind hc
      go_wp2_with fail
      refine HAT.out.mono ?_
      rintro e w5 ⟨rfl, hw5⟩
      obtain rfl : wb = w5 := hw5.symm
      generalize lineS (l.take t.o) = pl at z5
      generalize colS (l.take t.o) = pc at z6
      go_upto_region 11 with fail
      obtain ⟨kI, hkI⟩ : ∃ kI : Int, kI = (k : Int) := ⟨_, rfl⟩
      obtain ⟨oI, hoe⟩ : ∃ oI : Int, oI = (t.o : Int) := ⟨_, rfl⟩
      rw [← hkI, ← hoe]
      rw [← hoe] at z4
      have HKI := Lib.hid hkI
      have HOI := Lib.hid hoe
      have hoI : ¬ (l.length : Int) ≤ oI := by omega
      have hoI0 : (0 : Int) ≤ oI := by omega
      go_cut [88] from 42 to 120 (fun t wx => t = .bool false ∧ Below wb.heap.size wb wx)
      case first =>
        by_cases hk0 : k = 0
        · have ho00 := (HRISE.out.2.1 hk0)
          have ho1 : (oI != 0) = false := by rw [hoe, ho00]; rfl
          have hk1 : (kI == 0) = true := by rw [hkI, hk0]; rfl
          have hk2 : ¬ (0 : Int) < kI := by omega
          clear hkI hoe ho00 hk0 ho ho0 hltI hk hlt
          go_quiet (fail)
          go_wp2_with fail
          go_meet
          exact ⟨rfl, below_drewN (Below.refl _ _) _⟩
        · obtain ⟨j, hj⟩ : ∃ j, k = j + 1 := ⟨k - 1, by omega⟩
          obtain ⟨t', ht'⟩ : ∃ t', ts[j]? = some t' := ⟨_, List.getElem?_eq_getElem (by omega)⟩
          have hlt' := HRISE.out.2.2.1 j t' hj.symm ht'
          obtain ⟨bb', e1', va', ⟨_, _, _, _, y4, _, _⟩, _⟩ := RdSl.elem (HR3.out.below HBC.out (Nat.le_refl _)) (mem_at ht')
          cases e1'
          simp only [Tk.mem] at y4
          have hk1 : (kI == 0) = false := by rw [hkI, beq_eq_false_iff_ne]; omega
          have hkw : IntKind.i64.wrap (kI - 1) = (j : Int) := by rw [hkI, hj, IntWalk.i64_in] <;> omega
          have hk2 : (0 : Int) < kI := by omega
          have hjl : (j : Int) < (ts.length : Int) := by omega
          have htt : ¬ oI ≤ (t'.o : Int) := by omega
          clear ht' hkI hoe hk0 ho ho0 hltI hk hlt hj
          go_quiet (fail)
          go_wp2_with fail
          go_meet
          exact ⟨rfl, below_drewN (Below.refl _ _) _⟩
      case rest =>
        obtain ⟨rfl, hbc⟩ := hcut
        have HBX := Lib.hid (HBC.out.trans (hbc.mono HBC.out.size))
        have htc := (hbc.block KB (Array.getElem?_eq_some_iff.1 HTB.out).1).trans HTB.out
        clear z0 z4 z5 z6 hoI hoI0
        subst hkI
        subst hoe
        have y0 : wc.cell? ⟨KB, 0, none⟩ = some (.int .i64 t.k) := by rw [cell_of_row wc KB 0 _ _ (0, 0) htc]; rfl
        have y4 : wc.cell? ⟨KB, 4, none⟩ = some (.int .i64 (t.o : Int)) := by rw [cell_of_row wc KB 4 _ _ (0, 0) htc]; rfl
        obtain ⟨_, _, _, c', hc', hkind⟩ := HRISE.out
        have hi := fun w => bidx2 (str l) t.o c' (by rw [toList_str]; exact hc') w
        have hoN : t.o < (str l).size := by rw [hsz]; exact ho
        have hLB := HL.out
        have HLT := Lib.hid hlt
        by_cases hc60 : c' = 60
        · have hcn : ((c'.toNat : Int) != 60) = false := by rw [hc60]; rfl
          have hkk : (t.k == 4) = cdF.isPrefixOf (l.drop t.o) := by rw [hkind, hc60]; rfl
          by_cases h9 : t.o + 9 ≤ l.length
          · obtain ⟨n9, hn9⟩ : ∃ n9, n9 = t.o + 9 := ⟨_, rfl⟩
            have hwr : IntKind.i64.wrap ((t.o : Int) + 9) = (n9 : Int) := by rw [hn9, IntWalk.i64_in] <;> omega
            have h01 : t.o ≤ n9 := by omega
            have h01I : (t.o : Int) ≤ (n9 : Int) := by omega
            have h1s : n9 ≤ (str l).size := by rw [hsz]; omega
            have h1sI : (n9 : Int) ≤ ((str l).size : Int) := by rw [hsz]; omega
            have hcut : (str l).extract t.o n9 = str ((l.drop t.o).take 9) := by rw [hn9, cut9]
            have hq : ((str ((l.drop t.o).take 9)).toList == [60, 33, 91, 67, 68, 65, 84, 65, 91]) = (t.k == 4) := by rw [hkk]; exact pre9 _
            generalize str ((l.drop t.o).take 9) = sc at hcut hq
            generalize hqq : (t.k == 4) = q at hq
            have hbb : (q != q) = false := by simp
            have HHH := Lib.hid hsz
            clear hkind hkk hc' hc60 h9 hn9 ho ho0 hLB hsz hoN hbc htc
            go_upto_region 13 with fail
            go_quiet (fail)
            go_wp2
            go_roundw
            case rel => exact ⟨k + 1, by have := HLT.out; omega, by go_num, below_drewN HBX.out _⟩
            case measure => have := HLT.out; simp [intOf]; omega
          · have hpf : cdF.isPrefixOf (l.drop t.o) = false := by
              rw [Bool.eq_false_iff]
              intro h
              have := (List.isPrefixOf_iff_prefix.1 h).length_le
              rw [List.length_drop] at this
              simp only [cdF, List.length_cons, List.length_nil] at this
              omega
            have hqq : (t.k == 4) = false := by rw [hkk, hpf]
            have hwr : IntKind.i64.wrap ((t.o : Int) + 9) = (t.o : Int) + 9 := by rw [IntWalk.i64_in] <;> omega
            have hge : ¬ (t.o : Int) + 9 ≤ (l.length : Int) := by omega
            clear hkind hkk hpf hc' hc60 h9 ho ho0 hLB hoN hbc htc
            go_upto_region 13 with fail
            go_quiet (fail)
            go_wp2
            go_roundw
            case rel => exact ⟨k + 1, by have := HLT.out; omega, by go_num, below_drewN HBX.out _⟩
            case measure => have := HLT.out; simp [intOf]; omega
        · have hcn : ((c'.toNat : Int) != 60) = true := by
            rw [bne_iff_ne]
            intro h
            exact hc60 (UInt8.toNat_inj.1 (by simpa using (show c'.toNat = 60 by omega)))
          have hqq : (t.k == 4) = true := by rw [hkind, show (c' != 60) = true by simpa using hc60]; rfl
          clear hkind hc' hc60 ho ho0 hLB hoN hbc htc
          go_upto_region 13 with fail
          go_quiet (fail)
          go_wp2
          go_roundw
          case rel => exact ⟨k + 1, by have := HLT.out; omega, by go_num, below_drewN HBX.out _⟩
          case measure => have := HLT.out; simp [intOf]; omega
    · have hle : (ts.length : Int) ≤ k := by omega
      have HLV := Lib.hid (lives02 wr)
      clear hb
      go_wp2_with fail
      refine HLV.out.mono ?_
      rintro e w4 ⟨rfl, hb4⟩
      have HB4 := Lib.hid (HB3.out.trans ((HB.out.trans (hb4.mono HB.out.size)).mono HB3.out.size))
      clear hb4
      go_wp2
      go_ret
      exact ⟨rfl, HB4.out⟩

set_option maxRecDepth 100000 in
theorem lifted_TokenRises (os : Os) (started : os.Started) (H : Type) (enc : TypeId × Value → H) :
    ReturnsInHanded {} Try.checked os 6 .any (Rows.tokenRisesSpec.pre6 enc Try.prog Try.f6 Rows.tokenRisesRow.domain false) (Rows.tokenRisesSpec.post enc Try.prog Try.f6 false true false false) := by
  refine returnsInHanded_of_change (C := Try.checked) own_knob started (by kernel_rfl) Try.func6
    (ChangeSpec.witness6 (enc := enc) (C := Try.checked) false ⟨#[], #[.string .empty], []⟩ 8 (by kernel_rfl) (by kernel_rfl) (by kernel_rfl) (by kernel_rfl)) ?_
  intro W base args ds gs before hval0 hW _ _
  have hval : ∀ (j : Nat) t v, Try.f6.params[j]? = some t → args[j]? = some v → Value.okWide Try.prog W .any base t v := hval0
  have hW' := hW
  obtain ⟨p, q, hA0, hV, rfl, _, _⟩ := hW
  have hA : DataW.TrodAll enc Try.prog W 0 (fun _ => true) true Try.f6.params.toList args.toList ds p := hA0
  rw [Try.params6] at hA hval
  obtain ⟨v0, vs0, d0, ds0, p0, q0, hargs, rfl, rfl, h0, r0⟩ := trodAll_cons hA
  obtain ⟨rfl, rfl, rfl⟩ := trodAll_nil r0
  obtain rfl : args = #[v0] := by cases args; simp_all
  obtain ⟨rfl, rfl⟩ := trodVars_none hV
  obtain ⟨a0, rfl, rfl, rfl, w0⟩ := open_string Try.underlying9 (hval 0 9 v0 rfl rfl) h0
  clear hA0 hval0
  refine (walk_TokenRises a0 (by unfold maxLen at w0; exact w0) W).mono fun e W' ⟨he, hb⟩ => ?_
  subst he
  exact ⟨_, rfl, law_post (by kernel_rfl) rfl rfl rfl hW' hb⟩

/-- the statement of TokenRises -/
theorem proved_TokenRises : Rows.TokenRisesSaid :=
  OpenClaim.holds_of_wide 6 Try.f6 rfl rfl rfl rfl rfl rfl rfl ⟨rfl, rfl, rfl, rfl, rfl⟩ rfl rfl rfl rfl rfl (by kernel_rfl) Try.func6 (by kernel_rfl)
    (of_decide_eq_true (by kernel_rfl)) (by unfold Func.isWrapper; first | (rw [if_pos (by decide +kernel)]; kernel_rfl) | (rw [if_neg (by decide +kernel)]; exact ⟨rfl, rfl⟩))
    (fun os started H enc _ => lifted_TokenRises os started H enc)
end Go.Proofs.Ytldgjiohigiioaa
