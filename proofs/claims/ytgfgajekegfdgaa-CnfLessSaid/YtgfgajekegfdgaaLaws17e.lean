/-
  Layer 17: the statement CnfLess: what is taken by truths that make all clauses true is right, and nothing of it is unwanted. For every input. Own work.
-/
import Derived.Test.YtgfgajekegfdgaaLives17
import Derived.Test.YtgfgajekegfdgaaLight17
import Derived.Test.YtgfgajekegfdgaaOpen17
import Derived.Test.YtgfgajekegfdgaaHold17
import Derived.Test.YtgfgajekegfdgaaLess17
import Derived.Test.YtgfgajekegfdgaaLaws17a
namespace Go.Proofs.Ytgfgajekegfdgaa
set_option linter.unusedVariables false
set_option linter.unusedSimpArgs false
open Go.ChangeShapes Go.WideShapes Go.ChangeAt Go.RowKit

set_option maxRecDepth 100000 in
set_option maxHeartbeats 8000000 in
theorem walk_CnfLess (vi vw : Value) (d : Dl) (hok : ∀ x ∈ d.its, okIt x) (vt : Value) (ts : List Bool) (w : World) (hr : RdD w vi vw d) (ht : Reads w bV vt ts) :
    Calls Try.prog 7 #[dealV vi vw d.root, vt] w fun e w' => e = .returned (.bool true) ∧ Below w.heap.size w w' := by
  obtain ⟨ta, tc, rfl⟩ := ht.shape
  have htl := ht.len
  have htlI : (ts.length : Int) ≤ 9223372036854775807 := by omega
  obtain ⟨ai, ci, aw, cw, rfl, rfl⟩ := hr.shape
  have hm2 := fun w' hr => refMay_any d (.slice ai d.its.length ci) (.slice aw d.ws.length cw) w' hr
  have he := fun hf hi hw hok w' hr => Encode_any d (.slice ai d.its.length ci) (.slice aw d.ws.length cw) hf hi hw hok w' hr
  have hri := fun tk vt hwf htl w' hr ht => Right_any d tk (.slice ai d.its.length ci) (.slice aw d.ws.length cw) vt hok hwf htl w' hr ht
  unfold dealV at hm2 he hri
  have HM2 := Lib.hid hm2
  have HE := Lib.hid he
  have HRI := Lib.hid hri
  have HT0 := Lib.hid ht
  clear hm2 he hri ht
  have hb0 : Below w.heap.size w (w.alloc (.cells #[.slice ai d.its.length ci, .slice aw d.ws.length cw, .int .i64 d.root] 25)) := (Below.refl w.heap.size w).alloc (Nat.le_refl _) _
  have hk := DlIn.new w (.slice ai d.its.length ci) (.slice aw d.ws.length cw) d.root
  have HR := Lib.hid (hr.below hb0 (Nat.le_refl _))
  have HB0 := Lib.hid hb0
  have HT := Lib.hid (HT0.out.below hb0 (Nat.le_refl _))
  have HOK := Lib.hid hok
  have hlt := fun w' hr => light_any d (.slice ai d.its.length ci) (.slice aw d.ws.length cw) w' hr
  unfold dealV at hlt ⊢
  have HLT := Lib.hid hlt
  have HLV := Lib.hid lives17
  clear hr hb0 hok hlt HT0
  go_enter Try.func7, Try.ntmps7
  go_upto_region 1 with fail
  generalize w.alloc (.cells #[.slice ai d.its.length ci, .slice aw d.ws.length cw, .int .i64 d.root] 25) = w1 at hk HR HB0 HT ⊢
  generalize w.heap.size = D at hk ⊢
  have HK := Lib.hid hk
  obtain ⟨x0, x1, x2⟩ := hk
  go_wp2_with fail
  refine (HLT.out _ HR.out).mono ?_
  rintro e w2 ⟨lb, rfl, hld, hb2⟩
  have HLD := Lib.hid hld
  have HB2 := Lib.hid hb2
  clear x0 x1 x2 hld hb2
  cases lb
  · go_wp2_with fail
    refine (HLV.out _).mono ?_
    rintro e wz ⟨rfl, hbz⟩
    have HZ := Lib.hid (HB0.out.trans ((HB2.out.trans (hbz.mono HB2.out.size)).mono HB0.out.size))
    clear hbz
    go_wp2
    go_ret
    exact ⟨rfl, HZ.out⟩
  obtain ⟨x0, x1, x2⟩ := HK.out.below HB2.out (Nat.le_refl _)
  have hld := HLD.out rfl
  obtain ⟨hl1, hl2, hl3⟩ := hld
  have HF := Lib.hid hl3
  clear hl3
  go_wp2_with fail
  refine (HM2.out _ (HR.out.below HB2.out (Nat.le_refl _))).mono ?_
  rintro e w3 ⟨rfl, hb3⟩
  have HB3 := Lib.hid (HB2.out.trans (hb3.mono HB2.out.size))
  clear x0 x1 x2 hb3
  by_cases hm : mayD d = 0
  case neg =>
    have hne : (mayD d != 0) = true := by simpa using hm
    clear hm
    go_wp2_with fail
    refine (HLV.out _).mono ?_
    rintro e wz ⟨rfl, hbz⟩
    have HZ := Lib.hid (HB0.out.trans ((HB3.out.trans (hbz.mono HB3.out.size)).mono HB0.out.size))
    clear hbz
    go_wp2
    go_ret
    exact ⟨rfl, HZ.out⟩
  rw [hm]
  have HM := Lib.hid hm
  clear hm
  by_cases hbig : 60 < ts.length
  case pos =>
    have hbigI : (60 : Int) < ts.length := by omega
    clear hbig
    go_wp2_with fail
    refine (HLV.out _).mono ?_
    rintro e wz ⟨rfl, hbz⟩
    have HZ := Lib.hid (HB0.out.trans ((HB3.out.trans (hbz.mono HB3.out.size)).mono HB0.out.size))
    clear hbz
    go_wp2
    go_ret
    exact ⟨rfl, HZ.out⟩
  have hsm : (ts.length : Int) ≤ 60 := by omega
  have hds : decide ((60 : Int) < ts.length) = false := by simpa using hsm
  obtain ⟨x0, x1, x2⟩ := HK.out.below HB3.out (Nat.le_refl _)
  go_wp2_with fail
  refine (HE.out HF.out (by omega) (by omega) HOK.out _ (HR.out.below HB3.out (Nat.le_refl _))).mono ?_
  rintro e w4 (⟨h, _⟩ | ⟨_, h, _⟩ | ⟨_, _, v, lo, rfl, hlo, hrows, hb4⟩)
  · exact absurd HM.out h
  · have := sizeD_le HF.out hl1 hl2
    exact absurd h (by omega)
  obtain ⟨va, vc, rfl⟩ := rows_shape hrows
  have hba : Below w4.heap.size w4 (w4.alloc (.cells #[.int .i64 d.its.length, .slice va (encL d).length vc] 34)) := (Below.refl _ _).alloc (Nat.le_refl _) _
  have hq : (w4.alloc (.cells #[.int .i64 d.its.length, .slice va (encL d).length vc] 34)).cell? ⟨w4.heap.size, 1, none⟩ = some (.slice va (encL d).length vc) := by
    have h := heap_alloc_new w4 (.cells #[.int .i64 d.its.length, .slice va (encL d).length vc] 34)
    rw [cell_of_row _ _ 1 _ _ (0, 0) h]; rfl
  have HRO := Lib.hid (hrows.below17 hba)
  have HB5 := Lib.hid (HB3.out.trans ((hb4.trans (hba.mono hb4.size)).mono HB3.out.size))
  have HEL := Lib.hid (show (encL d).length ≤ 2001 by rw [encL_size]; exact sizeD_le HF.out hl1 hl2)
  clear hrows hlo hb4 hba x0 x1 x2 hbig
  go_upto_region 6 with fail
  generalize w4.alloc (.cells #[.int .i64 d.its.length, .slice va (encL d).length vc] 34) = w5 at hq HRO HB5 ⊢
  generalize w4.heap.size = QV at hq ⊢
  obtain ⟨x0, x1, x2⟩ := HK.out.below HB5.out (Nat.le_refl _)
  have HTR := Lib.hid (HT.out.below HB5.out (Nat.le_refl _))
  have HHO := Lib.hid (Holds_one (.slice va (encL d).length vc) (.slice ta ts.length tc) (encL d) ts lo w5 HRO.out HTR.out (by have := HEL.out; omega) (fun j c hc => by have := encL_lens HF.out c (List.mem_of_getElem? hc); omega))
  go_wp2_with fail
  refine HHO.out.mono ?_
  rintro e w6 ⟨⟨r, rfl, hr1⟩, rfl⟩
  clear x0 x1 x2 hq
  by_cases hr2 : r = -1
  case neg =>
    have hrne : (r != -1) = true := by simpa using hr2
    clear hr2 hr1
    go_wp2_with fail
    refine (HLV.out _).mono ?_
    rintro e wz ⟨rfl, hbz⟩
    have HZ := Lib.hid (HB0.out.trans ((HB5.out.trans (hbz.mono HB5.out.size)).mono HB0.out.size))
    clear hbz
    go_wp2
    go_ret
    exact ⟨rfl, HZ.out⟩
  subst hr2
  have HALL := Lib.hid (hr1.1 rfl)
  have htk := Taken_any d ts (.slice ai d.its.length ci) (.slice aw d.ws.length cw) (.slice ta ts.length tc) w5 (HR.out.below HB5.out (Nat.le_refl _)) HTR.out
  unfold dealV at htk
  have HTK := Lib.hid htk
  obtain ⟨x0, x1, x2⟩ := HK.out.below HB5.out (Nat.le_refl _)
  clear hr1 htk HHO HRO
  go_wp2_with fail
  refine HTK.out.mono ?_
  rintro e w6 ⟨v, L, rfl, hL, hb6, hcase⟩
  have hist : IsTk d ts L := by
    rcases hcase with ⟨h, _⟩ | ⟨_, h⟩
    · exact absurd HM.out h
    · exact h
  obtain ⟨la, lc, rfl⟩ := hL.shape
  have hlt := tk_len hist
  have HBD := Lib.hid (fun n (hn : n ∈ L) => (show (0 : Int) ≤ n ∧ n < d.its.length from by obtain ⟨i, hi, -, rfl⟩ := (tk_mem hist).1 hn; exact ⟨by omega, by omega⟩))
  have HB6 := Lib.hid (HB5.out.trans (hb6.mono HB5.out.size))
  have HWT := Lib.hid (fun n (hn : n ∈ L) => less_wanted HM.out hist hn)
  have HL6 := Lib.hid hL
  have hop := HRI.out L (.slice la L.length lc) (fun n hn => by have := HBD.out n hn; omega) (by omega) w6 (HR.out.below HB6.out (Nat.le_refl _)) hL
  rw [less_right HM.out HALL.out hist] at hop
  have HOP := Lib.hid hop
  have HLR := Lib.hid (less_right HM.out HALL.out hist)
  clear x0 x1 x2 hop hcase hist hb6 hL HTK
  obtain ⟨x0, x1, x2⟩ := HK.out.below HB6.out (Nat.le_refl _)
  go_wp2_with fail
  refine HOP.out.mono ?_
  rintro e w7 ⟨rfl, hb7⟩
  have HB7 := Lib.hid (HB6.out.trans (hb7.mono HB6.out.size))
  have hop2 := refRight_any d L (.slice ai d.its.length ci) (.slice aw d.ws.length cw) (.slice la L.length lc) w7 (HR.out.below HB7.out (Nat.le_refl _)) (HL6.out.below hb7 (Nat.le_refl _))
  rw [HLR.out] at hop2
  unfold dealV at hop2
  have HOP2 := Lib.hid hop2
  have HL7 := Lib.hid (HL6.out.below hb7 (Nat.le_refl _))
  clear x0 x1 x2 hop2 hb7 HOP
  obtain ⟨x0, x1, x2⟩ := HK.out.below HB7.out (Nat.le_refl _)
  go_wp2_with fail
  refine HOP2.out.mono ?_
  rintro e w8 ⟨rfl, hb8⟩
  have HB8 := Lib.hid (HB7.out.trans (hb8.mono HB7.out.size))
  have HL8 := Lib.hid (HL7.out.below hb8 (Nat.le_refl _))
  have HR8 := Lib.hid (HR.out.below HB8.out (Nat.le_refl _))
  have HT8 := Lib.hid (HT.out.below HB8.out (Nat.le_refl _))
  have hwl := (mayD_zero HM.out).2.2.1
  clear x0 x1 x2 hb8 HOP2
  obtain ⟨x0, x1, x2⟩ := HK.out.below HB8.out (Nat.le_refl _)
  have hllI : (L.length : Int) ≤ 40 := by omega
  go_wp2_with fail
  go_loop [59] (fun i => ∃ m : Nat, m ≤ L.length ∧ i = .int .i64 m) (fun i => L.length - (intOf i).toNat)
  case atStart => exact ⟨0, by omega, rfl⟩
  case round =>
    obtain ⟨m, hml, rfl⟩ := hrel
    by_cases hltm : m < L.length
    · obtain ⟨n, hn⟩ : ∃ n, L[m]? = some n := ⟨_, List.getElem?_eq_getElem hltm⟩
      obtain ⟨lb, hla, hcn⟩ := HL8.out.elem hn
      subst hla
      have hnm := List.mem_of_getElem? hn
      obtain ⟨hn0, hn1⟩ := HBD.out n hnm
      obtain ⟨hw1, hw2⟩ := HWT.out n hnm
      unfold alw at hw2
      have hnt : n < (ts.length : Int) := by have := (List.getElem?_eq_some_iff.1 hw2).1; omega
      have hdn : decide ((ts.length : Int) ≤ n) = false := by simpa using hnt
      obtain ⟨tb, hta, hct⟩ := HT8.out.elem hw2
      subst hta
      unfold bV at hct
      unfold iV at hcn
      generalize hcc : (n == d.root) = c at hw1
      have HCC := Lib.hid hcc
      have HW1 := Lib.hid hw1
      clear hn hnm hw1 hw2
      go_wp2_with fail
      clear hcc hcn
      go_loop [10, 69] (fun ok i => ∃ q : Nat, q ≤ L.length ∧ i = .int .i64 q ∧ ok = .bool (c || inAll d n (L.take q))) (fun _ i => L.length - (intOf i).toNat)
      case atStart => exact ⟨0, by omega, rfl, by simp [inAll]⟩
      case round =>
        obtain ⟨q, hql, rfl, rfl⟩ := hrel
        by_cases hltq : q < L.length
        · obtain ⟨k, hk⟩ : ∃ k, L[q]? = some k := ⟨_, List.getElem?_eq_getElem hltq⟩
          obtain ⟨lb', hla, hck⟩ := HL8.out.elem hk
          cases hla
          obtain ⟨hk0, hk1⟩ := HBD.out k (List.mem_of_getElem? hk)
          have hkl : k < (d.ws.length : Int) := by omega
          obtain ⟨ws, hws⟩ : ∃ ws, d.ws[k.toNat]? = some ws := ⟨_, List.getElem?_eq_getElem (by omega)⟩
          have hS2 := inAll_snoc (d := d) (n := n) hk hws
          obtain ⟨wb, r, hwb, hcw, hrw⟩ := RdOf.elem HR8.out.w hws
          subst hwb
          obtain ⟨wa, wc, rfl⟩ := RdOf.shape hrw
          have hwsl := RdOf.len hrw
          have hwsI : (ws.length : Int) ≤ 9223372036854775807 := by omega
          have hS2' : (c || inAll d n (L.take (q + 1))) = ((c || inAll d n (L.take q)) || inWs n ws) := by rw [hS2, Bool.or_assoc]
          have HRW := Lib.hid hrw
          unfold iV at hck
          generalize (c || inAll d n (L.take q)) = c2 at hS2' ⊢
          have HS2 := Lib.hid hS2'
          clear hk hws hrw hS2 hS2'
          go_wp2_with fail
          clear hcw hck
          go_loop [10, 79] (fun ok i => ∃ p : Nat, p ≤ ws.length ∧ i = .int .i64 p ∧ ok = .bool (c2 || inWs n (ws.take p))) (fun _ i => ws.length - (intOf i).toNat)
          case atStart => exact ⟨0, by omega, rfl, by simp [inWs]⟩
          case round =>
            obtain ⟨p, hpl, rfl, rfl⟩ := hrel
            by_cases hltp : p < ws.length
            · obtain ⟨x, hx⟩ : ∃ x, ws[p]? = some x := ⟨_, List.getElem?_eq_getElem hltp⟩
              obtain ⟨xb, r, hxb, hcx, hrx⟩ := RdOf.elem HRW.out hx
              subst hxb
              obtain ⟨xa, xc, rfl⟩ := Reads.shape hrx
              have hxl := hrx.len
              have hxlI : (x.length : Int) ≤ 9223372036854775807 := by omega
              have HRX := Lib.hid hrx
              have hS3 : (c2 || inWs n (ws.take (p + 1))) = ((c2 || inWs n (ws.take p)) || hasB x n) := by rw [inWs_snoc hx, Bool.or_assoc]
              generalize (c2 || inWs n (ws.take p)) = c3 at hS3 ⊢
              have HS3 := Lib.hid hS3
              clear hx hrx hS3
              go_wp2_with fail
              clear hcx
              go_loop [10, 85] (fun ok i => ∃ u : Nat, u ≤ x.length ∧ i = .int .i64 u ∧ ok = .bool (c3 || hasB (x.take u) n)) (fun _ i => x.length - (intOf i).toNat)
              case atStart => exact ⟨0, by omega, rfl, by simp [hasB]⟩
              case round =>
                obtain ⟨u, hul, rfl, rfl⟩ := hrel
                by_cases hltu : u < x.length
                · obtain ⟨y, hy⟩ : ∃ y, x[u]? = some y := ⟨_, List.getElem?_eq_getElem hltu⟩
                  obtain ⟨yb, hyb, hcy⟩ := HRX.out.elem hy
                  subst hyb
                  unfold iV at hcy
                  have hS4 : (c3 || hasB (x.take (u + 1)) n) = ((c3 || hasB (x.take u) n) || y == n) := by rw [hasB_take hy, Bool.or_assoc]
                  generalize (c3 || hasB (x.take u) n) = c4 at hS4 ⊢
                  have HS4 := Lib.hid hS4
                  clear hy hS4
                  cases c4
                  · go_wp2
                    exact ⟨⟨u + 1, by omega, by go_num, by rw [HS4.out]; rfl⟩, by simp [intOf]; omega⟩
                  · go_wp2
                    exact ⟨⟨u + 1, by omega, by go_num, by rw [HS4.out]; rfl⟩, by simp [intOf]; omega⟩
                · have hxle : (x.length : Int) ≤ u := by omega
                  have htk : x.take u = x := List.take_of_length_le (by omega)
                  rw [htk]
                  clear htk
                  go_wp2
                  go_roundw
                  case rel => first | exact ⟨p + 1, by omega, by go_num, by rw [HS3.out]⟩ | ((repeat apply Exists.intro); exact ⟨⟨p + 1, by omega, by go_num, by rw [HS3.out]⟩, rfl⟩)
                  case measure => simp [intOf]; omega
            · have hple : (ws.length : Int) ≤ p := by omega
              have htk : ws.take p = ws := List.take_of_length_le (by omega)
              rw [htk]
              clear htk
              go_wp2
              go_roundw
              case rel => first | exact ⟨q + 1, by omega, by go_num, by rw [HS2.out]⟩ | ((repeat apply Exists.intro); exact ⟨⟨q + 1, by omega, by go_num, by rw [HS2.out]⟩, rfl⟩)
              case measure => simp [intOf]; omega
        · have hqle : (L.length : Int) ≤ q := by omega
          have hval : (c || inAll d n (L.take q)) = true := by rw [List.take_of_length_le (by omega)]; exact HW1.out
          rw [hval]
          clear hval
          go_wp2
          go_roundw
          case rel => first | exact ⟨m + 1, by omega, by go_num⟩ | ((repeat apply Exists.intro); exact ⟨⟨m + 1, by omega, by go_num⟩, rfl⟩)
          case measure => simp [intOf]; omega
    · have hmle : (L.length : Int) ≤ m := by omega
      clear x0 x1 x2
      go_wp2_with fail
      refine (HLV.out _).mono ?_
      rintro e wz ⟨rfl, hbz⟩
      have HZ := Lib.hid (HB0.out.trans ((HB8.out.trans (hbz.mono HB8.out.size)).mono HB0.out.size))
      clear hbz
      go_wp2
      go_ret
      exact ⟨rfl, HZ.out⟩

set_option maxRecDepth 100000 in
theorem lifted_CnfLess (os : Os) (started : os.Started) (H : Type) (enc : TypeId × Value → H) :
    ReturnsInHanded {} Try.checked os 7 .any (Rows.cnfLessSpec.pre6 enc Try.prog Try.f7 Rows.cnfLessRow.domain false) (Rows.cnfLessSpec.post enc Try.prog Try.f7 false true false false) := by
  refine returnsInHanded_of_change (C := Try.checked) own_knob started (by kernel_rfl) Try.func7
    (ChangeSpec.witness6 (enc := enc) (C := Try.checked) false ⟨#[], #[.agg #[.slice none 0 0, .slice none 0 0, .int .i64 0], .slice none 0 0], []⟩ 8 (by kernel_rfl) (by kernel_rfl) (by kernel_rfl) (by kernel_rfl)) ?_
  intro W base args ds gs before hval0 hW _ _
  have hval : ∀ (j : Nat) t v, Try.f7.params[j]? = some t → args[j]? = some v → Value.okWide Try.prog W .any base t v := hval0
  have hW' := hW
  obtain ⟨p, q, hA0, hV, rfl, _, _⟩ := hW
  have hA : DataW.TrodAll enc Try.prog W 0 (fun _ => true) true Try.f7.params.toList args.toList ds p := hA0
  rw [Try.params7] at hA hval
  obtain ⟨v0, vs0, d0, ds0, p0, q0, hargs, rfl, rfl, h0, r0⟩ := trodAll_cons hA
  obtain ⟨v1, vs1, d1, ds1, p1, q1, rfl, rfl, rfl, h1, r1⟩ := trodAll_cons r0
  obtain ⟨rfl, rfl, rfl⟩ := trodAll_nil r1
  obtain rfl : args = #[v0, v1] := by cases args; simp_all
  obtain ⟨rfl, rfl⟩ := trodVars_none hV
  obtain ⟨vi0, vw0, D0, rfl, rd0, ok0, lo0, hi0⟩ := open_deal (hval 0 25 v0 rfl rfl) h0
  obtain ⟨l1, g1⟩ := open_reads_bools (hval 1 40 v1 rfl rfl) h1
  clear hA0 hval0
  refine (walk_CnfLess vi0 vw0 D0 ok0 v1 l1 W rd0 g1).mono fun e W' ⟨he, hb⟩ => ?_
  subst he
  exact ⟨_, rfl, law_post (by kernel_rfl) rfl rfl rfl hW' hb⟩

/-- the statement of CnfLess -/
theorem proved_CnfLess : Rows.CnfLessSaid :=
  OpenClaim.holds_of_wide 7 Try.f7 rfl rfl rfl rfl rfl rfl rfl ⟨rfl, rfl, rfl, rfl, rfl⟩ rfl rfl rfl rfl rfl (by kernel_rfl) Try.func7 (by kernel_rfl)
    (of_decide_eq_true (by kernel_rfl)) (by unfold Func.isWrapper; first | (rw [if_pos (by decide +kernel)]; kernel_rfl) | (rw [if_neg (by decide +kernel)]; exact ⟨rfl, rfl⟩))
    (fun os started H enc _ => lifted_CnfLess os started H enc)
end Go.Proofs.Ytgfgajekegfdgaa
