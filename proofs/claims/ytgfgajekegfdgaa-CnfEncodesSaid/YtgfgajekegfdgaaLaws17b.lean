/-
  Layer 17: the statement CnfEncodes: the question of any deal. For every input. Own work.
-/
import Derived.Test.YtgfgajekegfdgaaLives17
import Derived.Test.YtgfgajekegfdgaaOpen17
import Derived.Test.YtgfgajekegfdgaaRefEnc17
import Derived.Test.YtgfgajekegfdgaaLaws17a
namespace Go.Proofs.Ytgfgajekegfdgaa
set_option linter.unusedVariables false
set_option linter.unusedSimpArgs false
open Go.ChangeShapes Go.WideShapes Go.ChangeAt Go.RowKit

theorem may_one {d : Dl} (h : mayD d ≠ 0) (hl : d.its.length ≤ 40) : mayD d = 1 := by
  rcases mayD_cases d with h1 | h1 | h1
  · exact absurd h1 h
  · exact h1
  · unfold mayD at h1
    rw [if_neg (by omega)] at h1
    split at h1 <;> cases h1
set_option maxRecDepth 100000 in
set_option maxHeartbeats 8000000 in
theorem walk_CnfEncodes (vi vw : Value) (d : Dl) (hok : ∀ x ∈ d.its, okIt x) (w : World) (hr : RdD w vi vw d) :
    Calls Try.prog 4 #[dealV vi vw d.root] w fun e w' => e = .returned (.bool true) ∧ Below w.heap.size w w' := by
  obtain ⟨ai, ci, aw, cw, rfl, rfl⟩ := hr.shape
  have hm2 := fun w' hr => refMay_any d (.slice ai d.its.length ci) (.slice aw d.ws.length cw) w' hr
  have he := fun hf hi hw hok w' hr => Encode_any d (.slice ai d.its.length ci) (.slice aw d.ws.length cw) hf hi hw hok w' hr
  have hre := fun hl hm w' hr => refEncode_any d (.slice ai d.its.length ci) (.slice aw d.ws.length cw) hl hm w' hr
  unfold dealV at hm2 he hre
  have HM2 := Lib.hid hm2
  have HE := Lib.hid he
  have HRE := Lib.hid hre
  clear hm2 he hre
  have hb0 : Below w.heap.size w (w.alloc (.cells #[.slice ai d.its.length ci, .slice aw d.ws.length cw, .int .i64 d.root] 25)) := (Below.refl w.heap.size w).alloc (Nat.le_refl _) _
  have hk := DlIn.new w (.slice ai d.its.length ci) (.slice aw d.ws.length cw) d.root
  have HR := Lib.hid (hr.below hb0 (Nat.le_refl _))
  have HB0 := Lib.hid hb0
  have HOK := Lib.hid hok
  have hlt := fun w' hr => light_any d (.slice ai d.its.length ci) (.slice aw d.ws.length cw) w' hr
  unfold dealV at hlt ⊢
  have HLT := Lib.hid hlt
  have HLV := Lib.hid lives17
  clear hr hb0 hok hlt
  go_enter Try.func4, Try.ntmps4
  go_upto_region 1 with fail
  generalize w.alloc (.cells #[.slice ai d.its.length ci, .slice aw d.ws.length cw, .int .i64 d.root] 25) = w1 at hk HR HB0 ⊢
  generalize w.heap.size = D at hk ⊢
  have HK := Lib.hid hk
  obtain ⟨x0, x1, x2⟩ := hk
  go_wp2_with fail
  refine (HLT.out _ HR.out).mono ?_
  rintro e w2 ⟨lb, rfl, hld, hb2⟩
  have HLD := Lib.hid hld
  have HB2 := Lib.hid hb2
  clear x0 x1 x2 hld hb2
  cases lb
  · go_wp2_with fail
    refine (HLV.out _).mono ?_
    rintro e wz ⟨rfl, hbz⟩
    have HZ := Lib.hid (HB0.out.trans ((HB2.out.trans (hbz.mono HB2.out.size)).mono HB0.out.size))
    clear hbz
    go_wp2
    go_ret
    exact ⟨rfl, HZ.out⟩
  obtain ⟨x0, x1, x2⟩ := HK.out.below HB2.out (Nat.le_refl _)
  obtain ⟨hl1, hl2, hl3⟩ := HLD.out rfl
  have HLI := Lib.hid (HLD.out rfl)
  have HF := Lib.hid hl3
  clear hl3
  go_wp2_with fail
  refine (HE.out HF.out (by omega) (by omega) HOK.out _ (HR.out.below HB2.out (Nat.le_refl _))).mono ?_
  rintro e w3 (⟨hm, rfl, hb3⟩ | ⟨_, h, _⟩ | ⟨hm, _, v, lo, rfl, hlo, hrows, hb3⟩)
  · have hm1 := may_one hm hl1
    have hba : Below w3.heap.size w3 (w3.alloc (.cells #[.int .i64 0, .slice none 0 0] 34)) := (Below.refl _ _).alloc (Nat.le_refl _) _
    have hnew := heap_alloc_new w3 (.cells #[.int .i64 0, .slice none 0 0] 34)
    have HB4 := Lib.hid (HB2.out.trans ((hb3.trans (hba.mono hb3.size)).mono HB2.out.size))
    rw [hm1]
    clear hm hb3 hba x0 x1 x2
    go_upto_region 4 with fail
    generalize w3.alloc (.cells #[.int .i64 0, .slice none 0 0] 34) = w4 at hnew HB4 ⊢
    generalize w3.heap.size = QV at hnew ⊢
    have HN := Lib.hid hnew
    obtain ⟨x0, x1, x2⟩ := HK.out.below HB4.out (Nat.le_refl _)
    have hop := HM2.out _ (HR.out.below HB4.out (Nat.le_refl _))
    rw [hm1] at hop
    have HOP := Lib.hid hop
    clear hop hm1 hnew
    go_wp2_with fail
    refine HOP.out.mono ?_
    rintro e w5 ⟨rfl, hb5⟩
    have HB5 := Lib.hid (HB4.out.trans (hb5.mono HB4.out.size))
    have hn5 := (hb5.block QV (Array.getElem?_eq_some_iff.1 HN.out).1).trans HN.out
    have q0 : w5.cell? ⟨QV, 0, none⟩ = some (.int .i64 0) := by rw [cell_of_row w5 QV 0 _ _ (0, 0) hn5]; rfl
    have q1 : w5.cell? ⟨QV, 1, none⟩ = some (.slice none 0 0) := by rw [cell_of_row w5 QV 1 _ _ (0, 0) hn5]; rfl
    clear x0 x1 x2 hb5 hn5
    go_wp2_with fail
    refine (HLV.out _).mono ?_
    rintro e wz ⟨rfl, hbz⟩
    have HZ := Lib.hid (HB0.out.trans ((HB5.out.trans (hbz.mono HB5.out.size)).mono HB0.out.size))
    clear hbz
    go_wp2
    go_ret
    exact ⟨rfl, HZ.out⟩
  · have := sizeD_le HF.out hl1 hl2
    exact absurd h (by omega)
  have HM := Lib.hid hm
  obtain ⟨g, cap, rfl, a1, a2, a3, a4⟩ := rows_at hrows (by unfold encL; simp)
  have hba : Below w3.heap.size w3 (w3.alloc (.cells #[.int .i64 d.its.length, .slice (some ⟨g, 0, none⟩) (encL d).length cap] 34)) := (Below.refl _ _).alloc (Nat.le_refl _) _
  have hnew := heap_alloc_new w3 (.cells #[.int .i64 d.its.length, .slice (some ⟨g, 0, none⟩) (encL d).length cap] 34)
  have HB4 := Lib.hid (HB2.out.trans ((hb3.trans (hba.mono hb3.size)).mono HB2.out.size))
  have HRO := Lib.hid (hrows.below17 hba)
  have HEL := Lib.hid (show (encL d).length ≤ 2001 by rw [encL_size]; exact sizeD_le HF.out hl1 hl2)
  clear hm hb3 hba x0 x1 x2 a3 a4 hrows hlo
  go_upto_region 4 with fail
  generalize w3.alloc (.cells #[.int .i64 d.its.length, .slice (some ⟨g, 0, none⟩) (encL d).length cap] 34) = w4 at hnew HB4 HRO ⊢
  generalize w3.heap.size = QV at hnew ⊢
  have HN := Lib.hid hnew
  obtain ⟨x0, x1, x2⟩ := HK.out.below HB4.out (Nat.le_refl _)
  have hop := HM2.out _ (HR.out.below HB4.out (Nat.le_refl _))
  rw [HM.out] at hop
  have HOP := Lib.hid hop
  clear hop hnew
  go_wp2_with fail
  refine HOP.out.mono ?_
  rintro e w5 ⟨rfl, hb5⟩
  have HB5 := Lib.hid (HB4.out.trans (hb5.mono HB4.out.size))
  have HX5 := Lib.hid hb5
  clear x0 x1 x2 hb5
  obtain ⟨x0, x1, x2⟩ := HK.out.below HB5.out (Nat.le_refl _)
  go_wp2_with fail
  refine (HRE.out HLI.out HM.out _ (HR.out.below HB5.out (Nat.le_refl _))).mono ?_
  rintro e w6 ⟨v', lo', rfl, hlo', hrows', hb6⟩
  obtain ⟨g', cap', rfl, c1, c2, c3, c4⟩ := rows_at hrows' (by unfold encL; simp)
  have hbc : Below w6.heap.size w6 (w6.alloc (.cells #[.int .i64 d.its.length, .slice (some ⟨g', 0, none⟩) (encL d).length cap'] 34)) := (Below.refl _ _).alloc (Nat.le_refl _) _
  have hnew := heap_alloc_new w6 (.cells #[.int .i64 d.its.length, .slice (some ⟨g', 0, none⟩) (encL d).length cap'] 34)
  have HX7 := Lib.hid (HX5.out.trans ((hb6.trans (hbc.mono hb6.size)).mono HX5.out.size))
  have HB7 := Lib.hid (HB5.out.trans ((hb6.trans (hbc.mono hb6.size)).mono HB5.out.size))
  have HRX := Lib.hid (hrows'.below17 hbc)
  clear x0 x1 x2 hb6 hbc c3 c4 hrows' hlo'
  go_upto_region 7 with fail
  generalize w6.alloc (.cells #[.int .i64 d.its.length, .slice (some ⟨g', 0, none⟩) (encL d).length cap'] 34) = w7 at hnew HX7 HB7 HRX ⊢
  generalize w6.heap.size = XV at hnew ⊢
  have hn7 := (HX7.out.block QV (Array.getElem?_eq_some_iff.1 HN.out).1).trans HN.out
  have q0 : w7.cell? ⟨QV, 0, none⟩ = some (.int .i64 d.its.length) := by rw [cell_of_row w7 QV 0 _ _ (0, 0) hn7]; rfl
  have q1 : w7.cell? ⟨QV, 1, none⟩ = some (.slice (some ⟨g, 0, none⟩) (encL d).length cap) := by rw [cell_of_row w7 QV 1 _ _ (0, 0) hn7]; rfl
  have y0 : w7.cell? ⟨XV, 0, none⟩ = some (.int .i64 d.its.length) := by rw [cell_of_row w7 XV 0 _ _ (0, 0) hnew]; rfl
  have y1 : w7.cell? ⟨XV, 1, none⟩ = some (.slice (some ⟨g', 0, none⟩) (encL d).length cap') := by rw [cell_of_row w7 XV 1 _ _ (0, 0) hnew]; rfl
  have HQ1 := Lib.hid q1
  obtain ⟨_, _, e1, _, _, _, a4⟩ := rows_at (HRO.out.below17 HX7.out) (by unfold encL; simp)
  cases e1
  obtain ⟨_, _, e1, _, _, _, c4⟩ := rows_at HRX.out (by unfold encL; simp)
  cases e1
  have HA := Lib.hid a4
  have HC := Lib.hid c4
  have helI : ((encL d).length : Int) ≤ 2001 := by have := HEL.out; omega
  clear a4 c4 hn7 hnew
  go_wp2_with fail
  clear q0 q1 y0 y1
  go_loopw [71] (fun i wr => ∃ u : Nat, u ≤ (encL d).length ∧ i = .int .i64 u ∧ Below w7.heap.size w7 wr) (fun i _ => (encL d).length - (intOf i).toNat)
  case atStart => exact ⟨0, by omega, rfl, Below.refl _ _⟩
  case round =>
    obtain ⟨u, hul, rfl, hb⟩ := hrel
    have HB := Lib.hid hb
    by_cases hltu : u < (encL d).length
    · obtain ⟨c, hc⟩ : ∃ c, (encL d)[u]? = some c := ⟨_, List.getElem?_eq_getElem hltu⟩
      obtain ⟨b, bc, p1, _, p3, p4, p5⟩ := HA.out u c hc
      obtain ⟨b', bc', r1, _, r3, r4, r5⟩ := HC.out u c hc
      have HP := Lib.hid p5
      have HP1 := Lib.hid p1
      have HRR := Lib.hid r5
      have s1 := (hb.cell (World.block_lt_of_cell? w7 _ p1)).trans p1
      have s2 := (hb.cell (World.block_lt_of_cell? w7 _ r1)).trans r1
      have s3 := (hb.cell (World.block_lt_of_cell? w7 _ HQ1.out)).trans HQ1.out
      have hcl := encL_lens HF.out c (List.mem_of_getElem? hc)
      have hclI : (c.length : Int) ≤ 41 := by omega
      have hluI : (u : Int) < ((encL d).length : Int) := by omega
      clear hc hb p1 p5 r1 r5
      go_wp2_with fail
      clear s1 s2 s3
      go_loopw [87] (fun i wr => ∃ q : Nat, q ≤ c.length ∧ i = .int .i64 q ∧ Below w7.heap.size w7 wr) (fun i _ => c.length - (intOf i).toNat)
      case atStart => exact ⟨0, by omega, rfl, HB.out⟩
      case round =>
        obtain ⟨q, hql, rfl, hb⟩ := hrel
        have HBq := Lib.hid hb
        by_cases hltq : q < c.length
        · obtain ⟨n, hn⟩ : ∃ n, c[q]? = some n := ⟨_, List.getElem?_eq_getElem hltq⟩
          have p5 := HP.out q n hn
          have r5 := HRR.out q n hn
          have s0 := (hb.cell (World.block_lt_of_cell? w7 _ HP1.out)).trans HP1.out
          have s1 := (hb.cell (World.block_lt_of_cell? w7 _ p5)).trans p5
          have s2 := (hb.cell (World.block_lt_of_cell? w7 _ r5)).trans r5
          have s3 := (hb.cell (World.block_lt_of_cell? w7 _ HQ1.out)).trans HQ1.out
          have hlqI : (q : Int) < (c.length : Int) := by omega
          clear hn hb p5 r5
          go_upto_region 19 with fail
          go_quiet (fail)
          clear s0 s1 s2 s3
          go_wp2
          go_roundw
          case rel => exact ⟨q + 1, by omega, by go_num, below_drewN HBq.out _⟩
          case measure => simp [intOf]; omega
        · have hle : (c.length : Int) ≤ q := by omega
          clear hb
          go_wp2
          go_roundw
          case rel => exact ⟨u + 1, by omega, by go_num, HBq.out⟩
          case measure => simp [intOf]; omega
    · have hule : ((encL d).length : Int) ≤ u := by omega
      have HZZ := Lib.hid (HB7.out.trans (hb.mono HB7.out.size))
      clear hb
      go_wp2_with fail
      refine (HLV.out _).mono ?_
      rintro e wz ⟨rfl, hbz⟩
      have HZ := Lib.hid (HB0.out.trans ((HZZ.out.trans (hbz.mono HZZ.out.size)).mono HB0.out.size))
      clear hbz
      go_wp2
      go_ret
      exact ⟨rfl, HZ.out⟩

set_option maxRecDepth 100000 in
theorem lifted_CnfEncodes (os : Os) (started : os.Started) (H : Type) (enc : TypeId × Value → H) :
    ReturnsInHanded {} Try.checked os 4 .any (Rows.cnfEncodesSpec.pre6 enc Try.prog Try.f4 Rows.cnfEncodesRow.domain false) (Rows.cnfEncodesSpec.post enc Try.prog Try.f4 false true false false) := by
  refine returnsInHanded_of_change (C := Try.checked) own_knob started (by kernel_rfl) Try.func4
    (ChangeSpec.witness6 (enc := enc) (C := Try.checked) false ⟨#[], #[.agg #[.slice none 0 0, .slice none 0 0, .int .i64 0]], []⟩ 8 (by kernel_rfl) (by kernel_rfl) (by kernel_rfl) (by kernel_rfl)) ?_
  intro W base args ds gs before hval0 hW _ _
  have hval : ∀ (j : Nat) t v, Try.f4.params[j]? = some t → args[j]? = some v → Value.okWide Try.prog W .any base t v := hval0
  have hW' := hW
  obtain ⟨p, q, hA0, hV, rfl, _, _⟩ := hW
  have hA : DataW.TrodAll enc Try.prog W 0 (fun _ => true) true Try.f4.params.toList args.toList ds p := hA0
  rw [Try.params4] at hA hval
  obtain ⟨v0, vs0, d0, ds0, p0, q0, hargs, rfl, rfl, h0, r0⟩ := trodAll_cons hA
  obtain ⟨rfl, rfl, rfl⟩ := trodAll_nil r0
  obtain rfl : args = #[v0] := by cases args; simp_all
  obtain ⟨rfl, rfl⟩ := trodVars_none hV
  obtain ⟨vi0, vw0, D0, rfl, rd0, ok0, lo0, hi0⟩ := open_deal (hval 0 25 v0 rfl rfl) h0
  clear hA0 hval0
  refine (walk_CnfEncodes vi0 vw0 D0 ok0 W rd0).mono fun e W' ⟨he, hb⟩ => ?_
  subst he
  exact ⟨_, rfl, law_post (by kernel_rfl) rfl rfl rfl hW' hb⟩

/-- the statement of CnfEncodes -/
theorem proved_CnfEncodes : Rows.CnfEncodesSaid :=
  OpenClaim.holds_of_wide 4 Try.f4 rfl rfl rfl rfl rfl rfl rfl ⟨rfl, rfl, rfl, rfl, rfl⟩ rfl rfl rfl rfl rfl (by kernel_rfl) Try.func4 (by kernel_rfl)
    (of_decide_eq_true (by kernel_rfl)) (by unfold Func.isWrapper; first | (rw [if_pos (by decide +kernel)]; kernel_rfl) | (rw [if_neg (by decide +kernel)]; exact ⟨rfl, rfl⟩))
    (fun os started H enc _ => lifted_CnfEncodes os started H enc)
end Go.Proofs.Ytgfgajekegfdgaa
