/-
  Layer 17: the statement CnfMeans: truths make all clauses of a deal's question true just if the items that are true are right. For every input. Own work.
-/
import Derived.Test.YtgfgajekegfdgaaLives17
import Derived.Test.YtgfgajekegfdgaaLight17
import Derived.Test.YtgfgajekegfdgaaOpen17
import Derived.Test.YtgfgajekegfdgaaHold17
import Derived.Test.YtgfgajekegfdgaaMeans17
import Derived.Test.YtgfgajekegfdgaaLaws17a
namespace Go.Proofs.Ytgfgajekegfdgaa
set_option linter.unusedVariables false
set_option linter.unusedSimpArgs false
open Go.ChangeShapes Go.WideShapes Go.ChangeAt Go.RowKit

theorem keepQ {w1 w2 w3 : World} {Q D : Nat} {q u v z : Value} (h : w2.cell? ⟨Q, 1, none⟩ = some q ∧ (w2.cell? ⟨D, 0, none⟩ = some u ∧ (w2.cell? ⟨D, 1, none⟩ = some v ∧ (w2.cell? ⟨D, 2, none⟩ = some z ∧ Below w1.heap.size w1 w2)))) (hb : Below w2.heap.size w2 w3) :
    w3.cell? ⟨Q, 1, none⟩ = some q ∧ (w3.cell? ⟨D, 0, none⟩ = some u ∧ (w3.cell? ⟨D, 1, none⟩ = some v ∧ (w3.cell? ⟨D, 2, none⟩ = some z ∧ Below w1.heap.size w1 w3))) :=
  ⟨(hb.cell (World.block_lt_of_cell? w2 _ h.1)).trans h.1, keepD h.2 hb⟩
set_option maxRecDepth 100000 in
set_option maxHeartbeats 8000000 in
theorem walk_CnfMeans (vi vw : Value) (d : Dl) (hok : ∀ x ∈ d.its, okIt x) (vt : Value) (ts : List Bool) (w : World) (hr : RdD w vi vw d) (ht : Reads w bV vt ts) :
    Calls Try.prog 6 #[dealV vi vw d.root, vt] w fun e w' => e = .returned (.bool true) ∧ Below w.heap.size w w' := by
  obtain ⟨ta, tc, rfl⟩ := ht.shape
  have htl := ht.len
  have htlI : (ts.length : Int) ≤ 9223372036854775807 := by omega
  obtain ⟨ai, ci, aw, cw, rfl, rfl⟩ := hr.shape
  have hm2 := fun w' hr => refMay_any d (.slice ai d.its.length ci) (.slice aw d.ws.length cw) w' hr
  have he := fun hf hi hw hok w' hr => Encode_any d (.slice ai d.its.length ci) (.slice aw d.ws.length cw) hf hi hw hok w' hr
  have hri := fun tk vt hwf htl w' hr ht => Right_any d tk (.slice ai d.its.length ci) (.slice aw d.ws.length cw) vt hok hwf htl w' hr ht
  unfold dealV at hm2 he hri
  have HM2 := Lib.hid hm2
  have HE := Lib.hid he
  have HRI := Lib.hid hri
  have HT0 := Lib.hid ht
  clear hm2 he hri ht
  have hb0 : Below w.heap.size w (w.alloc (.cells #[.slice ai d.its.length ci, .slice aw d.ws.length cw, .int .i64 d.root] 25)) := (Below.refl w.heap.size w).alloc (Nat.le_refl _) _
  have hk := DlIn.new w (.slice ai d.its.length ci) (.slice aw d.ws.length cw) d.root
  have HR := Lib.hid (hr.below hb0 (Nat.le_refl _))
  have HB0 := Lib.hid hb0
  have HT := Lib.hid (HT0.out.below hb0 (Nat.le_refl _))
  have HOK := Lib.hid hok
  have hlt := fun w' hr => light_any d (.slice ai d.its.length ci) (.slice aw d.ws.length cw) w' hr
  unfold dealV at hlt ⊢
  have HLT := Lib.hid hlt
  have HLV := Lib.hid lives17
  clear hr hb0 hok hlt HT0
  go_enter Try.func6, Try.ntmps6
  go_upto_region 1 with fail
  generalize w.alloc (.cells #[.slice ai d.its.length ci, .slice aw d.ws.length cw, .int .i64 d.root] 25) = w1 at hk HR HB0 HT ⊢
  generalize w.heap.size = D at hk ⊢
  have HK := Lib.hid hk
  obtain ⟨x0, x1, x2⟩ := hk
  go_wp2_with fail
  refine (HLT.out _ HR.out).mono ?_
  rintro e w2 ⟨lb, rfl, hld, hb2⟩
  have HLD := Lib.hid hld
  have HB2 := Lib.hid hb2
  clear x0 x1 x2 hld hb2
  cases lb
  · go_wp2_with fail
    refine (HLV.out _).mono ?_
    rintro e wz ⟨rfl, hbz⟩
    have HZ := Lib.hid (HB0.out.trans ((HB2.out.trans (hbz.mono HB2.out.size)).mono HB0.out.size))
    clear hbz
    go_wp2
    go_ret
    exact ⟨rfl, HZ.out⟩
  obtain ⟨x0, x1, x2⟩ := HK.out.below HB2.out (Nat.le_refl _)
  have hld := HLD.out rfl
  obtain ⟨hl1, hl2, hl3⟩ := hld
  have HF := Lib.hid hl3
  clear hl3
  go_wp2_with fail
  refine (HM2.out _ (HR.out.below HB2.out (Nat.le_refl _))).mono ?_
  rintro e w3 ⟨rfl, hb3⟩
  have HB3 := Lib.hid (HB2.out.trans (hb3.mono HB2.out.size))
  clear x0 x1 x2 hb3
  by_cases hm : mayD d = 0
  case neg =>
    have hne : (mayD d != 0) = true := by simpa using hm
    clear hm
    go_wp2_with fail
    refine (HLV.out _).mono ?_
    rintro e wz ⟨rfl, hbz⟩
    have HZ := Lib.hid (HB0.out.trans ((HB3.out.trans (hbz.mono HB3.out.size)).mono HB0.out.size))
    clear hbz
    go_wp2
    go_ret
    exact ⟨rfl, HZ.out⟩
  rw [hm]
  have HM := Lib.hid hm
  clear hm
  by_cases hbig : 60 < ts.length
  case pos =>
    have hbigI : (60 : Int) < ts.length := by omega
    clear hbig
    go_wp2_with fail
    refine (HLV.out _).mono ?_
    rintro e wz ⟨rfl, hbz⟩
    have HZ := Lib.hid (HB0.out.trans ((HB3.out.trans (hbz.mono HB3.out.size)).mono HB0.out.size))
    clear hbz
    go_wp2
    go_ret
    exact ⟨rfl, HZ.out⟩
  have hsm : (ts.length : Int) ≤ 60 := by omega
  have hds : decide ((60 : Int) < ts.length) = false := by simpa using hsm
  obtain ⟨x0, x1, x2⟩ := HK.out.below HB3.out (Nat.le_refl _)
  go_wp2_with fail
  refine (HE.out HF.out (by omega) (by omega) HOK.out _ (HR.out.below HB3.out (Nat.le_refl _))).mono ?_
  rintro e w4 (⟨h, _⟩ | ⟨_, h, _⟩ | ⟨_, _, v, lo, rfl, hlo, hrows, hb4⟩)
  · exact absurd HM.out h
  · have := sizeD_le HF.out hl1 hl2
    exact absurd h (by omega)
  obtain ⟨va, vc, rfl⟩ := rows_shape hrows
  have hba : Below w4.heap.size w4 (w4.alloc (.cells #[.int .i64 d.its.length, .slice va (encL d).length vc] 34)) := (Below.refl _ _).alloc (Nat.le_refl _) _
  have hq : (w4.alloc (.cells #[.int .i64 d.its.length, .slice va (encL d).length vc] 34)).cell? ⟨w4.heap.size, 1, none⟩ = some (.slice va (encL d).length vc) := by
    have h := heap_alloc_new w4 (.cells #[.int .i64 d.its.length, .slice va (encL d).length vc] 34)
    rw [cell_of_row _ _ 1 _ _ (0, 0) h]; rfl
  have HRO := Lib.hid (hrows.below17 hba)
  have HB5 := Lib.hid (HB3.out.trans ((hb4.trans (hba.mono hb4.size)).mono HB3.out.size))
  have HEL := Lib.hid (show (encL d).length ≤ 2001 by rw [encL_size]; exact sizeD_le HF.out hl1 hl2)
  clear hrows hlo hb4 hba x0 x1 x2 hbig
  go_upto_region 6 with fail
  generalize w4.alloc (.cells #[.int .i64 d.its.length, .slice va (encL d).length vc] 34) = w5 at hq HRO HB5 ⊢
  generalize w4.heap.size = QV at hq ⊢
  have HQ := Lib.hid hq
  clear hq
  obtain ⟨x0, x1, x2⟩ := HK.out.below HB5.out (Nat.le_refl _)
  have HTR := Lib.hid (HT.out.below HB5.out (Nat.le_refl _))
  go_upto_region 8 with fail
  clear x0 x1 x2
  go_loopw [7, 33] (fun v i wr => ∃ k : Nat, k ≤ d.its.length ∧ i = .int .i64 k ∧ wr.ownsRow w5.heap.size 3 1 v (idxs ts k).length ((idxs ts k).map iV) ∧ Below w5.heap.size w5 wr) (fun _ i _ => d.its.length - (intOf i).toNat)
  case atStart => exact ⟨0, by omega, rfl, World.ownsRow_nil _ _ _ _, Below.refl _ _⟩
  case round =>
    obtain ⟨k, hk, rfl, hown, hb⟩ := hrel

    have HB := Lib.hid hb
    have HS := Lib.hid (idxs_snoc ts k)
    have hil := idxs_len ts k
    have HOW := Lib.hid hown
    by_cases hlt : k < d.its.length
    · by_cases hkt : k < ts.length
      · obtain ⟨b, hkb⟩ : ∃ b, ts[k]? = some b := ⟨_, List.getElem?_eq_getElem hkt⟩
        obtain ⟨ab, rfl, hc⟩ := (HTR.out.below hb (Nat.le_refl _)).elem hkb
        have HKB := Lib.hid hkb
        generalize idxs ts k = L at hown HOW HS hil
        have hlI : L.length ≤ 1024 := by omega
        clear hkb hb
        unfold bV at hc
        cases b
        · clear hown
          go_wp2
          go_roundw
          case rel => exact ⟨k + 1, by omega, by go_num, by rw [HS.out, if_neg (by rw [HKB.out]; simp), List.append_nil]; exact HOW.out, HB.out⟩
          case measure => simp [intOf]; omega
        · go_wp2_with (at_builtin
                       refine app1 rfl _ _ 39 3 rfl (.int .i64 0) 8 w5.heap.size L.length Try.underlying39 int_info rfl _ _ rfl hown rfl rfl (by omega) (by omega) HB.out.size ?_)
          intro v' w' ho' hg' hb'
          have HO := Lib.hid ho'
          have HB9 := Lib.hid (HB.out.trans hb')
          clear ho' hg' hb' hown hc HOW
          go_wp2
          go_roundw
          case rel => exact ⟨k + 1, by omega, by go_num, by rw [HS.out, if_pos HKB.out, List.length_append, List.map_append]; exact HO.out, HB9.out⟩
          case measure => simp [intOf]; omega
      · have HKN := Lib.hid (show ts[k]? = none from List.getElem?_eq_none (by omega))
        have hge : (ts.length : Int) ≤ k := by omega
        generalize idxs ts k = L at hown HOW HS hil
        clear hown hb
        go_wp2
        go_roundw
        case rel => exact ⟨k + 1, by omega, by go_num, by rw [HS.out, if_neg (by rw [HKN.out]; simp), List.append_nil]; exact HOW.out, HB.out⟩
        case measure => simp [intOf]; omega
    · have hke : k = d.its.length := by omega
      have hle : (d.its.length : Int) ≤ k := by omega
      rw [hke] at hown hil
      have hrd := reads_own17 hown
      obtain ⟨ka, kc, hve⟩ := hrd.shape
      subst hve
      have HX := Lib.hid (HB5.out.trans (HB.out.mono HB5.out.size))
      have hholds := Holds_one (.slice va (encL d).length vc) (.slice ta ts.length tc) (encL d) ts lo
      have hright := HRI.out (idxs ts d.its.length) (.slice ka (idxs ts d.its.length).length kc) (fun n hn => by have := idxs_all.1 hn; omega) (by omega)
      have hmean := means17 (ts := ts) HM.out
      have HRO2 := Lib.hid (fun (wz : World) (hb : Below _ _ wz) => (HRO.out.below17 HB.out).below17 hb)
      obtain ⟨x0, x1, x2⟩ := HK.out.below HX.out (Nat.le_refl _)
      have hqc := (HB.out.cell (World.block_lt_of_cell? w5 _ HQ.out)).trans HQ.out
      have HRE := Lib.hid hrd
      generalize idxs ts d.its.length = L at hil hright hmean HRE ⊢
      generalize rightB d L = rb at hright hmean
      have HHO := Lib.hid hholds
      have HRT := Lib.hid hright
      have HME := Lib.hid hmean
      clear hown hrd hb hke HS hholds hright hmean HOW
      have HLN := Lib.hid (encL_lens (d := d) HF.out)
      go_upto_region 13 with fail
      cases rb
      case false =>
        refine wp_region_held_drew (S := (fun w' => w'.cell? ⟨QV, 1, none⟩ = some (.slice va (encL d).length vc) ∧ (w'.cell? ⟨D, 0, none⟩ = some (.slice ai d.its.length ci) ∧ (w'.cell? ⟨D, 1, none⟩ = some (.slice aw d.ws.length cw) ∧ (w'.cell? ⟨D, 2, none⟩ = some (.int .i64 d.root) ∧ Below wr.heap.size wr w'))))) (by kernel_rfl) (by (try dsimp only); exact ⟨hqc, x0, x1, x2, (Below.refl _ _).drew⟩) (fun hHeld => ?_)
        refine wpAnyH_take (i := 0) (v := ?_) (by (simp only [List.getElem?_toArray, List.getElem?_cons_succ, List.getElem?_cons_zero]; rfl)) (by kernel_rfl) (by kernel_rfl) (by kernel_rfl) (by intro _ _ _ h; exact h) (Or.inl ⟨by rfl, ?_⟩) (by assumption) ?_
        rotate_left
        · (intro w hSw; (try dsimp only at hSw); go_simp; try (with_reducible rfl))
        simp only [Act.put, List.setIfInBounds_toArray, List.set_cons_zero, List.set_cons_succ]
        refine wpAnyH_take (i := 1) (v := ?_) (by (simp only [List.getElem?_toArray, List.getElem?_cons_succ, List.getElem?_cons_zero]; rfl)) (by kernel_rfl) (by kernel_rfl) (by kernel_rfl) (by intro _ _ _ h; exact h) (Or.inl ⟨by rfl, ?_⟩) (by assumption) ?_
        rotate_left
        · (intro w hSw; (try dsimp only at hSw); go_simp; try (with_reducible rfl))
        simp only [Act.put, List.setIfInBounds_toArray, List.set_cons_zero, List.set_cons_succ]
        refine wpAnyH_take (i := 2) (v := ?_) (by (simp only [List.getElem?_toArray, List.getElem?_cons_succ, List.getElem?_cons_zero]; rfl)) (by kernel_rfl) (by kernel_rfl) (by kernel_rfl) (by intro _ _ _ h; exact h) (Or.inl ⟨by rfl, ?_⟩) (by assumption) ?_
        rotate_left
        · (intro w hSw; (try dsimp only at hSw); go_simp; try (with_reducible rfl))
        simp only [Act.put, List.setIfInBounds_toArray, List.set_cons_zero, List.set_cons_succ]
        refine wpAnyH_take (i := 5) (v := ?_) (by (simp only [List.getElem?_toArray, List.getElem?_cons_succ, List.getElem?_cons_zero]; rfl)) (by kernel_rfl) (by kernel_rfl) (by kernel_rfl) (by intro _ _ _ h; exact h) (Or.inl ⟨by rfl, ?_⟩) (by assumption) ?_
        rotate_left
        · (intro w hSw; (try dsimp only at hSw); go_simp; try (with_reducible rfl))
        simp only [Act.put, List.setIfInBounds_toArray, List.set_cons_zero, List.set_cons_succ]
        refine wpAnyH_take (i := 6) (v := ?_) (by (simp only [List.getElem?_toArray, List.getElem?_cons_succ, List.getElem?_cons_zero]; rfl)) (by kernel_rfl) (by kernel_rfl) (by kernel_rfl) (by intro _ _ _ h; exact h) (Or.inl ⟨by rfl, ?_⟩) (by assumption) ?_
        rotate_left
        · (intro w hSw; (try dsimp only at hSw); go_simp; try (with_reducible rfl))
        simp only [Act.put, List.setIfInBounds_toArray, List.set_cons_zero, List.set_cons_succ]
        have hop := HHO.out _ (HRO2.out _ hHeld.2.2.2.2) (HT.out.below (HX.out.trans (hHeld.2.2.2.2.mono HX.out.size)) (Nat.le_refl _)) (by have := HEL.out; omega) (fun j c hc => by have := HLN.out c (List.mem_of_getElem? hc); omega)
        refine wpAnyH_ready (rs := [3]) (by kernel_rfl) (by simp) ?_
        refine AllReadyH.cons (by (simp only [List.getElem?_toArray, List.getElem?_cons_succ, List.getElem?_cons_zero]; rfl)) (fun K hK => ?_) AllReadyH.nil
        go_simp
        go_at_call 19; refine hop.mono ?_; rintro e w7 ⟨⟨r, rfl, hr1⟩, rfl⟩
        refine hK.out _ _ (by (try dsimp only); exact hHeld) (fun hHeld => ?_)
        clear hK K
        try simp only [Act.put, List.setIfInBounds_toArray, List.set_cons_zero, List.set_cons_succ]
        have hrne : (r == -1) = false := by
          have h := fun h => HME.out.1 (hr1.1 h)
          simpa using h
        have hop2 := HRT.out _ (HR.out.below (HX.out.trans (hHeld.2.2.2.2.mono HX.out.size)) (Nat.le_refl _)) (HRE.out.below hHeld.2.2.2.2 (Nat.le_refl _))
        clear hop hr1
        refine wpAnyH_take (i := 4) (v := ?_) (by (simp only [List.getElem?_toArray, List.getElem?_cons_succ, List.getElem?_cons_zero]; rfl)) (by kernel_rfl) (by kernel_rfl) (by kernel_rfl) (by intro _ _ _ h; exact h) (Or.inl ⟨by rfl, ?_⟩) (by assumption) ?_
        rotate_left
        · (intro w hSw; (try dsimp only at hSw); go_simp; try (with_reducible rfl))
        simp only [Act.put, List.setIfInBounds_toArray, List.set_cons_zero, List.set_cons_succ]
        refine wpAnyH_ready (rs := [7]) (by kernel_rfl) (by simp) ?_
        refine AllReadyH.cons (by (simp only [List.getElem?_toArray, List.getElem?_cons_succ, List.getElem?_cons_zero]; rfl)) (fun K hK => ?_) AllReadyH.nil
        go_simp
        go_at_call 17; refine hop2.mono ?_; rintro e w7 ⟨rfl, hb7⟩
        refine hK.out _ _ (by (try dsimp only); exact keepQ hHeld hb7) (fun hHeld => ?_)
        clear hK K
        try simp only [Act.put, List.setIfInBounds_toArray, List.set_cons_zero, List.set_cons_succ]
        refine wpAnyH_take (i := 8) (v := ?_) (by (simp only [List.getElem?_toArray, List.getElem?_cons_succ, List.getElem?_cons_zero]; rfl)) (by kernel_rfl) (by kernel_rfl) (by kernel_rfl) (by intro _ _ _ h; exact h) (Or.inl ⟨by rfl, ?_⟩) (by assumption) ?_
        rotate_left
        · (intro w hSw; (try dsimp only at hSw); go_simp; try (with_reducible rfl))
        simp only [Act.put, List.setIfInBounds_toArray, List.set_cons_zero, List.set_cons_succ]
        refine wpAnyH_take (i := 9) (v := ?_) (by (simp only [List.getElem?_toArray, List.getElem?_cons_succ, List.getElem?_cons_zero]; rfl)) (by kernel_rfl) (by kernel_rfl) (by kernel_rfl) (by intro _ _ _ h; exact h) (Or.inl ⟨by rfl, ?_⟩) (by assumption) ?_
        rotate_left
        · (intro w hSw; (try dsimp only at hSw); go_simp; try (with_reducible rfl))
        simp only [Act.put, List.setIfInBounds_toArray, List.set_cons_zero, List.set_cons_succ]
        have hop3 := HLV.out w7
        clear hop2 hb7
        refine wpAnyH_ready (rs := [10]) (by kernel_rfl) (by simp) ?_
        refine AllReadyH.cons (by (simp only [List.getElem?_toArray, List.getElem?_cons_succ, List.getElem?_cons_zero]; rfl)) (fun K hK => ?_) AllReadyH.nil
        go_simp
        go_at_call 10; refine hop3.mono ?_; rintro e w8 ⟨rfl, hb8⟩
        refine hK.out _ _ (by (try dsimp only); exact keepQ hHeld hb8) (fun hHeld => ?_)
        clear hK K
        try simp only [Act.put, List.setIfInBounds_toArray, List.set_cons_zero, List.set_cons_succ]
        refine wpAnyH_take (i := 11) (v := ?_) (by (simp only [List.getElem?_toArray, List.getElem?_cons_succ, List.getElem?_cons_zero]; rfl)) (by kernel_rfl) (by kernel_rfl) (by kernel_rfl) (by intro _ _ _ h; exact h) (Or.inl ⟨by rfl, ?_⟩) (by assumption) ?_
        rotate_left
        · (intro w hSw; (try dsimp only at hSw); go_simp; try (with_reducible rfl))
        simp only [Act.put, List.setIfInBounds_toArray, List.set_cons_zero, List.set_cons_succ]
        refine wpAnyH_take (i := 12) (v := ?_) (by (simp only [List.getElem?_toArray, List.getElem?_cons_succ, List.getElem?_cons_zero]; rfl)) (by kernel_rfl) (by kernel_rfl) (by kernel_rfl) (by intro _ _ _ h; exact h) (Or.inl ⟨by rfl, ?_⟩) (by assumption) ?_
        rotate_left
        · (intro w hSw; (try dsimp only at hSw); go_simp; try (with_reducible rfl))
        simp only [Act.put, List.setIfInBounds_toArray, List.set_cons_zero, List.set_cons_succ]
        refine wpAnyH_done (by kernel_rfl) ?_ _
        have HZ := Lib.hid (HB0.out.trans ((HX.out.trans (hHeld.2.2.2.2.mono HX.out.size)).mono HB0.out.size))
        clear hHeld hop3 hb8
        go_wp2
        go_ret
        exact ⟨rfl, HZ.out⟩
      case true =>
        refine wp_region_held_drew (S := (fun w' => w'.cell? ⟨QV, 1, none⟩ = some (.slice va (encL d).length vc) ∧ (w'.cell? ⟨D, 0, none⟩ = some (.slice ai d.its.length ci) ∧ (w'.cell? ⟨D, 1, none⟩ = some (.slice aw d.ws.length cw) ∧ (w'.cell? ⟨D, 2, none⟩ = some (.int .i64 d.root) ∧ Below wr.heap.size wr w'))))) (by kernel_rfl) (by (try dsimp only); exact ⟨hqc, x0, x1, x2, (Below.refl _ _).drew⟩) (fun hHeld => ?_)
        refine wpAnyH_take (i := 0) (v := ?_) (by (simp only [List.getElem?_toArray, List.getElem?_cons_succ, List.getElem?_cons_zero]; rfl)) (by kernel_rfl) (by kernel_rfl) (by kernel_rfl) (by intro _ _ _ h; exact h) (Or.inl ⟨by rfl, ?_⟩) (by assumption) ?_
        rotate_left
        · (intro w hSw; (try dsimp only at hSw); go_simp; try (with_reducible rfl))
        simp only [Act.put, List.setIfInBounds_toArray, List.set_cons_zero, List.set_cons_succ]
        refine wpAnyH_take (i := 1) (v := ?_) (by (simp only [List.getElem?_toArray, List.getElem?_cons_succ, List.getElem?_cons_zero]; rfl)) (by kernel_rfl) (by kernel_rfl) (by kernel_rfl) (by intro _ _ _ h; exact h) (Or.inl ⟨by rfl, ?_⟩) (by assumption) ?_
        rotate_left
        · (intro w hSw; (try dsimp only at hSw); go_simp; try (with_reducible rfl))
        simp only [Act.put, List.setIfInBounds_toArray, List.set_cons_zero, List.set_cons_succ]
        refine wpAnyH_take (i := 2) (v := ?_) (by (simp only [List.getElem?_toArray, List.getElem?_cons_succ, List.getElem?_cons_zero]; rfl)) (by kernel_rfl) (by kernel_rfl) (by kernel_rfl) (by intro _ _ _ h; exact h) (Or.inl ⟨by rfl, ?_⟩) (by assumption) ?_
        rotate_left
        · (intro w hSw; (try dsimp only at hSw); go_simp; try (with_reducible rfl))
        simp only [Act.put, List.setIfInBounds_toArray, List.set_cons_zero, List.set_cons_succ]
        refine wpAnyH_take (i := 5) (v := ?_) (by (simp only [List.getElem?_toArray, List.getElem?_cons_succ, List.getElem?_cons_zero]; rfl)) (by kernel_rfl) (by kernel_rfl) (by kernel_rfl) (by intro _ _ _ h; exact h) (Or.inl ⟨by rfl, ?_⟩) (by assumption) ?_
        rotate_left
        · (intro w hSw; (try dsimp only at hSw); go_simp; try (with_reducible rfl))
        simp only [Act.put, List.setIfInBounds_toArray, List.set_cons_zero, List.set_cons_succ]
        refine wpAnyH_take (i := 6) (v := ?_) (by (simp only [List.getElem?_toArray, List.getElem?_cons_succ, List.getElem?_cons_zero]; rfl)) (by kernel_rfl) (by kernel_rfl) (by kernel_rfl) (by intro _ _ _ h; exact h) (Or.inl ⟨by rfl, ?_⟩) (by assumption) ?_
        rotate_left
        · (intro w hSw; (try dsimp only at hSw); go_simp; try (with_reducible rfl))
        simp only [Act.put, List.setIfInBounds_toArray, List.set_cons_zero, List.set_cons_succ]
        have hop := HHO.out _ (HRO2.out _ hHeld.2.2.2.2) (HT.out.below (HX.out.trans (hHeld.2.2.2.2.mono HX.out.size)) (Nat.le_refl _)) (by have := HEL.out; omega) (fun j c hc => by have := HLN.out c (List.mem_of_getElem? hc); omega)
        refine wpAnyH_ready (rs := [3]) (by kernel_rfl) (by simp) ?_
        refine AllReadyH.cons (by (simp only [List.getElem?_toArray, List.getElem?_cons_succ, List.getElem?_cons_zero]; rfl)) (fun K hK => ?_) AllReadyH.nil
        go_simp
        go_at_call 19; refine hop.mono ?_; rintro e w7 ⟨⟨r, rfl, hr1⟩, rfl⟩
        refine hK.out _ _ (by (try dsimp only); exact hHeld) (fun hHeld => ?_)
        clear hK K
        try simp only [Act.put, List.setIfInBounds_toArray, List.set_cons_zero, List.set_cons_succ]
        obtain rfl : r = -1 := hr1.2 (HME.out.2 rfl)
        have hop2 := HRT.out _ (HR.out.below (HX.out.trans (hHeld.2.2.2.2.mono HX.out.size)) (Nat.le_refl _)) (HRE.out.below hHeld.2.2.2.2 (Nat.le_refl _))
        clear hop hr1
        refine wpAnyH_take (i := 4) (v := ?_) (by (simp only [List.getElem?_toArray, List.getElem?_cons_succ, List.getElem?_cons_zero]; rfl)) (by kernel_rfl) (by kernel_rfl) (by kernel_rfl) (by intro _ _ _ h; exact h) (Or.inl ⟨by rfl, ?_⟩) (by assumption) ?_
        rotate_left
        · (intro w hSw; (try dsimp only at hSw); go_simp; try (with_reducible rfl))
        simp only [Act.put, List.setIfInBounds_toArray, List.set_cons_zero, List.set_cons_succ]
        refine wpAnyH_ready (rs := [7]) (by kernel_rfl) (by simp) ?_
        refine AllReadyH.cons (by (simp only [List.getElem?_toArray, List.getElem?_cons_succ, List.getElem?_cons_zero]; rfl)) (fun K hK => ?_) AllReadyH.nil
        go_simp
        go_at_call 17; refine hop2.mono ?_; rintro e w7 ⟨rfl, hb7⟩
        refine hK.out _ _ (by (try dsimp only); exact keepQ hHeld hb7) (fun hHeld => ?_)
        clear hK K
        try simp only [Act.put, List.setIfInBounds_toArray, List.set_cons_zero, List.set_cons_succ]
        refine wpAnyH_take (i := 8) (v := ?_) (by (simp only [List.getElem?_toArray, List.getElem?_cons_succ, List.getElem?_cons_zero]; rfl)) (by kernel_rfl) (by kernel_rfl) (by kernel_rfl) (by intro _ _ _ h; exact h) (Or.inl ⟨by rfl, ?_⟩) (by assumption) ?_
        rotate_left
        · (intro w hSw; (try dsimp only at hSw); go_simp; try (with_reducible rfl))
        simp only [Act.put, List.setIfInBounds_toArray, List.set_cons_zero, List.set_cons_succ]
        refine wpAnyH_take (i := 9) (v := ?_) (by (simp only [List.getElem?_toArray, List.getElem?_cons_succ, List.getElem?_cons_zero]; rfl)) (by kernel_rfl) (by kernel_rfl) (by kernel_rfl) (by intro _ _ _ h; exact h) (Or.inl ⟨by rfl, ?_⟩) (by assumption) ?_
        rotate_left
        · (intro w hSw; (try dsimp only at hSw); go_simp; try (with_reducible rfl))
        simp only [Act.put, List.setIfInBounds_toArray, List.set_cons_zero, List.set_cons_succ]
        have hop3 := HLV.out w7
        clear hop2 hb7
        refine wpAnyH_ready (rs := [10]) (by kernel_rfl) (by simp) ?_
        refine AllReadyH.cons (by (simp only [List.getElem?_toArray, List.getElem?_cons_succ, List.getElem?_cons_zero]; rfl)) (fun K hK => ?_) AllReadyH.nil
        go_simp
        go_at_call 10; refine hop3.mono ?_; rintro e w8 ⟨rfl, hb8⟩
        refine hK.out _ _ (by (try dsimp only); exact keepQ hHeld hb8) (fun hHeld => ?_)
        clear hK K
        try simp only [Act.put, List.setIfInBounds_toArray, List.set_cons_zero, List.set_cons_succ]
        refine wpAnyH_take (i := 11) (v := ?_) (by (simp only [List.getElem?_toArray, List.getElem?_cons_succ, List.getElem?_cons_zero]; rfl)) (by kernel_rfl) (by kernel_rfl) (by kernel_rfl) (by intro _ _ _ h; exact h) (Or.inl ⟨by rfl, ?_⟩) (by assumption) ?_
        rotate_left
        · (intro w hSw; (try dsimp only at hSw); go_simp; try (with_reducible rfl))
        simp only [Act.put, List.setIfInBounds_toArray, List.set_cons_zero, List.set_cons_succ]
        refine wpAnyH_take (i := 12) (v := ?_) (by (simp only [List.getElem?_toArray, List.getElem?_cons_succ, List.getElem?_cons_zero]; rfl)) (by kernel_rfl) (by kernel_rfl) (by kernel_rfl) (by intro _ _ _ h; exact h) (Or.inl ⟨by rfl, ?_⟩) (by assumption) ?_
        rotate_left
        · (intro w hSw; (try dsimp only at hSw); go_simp; try (with_reducible rfl))
        simp only [Act.put, List.setIfInBounds_toArray, List.set_cons_zero, List.set_cons_succ]
        refine wpAnyH_done (by kernel_rfl) ?_ _
        have HZ := Lib.hid (HB0.out.trans ((HX.out.trans (hHeld.2.2.2.2.mono HX.out.size)).mono HB0.out.size))
        clear hHeld hop3 hb8
        go_wp2
        go_ret
        exact ⟨rfl, HZ.out⟩

set_option maxRecDepth 100000 in
theorem lifted_CnfMeans (os : Os) (started : os.Started) (H : Type) (enc : TypeId × Value → H) :
    ReturnsInHanded {} Try.checked os 6 .any (Rows.cnfMeansSpec.pre6 enc Try.prog Try.f6 Rows.cnfMeansRow.domain false) (Rows.cnfMeansSpec.post enc Try.prog Try.f6 false true false false) := by
  refine returnsInHanded_of_change (C := Try.checked) own_knob started (by kernel_rfl) Try.func6
    (ChangeSpec.witness6 (enc := enc) (C := Try.checked) false ⟨#[], #[.agg #[.slice none 0 0, .slice none 0 0, .int .i64 0], .slice none 0 0], []⟩ 8 (by kernel_rfl) (by kernel_rfl) (by kernel_rfl) (by kernel_rfl)) ?_
  intro W base args ds gs before hval0 hW _ _
  have hval : ∀ (j : Nat) t v, Try.f6.params[j]? = some t → args[j]? = some v → Value.okWide Try.prog W .any base t v := hval0
  have hW' := hW
  obtain ⟨p, q, hA0, hV, rfl, _, _⟩ := hW
  have hA : DataW.TrodAll enc Try.prog W 0 (fun _ => true) true Try.f6.params.toList args.toList ds p := hA0
  rw [Try.params6] at hA hval
  obtain ⟨v0, vs0, d0, ds0, p0, q0, hargs, rfl, rfl, h0, r0⟩ := trodAll_cons hA
  obtain ⟨v1, vs1, d1, ds1, p1, q1, rfl, rfl, rfl, h1, r1⟩ := trodAll_cons r0
  obtain ⟨rfl, rfl, rfl⟩ := trodAll_nil r1
  obtain rfl : args = #[v0, v1] := by cases args; simp_all
  obtain ⟨rfl, rfl⟩ := trodVars_none hV
  obtain ⟨vi0, vw0, D0, rfl, rd0, ok0, lo0, hi0⟩ := open_deal (hval 0 25 v0 rfl rfl) h0
  obtain ⟨l1, g1⟩ := open_reads_bools (hval 1 40 v1 rfl rfl) h1
  clear hA0 hval0
  refine (walk_CnfMeans vi0 vw0 D0 ok0 v1 l1 W rd0 g1).mono fun e W' ⟨he, hb⟩ => ?_
  subst he
  exact ⟨_, rfl, law_post (by kernel_rfl) rfl rfl rfl hW' hb⟩

/-- the statement of CnfMeans -/
theorem proved_CnfMeans : Rows.CnfMeansSaid :=
  OpenClaim.holds_of_wide 6 Try.f6 rfl rfl rfl rfl rfl rfl rfl ⟨rfl, rfl, rfl, rfl, rfl⟩ rfl rfl rfl rfl rfl (by kernel_rfl) Try.func6 (by kernel_rfl)
    (of_decide_eq_true (by kernel_rfl)) (by unfold Func.isWrapper; first | (rw [if_pos (by decide +kernel)]; kernel_rfl) | (rw [if_neg (by decide +kernel)]; exact ⟨rfl, rfl⟩))
    (fun os started H enc _ => lifted_CnfMeans os started H enc)
end Go.Proofs.Ytgfgajekegfdgaa
