/-
  Layer 17: the statement CnfLimits: items are taken just up to their limit, and clauses up to theirs. For every input. Own work.
-/
import Derived.Test.YtgfgajekegfdgaaLives17
import Derived.Test.YtgfgajekegfdgaaOpen17
import Derived.Test.YtgfgajekegfdgaaLim17
import Derived.Test.YtgfgajekegfdgaaLaw
namespace Go.Proofs.Ytgfgajekegfdgaa
set_option linter.unusedVariables false
set_option linter.unusedSimpArgs false
open Go.ChangeShapes Go.WideShapes Go.ChangeAt Go.RowKit

set_option maxRecDepth 100000 in
set_option maxHeartbeats 8000000 in
theorem walk_CnfLimits (n : Int) (hwf : -9223372036854775808 ≤ n ∧ n ≤ 9223372036854775807) (al : Bool) (w : World) :
    Calls Try.prog 8 #[.int .i64 n, .bool al] w fun e w' => e = .returned (.bool true) ∧ Below w.heap.size w w' := by
  have HLV := Lib.hid lives17
  have HCV := Lib.hid (fun w a b c => conv3 w a b c)
  have hnew := heap_alloc_new w (.cells #[.slice none 0 0, .slice none 0 0, .int .i64 0] 25)
  have hba : Below w.heap.size w (w.alloc (.cells #[.slice none 0 0, .slice none 0 0, .int .i64 0] 25)) := (Below.refl _ _).alloc (Nat.le_refl _) _
  obtain ⟨hw1, hw2⟩ := hwf
  cases al
  · go_enter Try.func8, Try.ntmps8
    go_upto_region 3 with fail
    generalize hp : (if 1027 < n then (1027 : Int) else n) = p
    have hp1 : p ≤ 1027 := by rw [← hp]; split <;> omega
    clear hp
    generalize hq : (if 1 < p then p else (1 : Int)) = q
    have hq1 : 1 ≤ q ∧ q ≤ 1027 := by rw [← hq]; split <;> omega
    clear hq
    obtain ⟨m, rfl⟩ : ∃ m : Nat, q = m := ⟨q.toNat, by omega⟩
    obtain ⟨hm1, hm2⟩ := hq1
    obtain ⟨D, hD⟩ : ∃ D, D = w.heap.size := ⟨_, rfl⟩
    rw [← hD] at hnew ⊢
    have HD := Lib.hid hD
    have HBA := Lib.hid hba
    generalize w.alloc (.cells #[.slice none 0 0, .slice none 0 0, .int .i64 0] 25) = w1 at hnew HBA ⊢
    have HS0 := Lib.hid (show LimS w1 D false 0 from ⟨_, _, hnew, World.ownsRow_nil _ _ _ _, World.ownsRow_nil _ _ _ _⟩)
    clear hD hba hnew
    go_wp2_with fail
    go_loopw [15] (fun i wr => ∃ k : Nat, k ≤ m ∧ i = .int .i64 k ∧ LimS wr D false k ∧ Below D w wr) (fun i _ => m - (intOf i).toNat)
    case atStart => exact ⟨0, by omega, rfl, HS0.out, by rw [HD.out]; exact HBA.out⟩
    case round =>
      obtain ⟨k, hk, rfl, ⟨vi, vw, hl⟩, hb⟩ := hrel
      have HB := Lib.hid hb
      have HL := Lib.hid hl
      have hDs : D ≤ wr.heap.size := by have := hb.size; have := HD.out; omega
      clear hb hl
      by_cases hlt : k < m
      · have hk0 : (0 : Int) ≤ k := by omega
        have hk1 : (k : Int) < 1027 := by omega
        have hknew := heap_alloc_new wr (.cells #[.string ⟨#[103]⟩, .string ⟨#[97]⟩, .string ⟨#[106, 97, 114]⟩, .string ⟨#[]⟩] 47)
        have hkba : Below wr.heap.size wr (wr.alloc (.cells #[.string ⟨#[103]⟩, .string ⟨#[97]⟩, .string ⟨#[106, 97, 114]⟩, .string ⟨#[]⟩] 47)) := (Below.refl _ _).alloc (Nat.le_refl _) _
        go_upto_region 7 with fail
        generalize wr.alloc (.cells #[.string ⟨#[103]⟩, .string ⟨#[97]⟩, .string ⟨#[106, 97, 114]⟩, .string ⟨#[]⟩] 47) = wa at hknew hkba ⊢
        obtain ⟨KB, hKB⟩ : ∃ b, b = wr.heap.size := ⟨_, rfl⟩
        rw [← hKB] at hknew ⊢
        have HKB := Lib.hid hKB
        clear hKB
        have hcv := HCV.out
        have hwn := (Below.heap_alloc wa (.cells #[.int .u8 (97 + (k : Int) % 16), .int .u8 (97 + (k : Int) / 16 % 16), .int .u8 (97 + (k : Int) / 256)] 5) KB (Array.getElem?_eq_some_iff.1 hknew).1).trans hknew
        have q3 : (wa.alloc (.cells #[.int .u8 (97 + (k : Int) % 16), .int .u8 (97 + (k : Int) / 16 % 16), .int .u8 (97 + (k : Int) / 256)] 5)).cell? ⟨KB, 3, none⟩ = some (.string ⟨#[]⟩) := by rw [cell_of_row _ KB 3 _ _ (0, 0) hwn]; rfl
        have f3 := frozen_of_row (wa.alloc (.cells #[.int .u8 (97 + (k : Int) % 16), .int .u8 (97 + (k : Int) / 16 % 16), .int .u8 (97 + (k : Int) / 256)] 5)) KB 3 _ _ hwn
        have hset := heap_setCell_same (wa.alloc (.cells #[.int .u8 (97 + (k : Int) % 16), .int .u8 (97 + (k : Int) / 16 % 16), .int .u8 (97 + (k : Int) / 256)] 5)) KB 3 _ _ (.string (str3 (97 + (k : Int) % 16) (97 + (k : Int) / 16 % 16) (97 + (k : Int) / 256))) hwn
        have hbk : Below wr.heap.size wr ((wa.alloc (.cells #[.int .u8 (97 + (k : Int) % 16), .int .u8 (97 + (k : Int) / 16 % 16), .int .u8 (97 + (k : Int) / 256)] 5)).setCell ⟨KB, 3, none⟩ (.string (str3 (97 + (k : Int) % 16) (97 + (k : Int) / 16 % 16) (97 + (k : Int) / 256)))) := (hkba.trans (((Below.refl wa.heap.size wa).alloc (Nat.le_refl _) _).mono hkba.size)).setCell (p := ⟨KB, 3, none⟩) (by rw [HKB.out]; exact Nat.le_refl _) _
        go_upto_region 9 with fail
        clear hcv q3 f3 hwn hknew hkba
        generalize (wa.alloc (.cells #[.int .u8 (97 + (k : Int) % 16), .int .u8 (97 + (k : Int) / 16 % 16), .int .u8 (97 + (k : Int) / 256)] 5)).setCell ⟨KB, 3, none⟩ (.string (str3 (97 + (k : Int) % 16) (97 + (k : Int) / 16 % 16) (97 + (k : Int) / 256))) = wk at hset hbk ⊢
        have k0 : wk.cell? ⟨KB, 0, none⟩ = some (.string ⟨#[103]⟩) := by rw [cell_of_row wk KB 0 _ _ (0, 0) hset]; rfl
        have k1 : wk.cell? ⟨KB, 1, none⟩ = some (.string ⟨#[97]⟩) := by rw [cell_of_row wk KB 1 _ _ (0, 0) hset]; rfl
        have k2 : wk.cell? ⟨KB, 2, none⟩ = some (.string ⟨#[106, 97, 114]⟩) := by rw [cell_of_row wk KB 2 _ _ (0, 0) hset]; rfl
        have k3 : wk.cell? ⟨KB, 3, none⟩ = some (.string (cls3 k)) := by rw [cell_of_row wk KB 3 _ _ (0, 0) hset]; rfl
        clear hset
        have hlb := LimS.below hbk HL.out
        obtain ⟨h1, h2, h3⟩ := hlb
        have HBK := Lib.hid (HB.out.trans (hbk.mono hDs))
        have hDk : D ≤ wk.heap.size := by have := hbk.size; omega
        have d0 : wk.cell? ⟨D, 0, none⟩ = some vi := by rw [cell_of_row wk D 0 _ _ (0, 0) h1]; rfl
        have hput := fun v1 w4 (ys : List Value) ho hg => deal_put (ys := ys) (m := k + 1) (c := 0) (v1 := v1) (w2 := w4) h1 h2 h3 ho hg (by decide) (by decide) (by decide)
        have HPUT := Lib.hid hput
        clear h1 h3 hput hbk
        go_wp2_with (at_builtin
                     refine appI (itemN false k) rfl _ _ rfl D k vi _ rfl h2 rfl (by omega) hDk ?_)
        intro v1 w4 ho1 hg1 hb1
        obtain ⟨p1, p2, p3, p4⟩ := HPUT.out v1 w4 _ ho1 hg1
        obtain ⟨g1, cap1, rfl⟩ : ∃ g cap, v1 = .slice (some ⟨g, 0, none⟩) (k + 1) cap := by
          rcases ho1.2 with ⟨_, h0⟩ | ⟨g, cap, cur, hv, _⟩
          · omega
          · exact ⟨g, cap, hv⟩
        have c0 : w4.cell? ⟨D, 0, none⟩ = some vi := by rw [cell_of_row w4 D 0 _ _ (0, 0) p1]; rfl
        have f0 := frozen_of_row w4 D 0 _ _ p1
        have HB4 := Lib.hid (HBK.out.trans (hb1.setCell (p := ⟨D, 0, none⟩) (Nat.le_refl _) (.slice (some ⟨g1, 0, none⟩) (k + 1) cap1)))
        have P2 := Lib.hid p2
        have P3 := Lib.hid p3
        have P4 := Lib.hid p4
        have hD4 : D ≤ (w4.setCell ⟨D, 0, none⟩ (.slice (some ⟨g1, 0, none⟩) (k + 1) cap1)).heap.size := by have := HB4.out.size; have := HD.out; omega
        clear ho1 hg1 hb1 p1 p2 p3 p4 h2 d0 k0 k1 k2 k3
        go_upto_region 10 with fail
        generalize w4.setCell ⟨D, 0, none⟩ (.slice (some ⟨g1, 0, none⟩) (k + 1) cap1) = w5 at HB4 P2 P3 P4 hD4 ⊢
        clear c0 f0
        have d1 : w5.cell? ⟨D, 1, none⟩ = some vw := by rw [cell_of_row w5 D 1 _ _ (0, 0) P2.out]; rfl
        have hput := fun v1 w6 (ys : List Value) ho hg => deal_put (ys := ys) (m := k + 1) (c := 1) (v1 := v1) (w2 := w6) P2.out P4.out P3.out ho hg (by decide) (by decide) (by decide)
        have HPUT := Lib.hid hput
        have h2 := P4.out
        clear hput
        go_wp2_with (at_builtin
                     refine app1 rfl _ _ 23 32 rfl (.slice none 0 0) 24 D k Try.underlying23 wants_info rfl vw _ rfl h2 rfl rfl (by omega) (by omega) hD4 ?_)
        intro v2 w6 ho1 hg1 hb1
        obtain ⟨p1, p2, p3, p4⟩ := HPUT.out v2 w6 _ ho1 hg1
        obtain ⟨g2, cap2, rfl⟩ : ∃ g cap, v2 = .slice (some ⟨g, 0, none⟩) (k + 1) cap := by
          rcases ho1.2 with ⟨_, h0⟩ | ⟨g, cap, cur, hv, _⟩
          · omega
          · exact ⟨g, cap, hv⟩
        have c0 : w6.cell? ⟨D, 1, none⟩ = some vw := by rw [cell_of_row w6 D 1 _ _ (0, 0) p1]; rfl
        have f0 := frozen_of_row w6 D 1 _ _ p1
        have HB6 := Lib.hid (HB4.out.trans (hb1.setCell (p := ⟨D, 1, none⟩) (Nat.le_refl _) (.slice (some ⟨g2, 0, none⟩) (k + 1) cap2)))
        have HLN := Lib.hid (show LimS (w6.setCell ⟨D, 1, none⟩ (.slice (some ⟨g2, 0, none⟩) (k + 1) cap2)) D false (k + 1) from ⟨_, _, p2, by rw [itsN_snoc]; exact p4, by rw [List.replicate_succ']; exact p3⟩)
        clear ho1 hg1 hb1 p1 p2 p3 p4 h2 d1
        go_wp2
        go_roundw
        case rel => exact ⟨k + 1, by omega, by go_num, HLN.out, HB6.out⟩
        case measure => simp [intOf]; omega
      · have hke : k = m := by omega
        have hle : (m : Int) ≤ k := by omega
        have hrd : RdD wr vi vw (limD false m) := by
          obtain ⟨_, h2, h3⟩ := HL.out
          rw [hke] at h2 h3
          exact ⟨RdI.of_own (base := D) (e := 50) (by show wr.ownsRow D _ 5 vi (itsN false m).length (rowI (itsN false m)); rw [itsN_len]; exact h2), Rd3.nils h3⟩
        obtain ⟨ia, ic, wa, wc, rfl, rfl⟩ := hrd.shape
        have x0 : wr.cell? ⟨D, 0, none⟩ = some (.slice ia (limD false m).its.length ic) := by rw [cell_of_row wr D 0 _ _ (0, 0) HL.out.1]; rfl
        have x1 : wr.cell? ⟨D, 1, none⟩ = some (.slice wa (limD false m).ws.length wc) := by rw [cell_of_row wr D 1 _ _ (0, 0) HL.out.1]; rfl
        have x2 : wr.cell? ⟨D, 2, none⟩ = some (.int .i64 0) := by rw [cell_of_row wr D 2 _ _ (0, 0) HL.out.1]; rfl
        have hil : (limD false m).its.length = m := itsN_len false m
        have hwl : (limD false m).ws.length = m := by show (List.replicate m ([] : List (List Int))).length = m; simp
        rw [hil, hwl] at hrd
        rw [hil] at x0
        rw [hwl] at x1
        have henc := enc_lim false m (by omega) (by omega) _ _ _ hrd
        have HENC := Lib.hid henc
        have HRD := Lib.hid hrd
        have HB2 := Lib.hid (show Below w.heap.size w wr by rw [← HD.out]; exact HB.out)
        have hnt := sum_tri m
        have htl := tri_le m (by omega)
        generalize hT : sumN (fun k => k) m = T at hnt htl
        have HTT := Lib.hid hT
        have HNT := Lib.hid hnt
        clear henc hrd hke hle hT hnt
        go_wp2_with fail
        refine HENC.out.mono ?_
        rintro e w2 ⟨hb2, (⟨h, rfl⟩ | ⟨h, ha, ht, rfl⟩ | ⟨h, ht, a, c, rfl⟩)⟩
        · have hI : (1024 : Int) < m := by omega
          have hba : Below w2.heap.size w2 (w2.alloc (.cells #[.int .i64 0, .slice none 0 0] 34)) := (Below.refl _ _).alloc (Nat.le_refl _) _
          have hnew := heap_alloc_new w2 (.cells #[.int .i64 0, .slice none 0 0] 34)
          have HB3 := Lib.hid (HB2.out.trans ((hb2.trans (hba.mono hb2.size)).mono HB2.out.size))
          have HW := Lib.hid (hb2.trans (hba.mono hb2.size))
          clear hb2 hba HENC
          go_upto_region 13 with fail
          generalize w2.alloc (.cells #[.int .i64 0, .slice none 0 0] 34) = w3 at hnew HB3 HW ⊢
          generalize w2.heap.size = QV at hnew ⊢
          have HN := Lib.hid hnew
          have y0 := (HW.out.cell (World.block_lt_of_cell? wr _ x0)).trans x0
          have y1 := (HW.out.cell (World.block_lt_of_cell? wr _ x1)).trans x1
          have y2 := (HW.out.cell (World.block_lt_of_cell? wr _ x2)).trans x2
          have HMAY := Lib.hid (may_lim false m (by omega) _ _ w3 (HRD.out.below HW.out (Nat.le_refl _)))
          clear x0 x1 x2 hnew
          rw [if_pos h] at HMAY
          clear h
          go_wp2_with fail
          refine HMAY.out.mono ?_
          rintro e w4 ⟨rfl, hb4⟩
          have HB4 := Lib.hid (HB3.out.trans (hb4.mono HB3.out.size))
          clear hb4 y0 y1 y2 HMAY
          go_wp2_with fail
          refine (HLV.out _).mono ?_
          rintro e wz ⟨rfl, hbz⟩
          have HZ := Lib.hid (HB4.out.trans (hbz.mono HB4.out.size))
          clear hbz
          go_wp2
          go_ret
          exact ⟨rfl, HZ.out⟩
        · cases ha
        · have hI : decide ((1024 : Int) < m) = false := by simp; omega
          rw [if_neg (by simp)]
          have hba : Below w2.heap.size w2 (w2.alloc (.cells #[.int .i64 m, .slice a (1 + 0) c] 34)) := (Below.refl _ _).alloc (Nat.le_refl _) _
          have hnew := heap_alloc_new w2 (.cells #[.int .i64 m, .slice a (1 + 0) c] 34)
          have HB3 := Lib.hid (HB2.out.trans ((hb2.trans (hba.mono hb2.size)).mono HB2.out.size))
          have HW := Lib.hid (hb2.trans (hba.mono hb2.size))
          clear hb2 hba HENC
          go_upto_region 13 with fail
          generalize w2.alloc (.cells #[.int .i64 m, .slice a (1 + 0) c] 34) = w3 at hnew HB3 HW ⊢
          generalize w2.heap.size = QV at hnew ⊢
          have HN := Lib.hid hnew
          have y0 := (HW.out.cell (World.block_lt_of_cell? wr _ x0)).trans x0
          have y1 := (HW.out.cell (World.block_lt_of_cell? wr _ x1)).trans x1
          have y2 := (HW.out.cell (World.block_lt_of_cell? wr _ x2)).trans x2
          have HMAY := Lib.hid (may_lim false m (by omega) _ _ w3 (HRD.out.below HW.out (Nat.le_refl _)))
          clear x0 x1 x2 hnew
          have q0 : w3.cell? ⟨QV, 0, none⟩ = some (.int .i64 m) := by rw [cell_of_row w3 QV 0 _ _ (0, 0) HN.out]; rfl
          have q1 : w3.cell? ⟨QV, 1, none⟩ = some (.slice a 1 c) := by rw [cell_of_row w3 QV 1 _ _ (0, 0) HN.out]; rfl
          clear y0 y1 y2 HMAY ht h
          go_wp2_with fail
          refine (HLV.out _).mono ?_
          rintro e wz ⟨rfl, hbz⟩
          have HZ := Lib.hid (HB3.out.trans (hbz.mono HB3.out.size))
          clear hbz
          go_wp2
          go_ret
          exact ⟨rfl, HZ.out⟩
  · go_enter Try.func8, Try.ntmps8
    go_upto_region 3 with fail
    generalize hp : (if 1027 < n then (1027 : Int) else n) = p
    have hp1 : p ≤ 1027 := by rw [← hp]; split <;> omega
    clear hp
    generalize hq : (if 1 < p then p else (1 : Int)) = q
    have hq1 : 1 ≤ q ∧ q ≤ 1027 := by rw [← hq]; split <;> omega
    clear hq
    obtain ⟨m, rfl⟩ : ∃ m : Nat, q = m := ⟨q.toNat, by omega⟩
    obtain ⟨hm1, hm2⟩ := hq1
    obtain ⟨D, hD⟩ : ∃ D, D = w.heap.size := ⟨_, rfl⟩
    rw [← hD] at hnew ⊢
    have HD := Lib.hid hD
    have HBA := Lib.hid hba
    generalize w.alloc (.cells #[.slice none 0 0, .slice none 0 0, .int .i64 0] 25) = w1 at hnew HBA ⊢
    have HS0 := Lib.hid (show LimS w1 D true 0 from ⟨_, _, hnew, World.ownsRow_nil _ _ _ _, World.ownsRow_nil _ _ _ _⟩)
    clear hD hba hnew
    go_wp2_with fail
    go_loopw [15] (fun i wr => ∃ k : Nat, k ≤ m ∧ i = .int .i64 k ∧ LimS wr D true k ∧ Below D w wr) (fun i _ => m - (intOf i).toNat)
    case atStart => exact ⟨0, by omega, rfl, HS0.out, by rw [HD.out]; exact HBA.out⟩
    case round =>
      obtain ⟨k, hk, rfl, ⟨vi, vw, hl⟩, hb⟩ := hrel
      have HB := Lib.hid hb
      have HL := Lib.hid hl
      have hDs : D ≤ wr.heap.size := by have := hb.size; have := HD.out; omega
      clear hb hl
      by_cases hlt : k < m
      · have hk0 : (0 : Int) ≤ k := by omega
        have hk1 : (k : Int) < 1027 := by omega
        have hknew := heap_alloc_new wr (.cells #[.string ⟨#[103]⟩, .string ⟨#[97]⟩, .string ⟨#[106, 97, 114]⟩, .string ⟨#[]⟩] 47)
        have hkba : Below wr.heap.size wr (wr.alloc (.cells #[.string ⟨#[103]⟩, .string ⟨#[97]⟩, .string ⟨#[106, 97, 114]⟩, .string ⟨#[]⟩] 47)) := (Below.refl _ _).alloc (Nat.le_refl _) _
        go_upto_region 7 with fail
        generalize wr.alloc (.cells #[.string ⟨#[103]⟩, .string ⟨#[97]⟩, .string ⟨#[106, 97, 114]⟩, .string ⟨#[]⟩] 47) = wa at hknew hkba ⊢
        obtain ⟨KB, hKB⟩ : ∃ b, b = wr.heap.size := ⟨_, rfl⟩
        rw [← hKB] at hknew ⊢
        have HKB := Lib.hid hKB
        clear hKB
        have hbk : Below wr.heap.size wr wa := hkba
        generalize wa = wk at hknew hbk ⊢
        have k0 : wk.cell? ⟨KB, 0, none⟩ = some (.string ⟨#[103]⟩) := by rw [cell_of_row wk KB 0 _ _ (0, 0) hknew]; rfl
        have k1 : wk.cell? ⟨KB, 1, none⟩ = some (.string ⟨#[97]⟩) := by rw [cell_of_row wk KB 1 _ _ (0, 0) hknew]; rfl
        have k2 : wk.cell? ⟨KB, 2, none⟩ = some (.string ⟨#[106, 97, 114]⟩) := by rw [cell_of_row wk KB 2 _ _ (0, 0) hknew]; rfl
        have k3 : wk.cell? ⟨KB, 3, none⟩ = some (.string ⟨#[]⟩) := by rw [cell_of_row wk KB 3 _ _ (0, 0) hknew]; rfl
        clear hknew hkba
        go_upto_region 9 with fail
        have hlb := LimS.below hbk HL.out
        obtain ⟨h1, h2, h3⟩ := hlb
        have HBK := Lib.hid (HB.out.trans (hbk.mono hDs))
        have hDk : D ≤ wk.heap.size := by have := hbk.size; omega
        have d0 : wk.cell? ⟨D, 0, none⟩ = some vi := by rw [cell_of_row wk D 0 _ _ (0, 0) h1]; rfl
        have hput := fun v1 w4 (ys : List Value) ho hg => deal_put (ys := ys) (m := k + 1) (c := 0) (v1 := v1) (w2 := w4) h1 h2 h3 ho hg (by decide) (by decide) (by decide)
        have HPUT := Lib.hid hput
        clear h1 h3 hput hbk
        go_wp2_with (at_builtin
                     refine appI (itemN true k) rfl _ _ rfl D k vi _ rfl h2 rfl (by omega) hDk ?_)
        intro v1 w4 ho1 hg1 hb1
        obtain ⟨p1, p2, p3, p4⟩ := HPUT.out v1 w4 _ ho1 hg1
        obtain ⟨g1, cap1, rfl⟩ : ∃ g cap, v1 = .slice (some ⟨g, 0, none⟩) (k + 1) cap := by
          rcases ho1.2 with ⟨_, h0⟩ | ⟨g, cap, cur, hv, _⟩
          · omega
          · exact ⟨g, cap, hv⟩
        have c0 : w4.cell? ⟨D, 0, none⟩ = some vi := by rw [cell_of_row w4 D 0 _ _ (0, 0) p1]; rfl
        have f0 := frozen_of_row w4 D 0 _ _ p1
        have HB4 := Lib.hid (HBK.out.trans (hb1.setCell (p := ⟨D, 0, none⟩) (Nat.le_refl _) (.slice (some ⟨g1, 0, none⟩) (k + 1) cap1)))
        have P2 := Lib.hid p2
        have P3 := Lib.hid p3
        have P4 := Lib.hid p4
        have hD4 : D ≤ (w4.setCell ⟨D, 0, none⟩ (.slice (some ⟨g1, 0, none⟩) (k + 1) cap1)).heap.size := by have := HB4.out.size; have := HD.out; omega
        clear ho1 hg1 hb1 p1 p2 p3 p4 h2 d0 k0 k1 k2 k3
        go_upto_region 10 with fail
        generalize w4.setCell ⟨D, 0, none⟩ (.slice (some ⟨g1, 0, none⟩) (k + 1) cap1) = w5 at HB4 P2 P3 P4 hD4 ⊢
        clear c0 f0
        have d1 : w5.cell? ⟨D, 1, none⟩ = some vw := by rw [cell_of_row w5 D 1 _ _ (0, 0) P2.out]; rfl
        have hput := fun v1 w6 (ys : List Value) ho hg => deal_put (ys := ys) (m := k + 1) (c := 1) (v1 := v1) (w2 := w6) P2.out P4.out P3.out ho hg (by decide) (by decide) (by decide)
        have HPUT := Lib.hid hput
        have h2 := P4.out
        clear hput
        go_wp2_with (at_builtin
                     refine app1 rfl _ _ 23 32 rfl (.slice none 0 0) 24 D k Try.underlying23 wants_info rfl vw _ rfl h2 rfl rfl (by omega) (by omega) hD4 ?_)
        intro v2 w6 ho1 hg1 hb1
        obtain ⟨p1, p2, p3, p4⟩ := HPUT.out v2 w6 _ ho1 hg1
        obtain ⟨g2, cap2, rfl⟩ : ∃ g cap, v2 = .slice (some ⟨g, 0, none⟩) (k + 1) cap := by
          rcases ho1.2 with ⟨_, h0⟩ | ⟨g, cap, cur, hv, _⟩
          · omega
          · exact ⟨g, cap, hv⟩
        have c0 : w6.cell? ⟨D, 1, none⟩ = some vw := by rw [cell_of_row w6 D 1 _ _ (0, 0) p1]; rfl
        have f0 := frozen_of_row w6 D 1 _ _ p1
        have HB6 := Lib.hid (HB4.out.trans (hb1.setCell (p := ⟨D, 1, none⟩) (Nat.le_refl _) (.slice (some ⟨g2, 0, none⟩) (k + 1) cap2)))
        have HLN := Lib.hid (show LimS (w6.setCell ⟨D, 1, none⟩ (.slice (some ⟨g2, 0, none⟩) (k + 1) cap2)) D true (k + 1) from ⟨_, _, p2, by rw [itsN_snoc]; exact p4, by rw [List.replicate_succ']; exact p3⟩)
        clear ho1 hg1 hb1 p1 p2 p3 p4 h2 d1
        go_wp2
        go_roundw
        case rel => exact ⟨k + 1, by omega, by go_num, HLN.out, HB6.out⟩
        case measure => simp [intOf]; omega
      · have hke : k = m := by omega
        have hle : (m : Int) ≤ k := by omega
        have hrd : RdD wr vi vw (limD true m) := by
          obtain ⟨_, h2, h3⟩ := HL.out
          rw [hke] at h2 h3
          exact ⟨RdI.of_own (base := D) (e := 50) (by show wr.ownsRow D _ 5 vi (itsN true m).length (rowI (itsN true m)); rw [itsN_len]; exact h2), Rd3.nils h3⟩
        obtain ⟨ia, ic, wa, wc, rfl, rfl⟩ := hrd.shape
        have x0 : wr.cell? ⟨D, 0, none⟩ = some (.slice ia (limD true m).its.length ic) := by rw [cell_of_row wr D 0 _ _ (0, 0) HL.out.1]; rfl
        have x1 : wr.cell? ⟨D, 1, none⟩ = some (.slice wa (limD true m).ws.length wc) := by rw [cell_of_row wr D 1 _ _ (0, 0) HL.out.1]; rfl
        have x2 : wr.cell? ⟨D, 2, none⟩ = some (.int .i64 0) := by rw [cell_of_row wr D 2 _ _ (0, 0) HL.out.1]; rfl
        have hil : (limD true m).its.length = m := itsN_len true m
        have hwl : (limD true m).ws.length = m := by show (List.replicate m ([] : List (List Int))).length = m; simp
        rw [hil, hwl] at hrd
        rw [hil] at x0
        rw [hwl] at x1
        have henc := enc_lim true m (by omega) (by omega) _ _ _ hrd
        have HENC := Lib.hid henc
        have HRD := Lib.hid hrd
        have HB2 := Lib.hid (show Below w.heap.size w wr by rw [← HD.out]; exact HB.out)
        have hnt := sum_tri m
        have htl := tri_le m (by omega)
        generalize hT : sumN (fun k => k) m = T at hnt htl
        have HTT := Lib.hid hT
        have HNT := Lib.hid hnt
        clear henc hrd hke hle hT hnt
        go_wp2_with fail
        refine HENC.out.mono ?_
        rintro e w2 ⟨hb2, (⟨h, rfl⟩ | ⟨h, ha, ht, rfl⟩ | ⟨h, ht, a, c, rfl⟩)⟩
        · have hI : (1024 : Int) < m := by omega
          have hba : Below w2.heap.size w2 (w2.alloc (.cells #[.int .i64 0, .slice none 0 0] 34)) := (Below.refl _ _).alloc (Nat.le_refl _) _
          have hnew := heap_alloc_new w2 (.cells #[.int .i64 0, .slice none 0 0] 34)
          have HB3 := Lib.hid (HB2.out.trans ((hb2.trans (hba.mono hb2.size)).mono HB2.out.size))
          have HW := Lib.hid (hb2.trans (hba.mono hb2.size))
          clear hb2 hba HENC
          go_upto_region 13 with fail
          generalize w2.alloc (.cells #[.int .i64 0, .slice none 0 0] 34) = w3 at hnew HB3 HW ⊢
          generalize w2.heap.size = QV at hnew ⊢
          have HN := Lib.hid hnew
          have y0 := (HW.out.cell (World.block_lt_of_cell? wr _ x0)).trans x0
          have y1 := (HW.out.cell (World.block_lt_of_cell? wr _ x1)).trans x1
          have y2 := (HW.out.cell (World.block_lt_of_cell? wr _ x2)).trans x2
          have HMAY := Lib.hid (may_lim true m (by omega) _ _ w3 (HRD.out.below HW.out (Nat.le_refl _)))
          clear x0 x1 x2 hnew
          rw [if_pos h] at HMAY
          clear h
          go_wp2_with fail
          refine HMAY.out.mono ?_
          rintro e w4 ⟨rfl, hb4⟩
          have HB4 := Lib.hid (HB3.out.trans (hb4.mono HB3.out.size))
          clear hb4 y0 y1 y2 HMAY
          go_wp2_with fail
          refine (HLV.out _).mono ?_
          rintro e wz ⟨rfl, hbz⟩
          have HZ := Lib.hid (HB4.out.trans (hbz.mono HB4.out.size))
          clear hbz
          go_wp2
          go_ret
          exact ⟨rfl, HZ.out⟩
        · have hI : decide ((1024 : Int) < m) = false := by simp; omega
          rw [HTT.out] at ht
          have hba : Below w2.heap.size w2 (w2.alloc (.cells #[.int .i64 0, .slice none 0 0] 34)) := (Below.refl _ _).alloc (Nat.le_refl _) _
          have hnew := heap_alloc_new w2 (.cells #[.int .i64 0, .slice none 0 0] 34)
          have HB3 := Lib.hid (HB2.out.trans ((hb2.trans (hba.mono hb2.size)).mono HB2.out.size))
          have HW := Lib.hid (hb2.trans (hba.mono hb2.size))
          clear hb2 hba HENC
          go_upto_region 13 with fail
          generalize w2.alloc (.cells #[.int .i64 0, .slice none 0 0] 34) = w3 at hnew HB3 HW ⊢
          generalize w2.heap.size = QV at hnew ⊢
          have HN := Lib.hid hnew
          have y0 := (HW.out.cell (World.block_lt_of_cell? wr _ x0)).trans x0
          have y1 := (HW.out.cell (World.block_lt_of_cell? wr _ x1)).trans x1
          have y2 := (HW.out.cell (World.block_lt_of_cell? wr _ x2)).trans x2
          have HMAY := Lib.hid (may_lim true m (by omega) _ _ w3 (HRD.out.below HW.out (Nat.le_refl _)))
          clear x0 x1 x2 hnew
          have q1 : w3.cell? ⟨QV, 1, none⟩ = some (.slice none 0 0) := by rw [cell_of_row w3 QV 1 _ _ (0, 0) HN.out]; rfl
          rw [if_neg (by omega)] at HMAY
          have hNT := HNT.out
          have hTb : (16384 : Int) < (T : Int) + 1 := by omega
          have hT0 : (T : Int) ≤ 1054729 := by omega
          have hTp : (0 : Int) ≤ T := by omega
          clear h ht
          go_wp2_with fail
          refine HMAY.out.mono ?_
          rintro e w4 ⟨rfl, hb4⟩
          have HB4 := Lib.hid (HB3.out.trans (hb4.mono HB3.out.size))
          clear hb4 y0 y1 y2 HMAY
          go_wp2_with fail
          refine (HLV.out _).mono ?_
          rintro e wz ⟨rfl, hbz⟩
          have HZ := Lib.hid (HB4.out.trans (hbz.mono HB4.out.size))
          clear hbz
          go_wp2
          go_ret
          exact ⟨rfl, HZ.out⟩
        · have hI : decide ((1024 : Int) < m) = false := by simp; omega
          have ht2 := ht rfl
          rw [if_pos rfl, HTT.out]
          rw [HTT.out] at ht2
          have hba : Below w2.heap.size w2 (w2.alloc (.cells #[.int .i64 m, .slice a (1 + T) c] 34)) := (Below.refl _ _).alloc (Nat.le_refl _) _
          have hnew := heap_alloc_new w2 (.cells #[.int .i64 m, .slice a (1 + T) c] 34)
          have HB3 := Lib.hid (HB2.out.trans ((hb2.trans (hba.mono hb2.size)).mono HB2.out.size))
          have HW := Lib.hid (hb2.trans (hba.mono hb2.size))
          clear hb2 hba HENC
          go_upto_region 13 with fail
          generalize w2.alloc (.cells #[.int .i64 m, .slice a (1 + T) c] 34) = w3 at hnew HB3 HW ⊢
          generalize w2.heap.size = QV at hnew ⊢
          have HN := Lib.hid hnew
          have y0 := (HW.out.cell (World.block_lt_of_cell? wr _ x0)).trans x0
          have y1 := (HW.out.cell (World.block_lt_of_cell? wr _ x1)).trans x1
          have y2 := (HW.out.cell (World.block_lt_of_cell? wr _ x2)).trans x2
          have HMAY := Lib.hid (may_lim true m (by omega) _ _ w3 (HRD.out.below HW.out (Nat.le_refl _)))
          clear x0 x1 x2 hnew
          have q1 : w3.cell? ⟨QV, 1, none⟩ = some (.slice a (1 + T) c) := by rw [cell_of_row w3 QV 1 _ _ (0, 0) HN.out]; rfl
          have hNT := HNT.out
          have hTb : decide ((16384 : Int) < (T : Int) + 1) = false := by simp; omega
          have hT0 : (T : Int) ≤ 1054729 := by omega
          have hTp : (0 : Int) ≤ T := by omega
          clear y0 y1 y2 HMAY ht ht2 h
          go_wp2_with fail
          refine (HLV.out _).mono ?_
          rintro e wz ⟨rfl, hbz⟩
          have HZ := Lib.hid (HB3.out.trans (hbz.mono HB3.out.size))
          clear hbz
          go_wp2
          go_ret
          exact ⟨rfl, HZ.out⟩

set_option maxRecDepth 100000 in
theorem lifted_CnfLimits (os : Os) (started : os.Started) (H : Type) (enc : TypeId × Value → H) :
    ReturnsInHanded {} Try.checked os 8 .any (Rows.cnfLimitsSpec.pre6 enc Try.prog Try.f8 Rows.cnfLimitsRow.domain false) (Rows.cnfLimitsSpec.post enc Try.prog Try.f8 false true false false) := by
  refine returnsInHanded_of_change (C := Try.checked) own_knob started (by kernel_rfl) Try.func8
    (ChangeSpec.witness6 (enc := enc) (C := Try.checked) false ⟨#[], #[.int .i64 0, .bool false], []⟩ 8 (by kernel_rfl) (by kernel_rfl) (by kernel_rfl) (by kernel_rfl)) ?_
  intro W base args ds gs before hval0 hW _ _
  have hval : ∀ (j : Nat) t v, Try.f8.params[j]? = some t → args[j]? = some v → Value.okWide Try.prog W .any base t v := hval0
  have hW' := hW
  obtain ⟨p, q, hA0, hV, rfl, _, _⟩ := hW
  have hA : DataW.TrodAll enc Try.prog W 0 (fun _ => true) true Try.f8.params.toList args.toList ds p := hA0
  rw [Try.params8] at hA hval
  obtain ⟨v0, vs0, d0, ds0, p0, q0, hargs, rfl, rfl, h0, r0⟩ := trodAll_cons hA
  obtain ⟨v1, vs1, d1, ds1, p1, q1, rfl, rfl, rfl, h1, r1⟩ := trodAll_cons r0
  obtain ⟨rfl, rfl, rfl⟩ := trodAll_nil r1
  obtain rfl : args = #[v0, v1] := by cases args; simp_all
  obtain ⟨rfl, rfl⟩ := trodVars_none hV
  obtain ⟨a0, rfl, rfl, rfl, w0⟩ := open_int Try.underlying3 (hval 0 3 v0 rfl rfl) h0
  obtain ⟨a1, rfl, rfl, rfl⟩ := open_bool Try.underlying4 (hval 1 4 v1 rfl rfl) h1
  clear hA0 hval0
  refine (walk_CnfLimits a0 (wf_i64 w0) a1 W ).mono fun e W' ⟨he, hb⟩ => ?_
  subst he
  exact ⟨_, rfl, law_post (by kernel_rfl) rfl rfl rfl hW' hb⟩

/-- the statement of CnfLimits -/
theorem proved_CnfLimits : Rows.CnfLimitsSaid :=
  OpenClaim.holds_of_wide 8 Try.f8 rfl rfl rfl rfl rfl rfl rfl ⟨rfl, rfl, rfl, rfl, rfl⟩ rfl rfl rfl rfl rfl (by kernel_rfl) Try.func8 (by kernel_rfl)
    (of_decide_eq_true (by kernel_rfl)) (by unfold Func.isWrapper; first | (rw [if_pos (by decide +kernel)]; kernel_rfl) | (rw [if_neg (by decide +kernel)]; exact ⟨rfl, rfl⟩))
    (fun os started H enc _ => lifted_CnfLimits os started H enc)
end Go.Proofs.Ytgfgajekegfdgaa
