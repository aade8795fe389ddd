/-
  Layer 3: the contract of Build: the walk. Own work.
-/
import Derived.Test.YtpbkidmdfibaoaaGreatDoorBld3
namespace Go.Proofs.YtpbkidmdfibaoaaGreatDoor
set_option linter.unusedVariables false
set_option linter.unusedSimpArgs false
open Go.RowKit

set_option maxRecDepth 100000 in
set_option maxHeartbeats 1000000 in
theorem Build_any (l : List UInt8) (hl : l.length ≤ 1000000) (w : World) (hT : Lib.Utf8Tabs 1 2 w) : Calls Tryz.prog 7 #[.string (str l)] w (BuildP l w) := by
  obtain ⟨w1, hw1⟩ : ∃ w1, w1 = (w.alloc (.cells #[.string ⟨#[]⟩, .slice none 0 0, .slice none 0 0, .string ⟨#[]⟩] 26)).alloc (.cells #[.int .i64 0, .int .i64 0, .int .i64 0] 29) := ⟨_, rfl⟩
  have hb1 : Below w.heap.size w w1 := by rw [hw1]; exact ((Below.refl w.heap.size w).alloc (Nat.le_refl _) _).alloc (by simp) _
  have hre1 : Re3 w1 w.heap.size (w.heap.size + 1) (.string ⟨#[]⟩) (.slice none 0 0) (.slice none 0 0) (.string ⟨#[]⟩) (.int .i64 0) (.int .i64 0) (.int .i64 0) := by
    rw [hw1]
    exact ⟨by rw [Below.heap_alloc _ _ _ (by simp)]; exact heap_alloc_new w _, heap_alloc2_new w _ _, by omega⟩
  have HALL := Lib.hid (All_any l hl w1)
  have HAT := Lib.hid (fun w => At_any (str l) (by rw [size_str]; omega) (l.length : Int) l.length (by rw [size_str]; omega) w)
  have HT := Lib.hid hT
  have HW1 := Lib.hid hw1
  clear hw1 hT
  go_enter Tryz.func7, Tryz.ntmps7
  go_upto_region 1 with fail
  rw [← HW1.out]
  obtain ⟨B, hB⟩ : ∃ B, B = w.heap.size + 1 := ⟨_, rfl⟩
  obtain ⟨A, hA⟩ : ∃ A, A = w.heap.size := ⟨_, rfl⟩
  rw [← hB] at hre1 ⊢
  rw [← hA] at hre1
  have HAB := Lib.hid (show w.heap.size ≤ A ∧ w.heap.size ≤ B by omega)
  have HA := Lib.hid hA
  have HB1 := Lib.hid hb1
  have HRE1 := Lib.hid hre1
  simp only [← HA.out]
  clear hA hB hb1 hre1
  go_wp2_with fail
  refine HALL.out.mono ?_
  rintro e w2 ⟨hb2, hq⟩
  cases hM : allM l with
  | bad c r =>
    rw [hM] at hq
    dsimp only at hq
    subst hq
    have HM := Lib.hid (show buildM l = .bad c (l.length - r.length) by unfold buildM; rw [hM])
    have hc0 : (c == 0) = false := by simpa using all_ne hM
    clear hM
    obtain ⟨o, ho⟩ : ∃ o, o = l.length - r.length := ⟨_, rfl⟩
    have hpre : preO l r = l.take o := by rw [ho]; rfl
    rw [hpre, ← ho]
    rw [← ho] at HM
    clear ho hpre
    obtain ⟨p1, hp1⟩ : ∃ p1, p1 = lineS (l.take o) := ⟨_, rfl⟩
    obtain ⟨p2, hp2⟩ : ∃ p2, p2 = colS (l.take o) := ⟨_, rfl⟩
    rw [← hp1, ← hp2]
    have HFIN := Lib.hid (show ∀ w9, Below w.heap.size w w9 → BuildP l w (.returned (.tuple #[.agg #[.string ⟨#[]⟩, .slice none 0 0, .slice none 0 0, .string ⟨#[]⟩], .int .i64 c, .agg #[.int .i64 (o : Int), .int .i64 p1, .int .i64 p2]])) w9 from by
      rw [hp1, hp2]
      exact fun w9 hb => bfin_bad HM.out hb)
    clear hp1 hp2
    obtain ⟨w3, hw3⟩ : ∃ w3, w3 = w2.alloc (.cells #[.int .i64 (o : Int), .int .i64 p1, .int .i64 p2] 29) := ⟨_, rfl⟩
    have hb3 : Below w1.heap.size w1 w3 := by rw [hw3]; exact hb2.alloc hb2.size _
    have hP3 : w3.heap[w2.heap.size]? = some (.cells #[.int .i64 (o : Int), .int .i64 p1, .int .i64 p2] 29 (0, 0)) := by rw [hw3]; exact heap_alloc_new w2 _
    have hre3 := HRE1.out.below hb3
    have hx := (Re3.badD (w := w) (wk := w3) (A := A) (B := B) hre3 (HB1.out.trans (hb3.mono HB1.out.size)) HAB.out.1 HAB.out.2 (.string ⟨#[]⟩) (.slice none 0 0) (.slice none 0 0) (.string ⟨#[]⟩) (.int .i64 (o : Int)) (.int .i64 p1) (.int .i64 p2))
    simp only [stA, stB] at hx
    have HX1 := Lib.hid hx.1
    have HX2 := Lib.hid hx.2
    clear hx
    have HW3 := Lib.hid hw3
    obtain ⟨⟨a0, a1, a2, a3, b0, b1, b2⟩, ⟨u0, u1, u2, u3, v0, v1, v2⟩, nAB, nBA⟩ := hre3.cells
    have z0 : w3.cell? ⟨w2.heap.size, 0, none⟩ = some (.int .i64 (o : Int)) := by rw [cell_of_row w3 _ 0 _ _ (0, 0) hP3]; rfl
    have z1 : w3.cell? ⟨w2.heap.size, 1, none⟩ = some (.int .i64 p1) := by rw [cell_of_row w3 _ 1 _ _ (0, 0) hP3]; rfl
    have z2 : w3.cell? ⟨w2.heap.size, 2, none⟩ = some (.int .i64 p2) := by rw [cell_of_row w3 _ 2 _ _ (0, 0) hP3]; rfl
    have hAP : ¬ A = w2.heap.size ∧ ¬ B = w2.heap.size := by
      have h1 := (Array.getElem?_eq_some_iff.1 HRE1.out.a).1
      have h2 := (Array.getElem?_eq_some_iff.1 HRE1.out.b).1
      have h3 := hb2.size
      omega
    obtain ⟨nAP, nBP⟩ := hAP
    have nPA : ¬ w2.heap.size = A := fun e => nAP e.symm
    have nPB : ¬ w2.heap.size = B := fun e => nBP e.symm
    clear hw3 hb3 hP3 hre3 hb2
    go_upto_region 3 with fail
    rw [← HW3.out]
    generalize w2.heap.size = P at z0 z1 z2 nAP nBP nPA nPB ⊢
    go_region
    all_goals
      clear a0 a1 a2 a3 b0 b1 b2 u0 u1 u2 u3 v0 v1 v2 z0 z1 z2 nAB nBA nAP nBP nPA nPB
      go_wp2_with fail
      refine bodyPost_ret (build_results _ _ A B (.string ⟨#[]⟩) (.slice none 0 0) (.slice none 0 0) (.string ⟨#[]⟩) (.int .i64 c) (.int .i64 (o : Int)) (.int .i64 p1) (.int .i64 p2) rfl rfl rfl ?hA ?hB) rfl ?hQ
      case hA => first | with_reducible exact HX1.out.1.a | with_reducible exact HX2.out.1.a
      case hB => first | with_reducible exact HX1.out.1.b | with_reducible exact HX2.out.1.b
      case hQ => first | with_reducible exact HFIN.out _ HX1.out.2 | with_reducible exact HFIN.out _ HX2.out.2
  | ok ts r =>
    rw [hM] at hq
    dsimp only at hq
    obtain ⟨tv, rfl, hrd⟩ := hq
    obtain ⟨ta, tc, htv⟩ := RdSl.shape hrd
    rw [List.length_map] at htv
    subst htv
    have HM := Lib.hid (show buildM l = growM l.length ⟨[], none, 0⟩ ts by unfold buildM; rw [hM])
    have HTL := Lib.hid (all_tl hM)
    clear hM
    obtain ⟨w3, hw3⟩ : ∃ w3, w3 = w2.alloc (.cells #[.int .i64 0, .int .i64 0, .int .i64 0] 29) := ⟨_, rfl⟩
    have hb23 : Below w2.heap.size w2 w3 := by rw [hw3]; exact (Below.refl _ _).alloc (Nat.le_refl _) _
    have hre2 := HRE1.out.below hb2
    have hre3 := hre2.below hb23
    obtain ⟨w4, hw4⟩ : ∃ w4, w4 = w3.alloc (.cells #[.slice none 0 0, .pointer none, .int .i64 0] 49) := ⟨_, rfl⟩
    have HG4 := Lib.hid (show GR w3 (OdAB w3 A B) w3.heap.size ⟨[], none, 0⟩ [] (.slice none 0 0) (.pointer none) (OdAB w3 A B) w4 by rw [hw4]; exact GR.start w3 A B)
    have HA3 := Lib.hid (show A < w3.heap.size ∧ B < w3.heap.size from ⟨(Array.getElem?_eq_some_iff.1 hre3.a).1, (Array.getElem?_eq_some_iff.1 hre3.b).1⟩)
    have HRD := Lib.hid hrd
    have HB23 := Lib.hid hb23
    have HRE2 := Lib.hid hre2
    have HRE3 := Lib.hid hre3
    have HW3 := Lib.hid hw3
    have HW4 := Lib.hid hw4
    have HBW3 := Lib.hid (show Below w.heap.size w w3 from HB1.out.trans ((hb2.mono HB1.out.size).trans (hb23.mono (Nat.le_trans HB1.out.size hb2.size))))
    have hlen := RdSl.len hrd
    rw [List.length_map] at hlen
    have hlenI : (ts.length : Int) ≤ 9223372036854775807 := by omega
    clear hrd hw3 hw4 hb23 hre2 hre3 hb2 hlen
    go_upto_region 2 with fail
    rw [← HW3.out]
    go_upto_region 5 with fail
    rw [← HW4.out]
    obtain ⟨G, hG⟩ : ∃ G, G = w3.heap.size := ⟨_, rfl⟩
    rw [← hG] at HG4
    simp only [← hG]
    clear hG
    go_upto_region 6 with fail
    go_loopw [27] (fun i wr => ∃ (q : Nat) (g : Gs) (fs : List Fr) (vo vr : Value) (F : Nat → Prop), q ≤ ts.length ∧ i = .int .i64 q ∧ GR w3 (OdAB w3 A B) G g fs vo vr F wr ∧ TB ((ts.take q).map fun x => x.t.length).sum g ∧ growM l.length g (ts.drop q) = growM l.length ⟨[], none, 0⟩ ts) (fun i _ => ts.length - (intOf i).toNat)
    case atStart => exact ⟨0, _, [], _, _, _, by omega, rfl, HG4.out, (fun u hu => by cases hu), rfl⟩
    case round =>
      clear HG4
      obtain ⟨q, g, fs, vo, vr, F, hq, rfl, hg, htb, hgr⟩ := hrel
      have HG := Lib.hid hg
      have HTB := Lib.hid htb
      have HGR := Lib.hid hgr
      have HBWR := Lib.hid (show Below w2.heap.size w2 wr from HB23.out.trans (hg.b.mono HB23.out.size))
      have HBWW := Lib.hid (show Below w.heap.size w wr from HBW3.out.trans (hg.b.mono HBW3.out.size))
      have hrer := HRE3.out.below hg.b
      have HRER := Lib.hid hrer
      clear htb hgr
      by_cases hlt : q < ts.length
      · obtain ⟨x, hx⟩ : ∃ x, ts[q]? = some x := ⟨_, List.getElem?_eq_getElem hlt⟩
        have HDR := Lib.hid (show ts.drop q = x :: ts.drop (q + 1) by
          rw [List.drop_eq_getElem_cons hlt]
          congr 1
          exact (List.getElem?_eq_some_iff.1 hx).2)
        have HTK := Lib.hid (show ((ts.take (q + 1)).map fun x => x.t.length).sum = ((ts.take q).map fun x => x.t.length).sum + x.t.length by
          rw [take_snoc _ q x hx, List.map_append, List.sum_append]; simp)
        have HTS := Lib.hid (show ((ts.take q).map fun x => x.t.length).sum + x.t.length ≤ 5000000 by
          have h1 := HTL.out
          have h2 : ((ts.take (q + 1)).map fun x => x.t.length).sum ≤ (ts.map fun x => x.t.length).sum := by
            conv => rhs; rw [← List.take_append_drop (q + 1) ts, List.map_append, List.sum_append]
            omega
          rw [HTK.out] at h2
          omega)
        obtain ⟨bb, e1, va, ⟨d0, d1, d2, d3, d4, d5, d6⟩, hats⟩ := RdSl.elem HRD.out (i := q) (x := x.mem l) (by rw [List.getElem?_map, hx]; rfl)
        subst e1
        obtain ⟨k, n, ats, t, o⟩ := x
        simp only [Tk.mem] at d0 d1 d2 d3 d4 d5 d6 hats
        obtain ⟨ya, yc, hya⟩ := RdSl.shape hats
        subst hya
        obtain ⟨p1, hp1⟩ : ∃ p1, p1 = lineS (l.take o) := ⟨_, rfl⟩
        obtain ⟨p2, hp2⟩ : ∃ p2, p2 = colS (l.take o) := ⟨_, rfl⟩
        rw [← hp1] at d5
        rw [← hp2] at d6
        have hc : ∀ {a : Addr} {v : Value}, w2.cell? a = some v → wr.cell? a = some v := fun h => (HBWR.out.cell (World.block_lt_of_cell? w2 _ h)).trans h
        have c0 := hc d0
        have c1 := hc d1
        have c2 := hc d2
        have c3 := hc d3
        have c4 := hc d4
        have c5 := hc d5
        have c6 := hc d6
        obtain ⟨wb, hwb⟩ : ∃ wb, wb = wr.alloc (.cells #[.int .i64 k, .string (str n), .slice ya ats.length yc, .string (str t), .int .i64 (o : Int), .int .i64 p1, .int .i64 p2] 51) := ⟨_, rfl⟩
        have hbb : Below wr.heap.size wr wb := by rw [hwb]; exact (Below.refl _ _).alloc (Nat.le_refl _) _
        have hrow : wb.heap[wr.heap.size]? = some (.cells #[.int .i64 k, .string (str n), .slice ya ats.length yc, .string (str t), .int .i64 (o : Int), .int .i64 p1, .int .i64 p2] 51 (0, 0)) := by rw [hwb]; exact heap_alloc_new wr _
        have hbwb : Below w.heap.size w wb := HBWW.out.trans (hbb.mono HBWW.out.size)
        have hvq : ats ≠ [] → ∀ q, (Value.slice ya ats.length yc).ownBlock = some q → OdAB w3 A B q := fun hn q hq => by
          obtain ⟨h1, h2, h3⟩ := ats_apart HRE2.out hats hn q hq
          exact ⟨Nat.lt_of_lt_of_le h1 HB23.out.size, h2, h3⟩
        have HADD := Lib.hid (gadd_at (hg.below hbb) ⟨k, n, ats, t, o⟩ (.slice ya ats.length yc) (o : Int) p1 p2 (hats.below HB23.out (Nat.le_refl _)) hvq _ HTB.out HTS.out (Utf8Tabs_below HT.out hbwb))
        dsimp only at HADD
        have HREB := Lib.hid (hrer.below hbb)
        have HBWB := Lib.hid hbwb
        have HGB := Lib.hid (hg.below hbb)
        have HFINX := Lib.hid (show ∀ c, buildM l = .bad c o → ∀ w9, Below w.heap.size w w9 → BuildP l w (.returned (.tuple #[.agg #[.string ⟨#[]⟩, .slice none 0 0, .slice none 0 0, .string ⟨#[]⟩], .int .i64 c, .agg #[.int .i64 (o : Int), .int .i64 p1, .int .i64 p2]])) w9 from by
          rw [hp1, hp2]
          exact fun c hM w9 hb => bfin_bad hM hb)
        have HWB := Lib.hid hwb
        have HROW := Lib.hid hrow
        have HKA := Lib.hid (show ¬ A = wr.heap.size ∧ ¬ B = wr.heap.size by
          have h1 := (Array.getElem?_eq_some_iff.1 hrer.a).1
          have h2 := (Array.getElem?_eq_some_iff.1 hrer.b).1
          omega)
        have hqI : (q : Int) < (ts.length : Int) := by omega
        clear d0 d1 d2 d3 d4 d5 d6 hats hp1 hp2 hc hwb hbb hrow hbwb hvq hg hrer hx
        go_upto_region 8 with fail
        rw [← HWB.out]
        have HKB := Lib.hid (show wr.heap.size < wb.heap.size from (Array.getElem?_eq_some_iff.1 HROW.out).1)
        generalize wr.heap.size = KB at HROW HKB HKA ⊢
        clear c0 c1 c2 c3 c4 c5 c6
        have z0 : wb.cell? ⟨KB, 0, none⟩ = some (.int .i64 k) := by rw [cell_of_row wb _ 0 _ _ (0, 0) HROW.out]; rfl
        have z1 : wb.cell? ⟨KB, 1, none⟩ = some (.string (str n)) := by rw [cell_of_row wb _ 1 _ _ (0, 0) HROW.out]; rfl
        have z2 : wb.cell? ⟨KB, 2, none⟩ = some (.slice ya ats.length yc) := by rw [cell_of_row wb _ 2 _ _ (0, 0) HROW.out]; rfl
        have z3 : wb.cell? ⟨KB, 3, none⟩ = some (.string (str t)) := by rw [cell_of_row wb _ 3 _ _ (0, 0) HROW.out]; rfl
        have z4 : wb.cell? ⟨KB, 4, none⟩ = some (.int .i64 (o : Int)) := by rw [cell_of_row wb _ 4 _ _ (0, 0) HROW.out]; rfl
        have z5 : wb.cell? ⟨KB, 5, none⟩ = some (.int .i64 p1) := by rw [cell_of_row wb _ 5 _ _ (0, 0) HROW.out]; rfl
        have z6 : wb.cell? ⟨KB, 6, none⟩ = some (.int .i64 p2) := by rw [cell_of_row wb _ 6 _ _ (0, 0) HROW.out]; rfl
        go_wp2_with fail
        refine HADD.out.mono ?_
        intro e w5 h5
        cases hB : addG g ⟨k, n, ats, t, o⟩ with
        | ok g' =>
          rw [hB] at h5
          obtain ⟨rfl, fs', vo', vr', F', h6⟩ := h5
          have HNEW := Lib.hid h6
          have HT2 := Lib.hid (HTB.out.add HG.out.t0 hB)
          have HG2 := Lib.hid (show growM l.length g' (ts.drop (q + 1)) = growM l.length ⟨[], none, 0⟩ ts by rw [← HGR.out, HDR.out, grow_ok hB])
          clear hB h6 z0 z1 z2 z3 z4 z5 z6
          go_wp2
          go_roundw
          case rel => exact ⟨q + 1, g', fs', vo', vr', F', by omega, by go_num, HNEW.out, by rw [HTK.out]; exact HT2.out, HG2.out⟩
          case measure => simp [intOf]; omega
        | bad c =>
          rw [hB] at h5
          obtain ⟨rfl, hb5⟩ := h5
          have HFIN := Lib.hid (HFINX.out c (by rw [HM.out, ← HGR.out, HDR.out, grow_bad hB]))
          have hc0 : (c == 0) = false := by simpa using add_ne hB
          have hrow5 := (hb5.block KB HKB.out).trans HROW.out
          clear z0 z1 z2 z3 z4 z5 z6 hB
          have z4 : w5.cell? ⟨KB, 4, none⟩ = some (.int .i64 (o : Int)) := by rw [cell_of_row w5 _ 4 _ _ (0, 0) hrow5]; rfl
          have z5 : w5.cell? ⟨KB, 5, none⟩ = some (.int .i64 p1) := by rw [cell_of_row w5 _ 5 _ _ (0, 0) hrow5]; rfl
          have z6 : w5.cell? ⟨KB, 6, none⟩ = some (.int .i64 p2) := by rw [cell_of_row w5 _ 6 _ _ (0, 0) hrow5]; rfl
          have hre5 := HREB.out.below hb5
          have hx := (Re3.badD (w := w) (wk := w5) (A := A) (B := B) hre5 (HBWB.out.trans (hb5.mono HBWB.out.size)) HAB.out.1 HAB.out.2 (.string ⟨#[]⟩) (.slice none 0 0) (.slice none 0 0) (.string ⟨#[]⟩) (.int .i64 (o : Int)) (.int .i64 p1) (.int .i64 p2))
          simp only [stA, stB] at hx
          have HX1 := Lib.hid hx.1
          have HX2 := Lib.hid hx.2
          obtain ⟨⟨a0, a1, a2, a3, b0, b1, b2⟩, ⟨u0, u1, u2, u3, v0, v1, v2⟩, nAB, nBA⟩ := hre5.cells
          obtain ⟨nAP, nBP⟩ := HKA.out
          have nPA : ¬ KB = A := fun e => nAP e.symm
          have nPB : ¬ KB = B := fun e => nBP e.symm
          clear hx hre5 hrow5 hb5
          go_upto_region 10 with fail
          go_region
          all_goals
            clear a0 a1 a2 a3 b0 b1 b2 u0 u1 u2 u3 v0 v1 v2 z4 z5 z6 nAB nBA nAP nBP nPA nPB
            go_wp2_with fail
            refine bodyPost_ret (build_results _ _ A B (.string ⟨#[]⟩) (.slice none 0 0) (.slice none 0 0) (.string ⟨#[]⟩) (.int .i64 c) (.int .i64 (o : Int)) (.int .i64 p1) (.int .i64 p2) rfl rfl rfl ?hA ?hB) rfl ?hQ
            case hA => first | with_reducible exact HX1.out.1.a | with_reducible exact HX2.out.1.a
            case hB => first | with_reducible exact HX1.out.1.b | with_reducible exact HX2.out.1.b
            case hQ => first | with_reducible exact HFIN.out _ HX1.out.2 | with_reducible exact HFIN.out _ HX2.out.2
      · have HEND := Lib.hid (show buildM l = growM l.length g [] by
          rw [HM.out, ← HGR.out, List.drop_of_length_le (by omega)])
        have hle : (ts.length : Int) ≤ q := by omega
        have hobj := hg.obj
        obtain ⟨oa, oc, hvo⟩ := hg.op.shape
        rw [List.length_map, List.length_reverse] at hvo
        subst hvo
        have c0 : wr.cell? ⟨G, 0, none⟩ = some (.slice oa fs.length oc) := by rw [cell_of_row wr G 0 _ _ (0, 0) hobj]; rfl
        have c1 : wr.cell? ⟨G, 1, none⟩ = some vr := by rw [cell_of_row wr G 1 _ _ (0, 0) hobj]; rfl
        obtain ⟨p1, hp1⟩ : ∃ p1, p1 = lineS (l.take l.length) := ⟨_, rfl⟩
        obtain ⟨p2, hp2⟩ : ∃ p2, p2 = colS (l.take l.length) := ⟨_, rfl⟩
        clear hobj hrer hlt hq
        by_cases hf : fs = []
        · have hst : g.st = [] := by rw [← hg.st, hf]; rfl
          have hfl : ¬ (0 : Int) < (fs.length : Int) := by rw [hf]; simp
          have hfl2 : ¬ 0 < fs.length := by rw [hf]; simp
          cases hr : g.root with
          | none =>
            have hvr := hg.rt
            rw [hr] at hvr
            have hvr' : vr = .pointer none := hvr
            subst hvr'
            have HBAD := Lib.hid (show buildM l = .bad 16 l.length by rw [HEND.out, growM, if_neg (by rw [hst]; simp), hr])
            clear hr hst hf hvr hg
            have HFIN := Lib.hid (show ∀ w9, Below w.heap.size w w9 → BuildP l w (.returned (.tuple #[.agg #[.string ⟨#[]⟩, .slice none 0 0, .slice none 0 0, .string ⟨#[]⟩], .int .i64 16, .agg #[.int .i64 (l.length : Int), .int .i64 p1, .int .i64 p2]])) w9 from by
              rw [hp1, hp2]
              exact fun w9 hb => bfin_bad HBAD.out hb)
            have hplace : placeV (str l).data.toList l.length = .agg #[.int .i64 (l.length : Int), .int .i64 p1, .int .i64 p2] := by rw [hp1, hp2]; rfl
            have hsz : ((str l).size : Int) = (l.length : Int) := by rw [size_str]
            have HPL := Lib.hid hplace
            clear hp1 hp2 hplace
            go_upto_region 15 with fail
            go_wp2_with fail
            refine (HAT.out wr).mono ?_
            rintro e w6 ⟨rfl, hb6⟩
            rw [HPL.out]
            have hre6 := HRER.out.below hb6
            have hx := (Re3.bad (w := w) (wk := w6) (A := A) (B := B) hre6 (HBWW.out.trans (hb6.mono HBWW.out.size)) HAB.out.1 HAB.out.2 (.string ⟨#[]⟩) (.slice none 0 0) (.slice none 0 0) (.string ⟨#[]⟩) (.int .i64 (l.length : Int)) (.int .i64 p1) (.int .i64 p2))
            simp only [stA, stB] at hx
            have HX1 := Lib.hid hx.1
            have HX2 := Lib.hid hx.2
            obtain ⟨⟨a0, a1, a2, a3, b0, b1, b2⟩, ⟨u0, u1, u2, u3, v0, v1, v2⟩, nAB, nBA⟩ := hre6.cells
            clear hx hre6 hb6
            go_wp2_with fail
            refine bodyPost_ret (build_results _ _ A B (.string ⟨#[]⟩) (.slice none 0 0) (.slice none 0 0) (.string ⟨#[]⟩) (.int .i64 16) (.int .i64 (l.length : Int)) (.int .i64 p1) (.int .i64 p2) rfl rfl rfl ?hA ?hB) rfl ?hQ
            case hA => first | with_reducible exact HX1.out.1.a | with_reducible exact HX2.out.1.a
            case hB => first | with_reducible exact HX1.out.1.b | with_reducible exact HX2.out.1.b
            case hQ => first | with_reducible exact HFIN.out _ HX1.out.2 | with_reducible exact HFIN.out _ HX2.out.2
          | some tr =>
            have hvr := hg.rt
            rw [hr] at hvr
            obtain ⟨R, va, vk, rfl, hFR, hrow, hnv⟩ := hvr
            obtain ⟨xa, xc, hxa⟩ := hnv.ats.shape
            obtain ⟨xk, xkc, hxk⟩ := hnv.rd.shape
            subst hxa
            subst hxk
            have HOK := Lib.hid (show buildM l = .ok tr by rw [HEND.out, growM, if_neg (by rw [hst]; simp), hr])
            have y0 : wr.cell? ⟨R, 0, none⟩ = some (.string (str tr.n)) := by rw [cell_of_row wr R 0 _ _ (0, 0) hrow]; rfl
            have y1 : wr.cell? ⟨R, 1, none⟩ = some (.slice xa tr.ats.length xc) := by rw [cell_of_row wr R 1 _ _ (0, 0) hrow]; rfl
            have y2 : wr.cell? ⟨R, 2, none⟩ = some (.slice xk tr.ks.length xkc) := by rw [cell_of_row wr R 2 _ _ (0, 0) hrow]; rfl
            have y3 : wr.cell? ⟨R, 3, none⟩ = some (.string (str tr.t)) := by rw [cell_of_row wr R 3 _ _ (0, 0) hrow]; rfl
            have HNV := Lib.hid hnv
            obtain ⟨w9, hw9⟩ : ∃ w9, w9 = stB (stA wr A (.string (str tr.n)) (.slice xa tr.ats.length xc) (.slice xk tr.ks.length xkc) (.string (str tr.t))) B (.int .i64 0) (.int .i64 0) (.int .i64 0) := ⟨_, rfl⟩
            have hm9 : Mvd [A, B] wr w9 := by
              rw [hw9]
              exact ((stA_mvd wr A _ _ _ _).mono (fun k hk => by rw [List.mem_singleton.1 hk]; simp)).trans ((stB_mvd _ B _ _ _).mono fun k hk => by rw [List.mem_singleton.1 hk]; simp)
            have hx := ((HRER.out.bad (w := w) HBWW.out HAB.out.1 HAB.out.2 (.string (str tr.n)) (.slice xa tr.ats.length xc) (.slice xk tr.ks.length xkc) (.string (str tr.t)) (.int .i64 0) (.int .i64 0) (.int .i64 0))).1
            rw [← hw9] at hx
            have HFIN := Lib.hid (bfin_ok hg HA3.out.1 HA3.out.2 HOK.out hnv hm9 hx.2)
            have HX := Lib.hid hx.1
            have hw9' := hw9
            simp only [stA, stB] at hw9'
            have HW9 := Lib.hid hw9'
            clear hw9'
            obtain ⟨⟨a0, a1, a2, a3, b0, b1, b2⟩, ⟨u0, u1, u2, u3, v0, v1, v2⟩, nAB, nBA⟩ := HRER.out.cells
            have nRA : ¬ A = R ∧ ¬ B = R := by
              obtain ⟨h1, h2⟩ := hg.apart HA3.out.1 HA3.out.2 R hFR
              exact ⟨fun e => h1 e.symm, fun e => h2 e.symm⟩
            obtain ⟨nR1, nR2⟩ := nRA
            have nR3 : ¬ R = A := fun e => nR1 e.symm
            have nR4 : ¬ R = B := fun e => nR2 e.symm
            clear hr hst hf hg hrow hnv hFR hw9 hm9 hx hp1 hp2
            go_upto_region 16 with fail
            go_wp2_with fail
            rw [← HW9.out]
            refine bodyPost_ret (build_results _ _ A B (.string (str tr.n)) (.slice xa tr.ats.length xc) (.slice xk tr.ks.length xkc) (.string (str tr.t)) (.int .i64 0) (.int .i64 0) (.int .i64 0) (.int .i64 0) rfl rfl rfl HX.out.a HX.out.b) rfl ?_
            exact HFIN.out
        · have hst : g.st ≠ [] := by rw [← hg.st]; simpa using hf
          have hfl : (0 : Int) < (fs.length : Int) := by
            have := List.length_pos_iff.2 hf
            omega
          have HBAD := Lib.hid (show buildM l = .bad 13 l.length by rw [HEND.out, growM, if_pos hst])
          clear hst hf hg
          have HFIN := Lib.hid (show ∀ w9, Below w.heap.size w w9 → BuildP l w (.returned (.tuple #[.agg #[.string ⟨#[]⟩, .slice none 0 0, .slice none 0 0, .string ⟨#[]⟩], .int .i64 13, .agg #[.int .i64 (l.length : Int), .int .i64 p1, .int .i64 p2]])) w9 from by
            rw [hp1, hp2]
            exact fun w9 hb => bfin_bad HBAD.out hb)
          have hplace : placeV (str l).data.toList l.length = .agg #[.int .i64 (l.length : Int), .int .i64 p1, .int .i64 p2] := by rw [hp1, hp2]; rfl
          have hsz : ((str l).size : Int) = (l.length : Int) := by rw [size_str]
          have HPL := Lib.hid hplace
          clear hp1 hp2 hplace
          go_upto_region 13 with fail
          go_wp2_with fail
          refine (HAT.out wr).mono ?_
          rintro e w6 ⟨rfl, hb6⟩
          rw [HPL.out]
          have hre6 := HRER.out.below hb6
          have hx := (Re3.bad (w := w) (wk := w6) (A := A) (B := B) hre6 (HBWW.out.trans (hb6.mono HBWW.out.size)) HAB.out.1 HAB.out.2 (.string ⟨#[]⟩) (.slice none 0 0) (.slice none 0 0) (.string ⟨#[]⟩) (.int .i64 (l.length : Int)) (.int .i64 p1) (.int .i64 p2))
          simp only [stA, stB] at hx
          have HX1 := Lib.hid hx.1
          have HX2 := Lib.hid hx.2
          obtain ⟨⟨a0, a1, a2, a3, b0, b1, b2⟩, ⟨u0, u1, u2, u3, v0, v1, v2⟩, nAB, nBA⟩ := hre6.cells
          clear hx hre6 hb6
          go_wp2_with fail
          refine bodyPost_ret (build_results _ _ A B (.string ⟨#[]⟩) (.slice none 0 0) (.slice none 0 0) (.string ⟨#[]⟩) (.int .i64 13) (.int .i64 (l.length : Int)) (.int .i64 p1) (.int .i64 p2) rfl rfl rfl ?hA ?hB) rfl ?hQ
          case hA => first | with_reducible exact HX1.out.1.a | with_reducible exact HX2.out.1.a
          case hB => first | with_reducible exact HX1.out.1.b | with_reducible exact HX2.out.1.b
          case hQ => first | with_reducible exact HFIN.out _ HX1.out.2 | with_reducible exact HFIN.out _ HX2.out.2
end Go.Proofs.YtpbkidmdfibaoaaGreatDoor
