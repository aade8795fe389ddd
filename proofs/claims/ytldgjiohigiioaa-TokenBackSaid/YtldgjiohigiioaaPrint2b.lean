/-
  Layer 2: contracts of printOne and Print. Own work.
-/
import Derived.Test.YtldgjiohigiioaaPrint2
import Derived.Test.YtldgjiohigiioaaLives2
namespace Go.Proofs.Ytldgjiohigiioaa
set_option linter.unusedVariables false
set_option linter.unusedSimpArgs false
open Go.RowKit

theorem cat_3 (a z n : List UInt8) : ((⟨a.toArray⟩ : ByteArray) ++ str n) ++ ⟨z.toArray⟩ = str (a ++ (n ++ z)) := by
  show (str a ++ str n) ++ str z = _
  rw [app_str, app_str, List.append_assoc]
set_option maxRecDepth 100000 in
set_option maxHeartbeats 8000000 in
theorem printOne_at (B b : Nat) (acc n t : List UInt8) (k p0 p1 p2 : Int) (va : Value) (L : List At2) (w0 w : World) (hw0 : w0.heap.size ≤ B) (hb0 : Below w0.heap.size w0 w) (hr : RdAs w0 va L) (hv : ∀ p ∈ L, p.2.length ≤ 2000000) (ht : t.length ≤ 2000000)
    (hsz : acc.length + (prT k n L t).length ≤ 100000000) (hB : B ≤ w.heap.size) (hbd : Bld B b acc w) :
    Calls Try.prog 32 #[.pointer (some ⟨b, 0, none⟩), .agg #[.int .i64 k, .string (str n), va, .string (str t), .int .i64 p0, .int .i64 p1, .int .i64 p2]] w
      fun e w' => e = .returned (.tuple #[]) ∧ Bld B b (acc ++ prT k n L t) w' ∧ Below B w w' := by
  obtain ⟨aa, ac, hva⟩ := RdSl.shape hr
  subst hva
  obtain ⟨wT, hwT⟩ : ∃ wT, wT = w.alloc (.cells #[.int .i64 k, .string (str n), .slice aa L.length ac, .string (str t), .int .i64 p0, .int .i64 p1, .int .i64 p2] 34) := ⟨_, rfl⟩
  have hbT : Below w.heap.size w wT := by rw [hwT]; exact (Below.refl _ _).alloc (Nat.le_refl _) _
  have hrow : wT.heap[w.heap.size]? = some (.cells #[.int .i64 k, .string (str n), .slice aa L.length ac, .string (str t), .int .i64 p0, .int .i64 p1, .int .i64 p2] 34 (0, 0)) := by rw [hwT]; exact heap_alloc_new w _
  have HBD := Lib.hid (hbd.below hbT)
  have HBT := Lib.hid (hbT.mono hB)
  have HBS := Lib.hid (Nat.le_trans hB hbT.size)
  have HWT := Lib.hid hwT
  have HPT := Lib.hid (fun E hE => printTag_at B b acc E n t k p0 p1 p2 (.slice aa L.length ac) L w0 wT hw0 (hb0.trans (hbT.mono hb0.size)) hr hv hE (Nat.le_trans hB hbT.size) (hbd.below hbT))
  have HSZ := Lib.hid hsz
  have z0 : wT.cell? ⟨w.heap.size, 0, none⟩ = some (.int .i64 k) := by rw [cell_of_row wT _ 0 _ _ (0, 0) hrow]; rfl
  have z1 : wT.cell? ⟨w.heap.size, 1, none⟩ = some (.string (str n)) := by rw [cell_of_row wT _ 1 _ _ (0, 0) hrow]; rfl
  have z2 : wT.cell? ⟨w.heap.size, 2, none⟩ = some (.slice aa L.length ac) := by rw [cell_of_row wT _ 2 _ _ (0, 0) hrow]; rfl
  have z3 : wT.cell? ⟨w.heap.size, 3, none⟩ = some (.string (str t)) := by rw [cell_of_row wT _ 3 _ _ (0, 0) hrow]; rfl
  have z4 : wT.cell? ⟨w.heap.size, 4, none⟩ = some (.int .i64 p0) := by rw [cell_of_row wT _ 4 _ _ (0, 0) hrow]; rfl
  have z5 : wT.cell? ⟨w.heap.size, 5, none⟩ = some (.int .i64 p1) := by rw [cell_of_row wT _ 5 _ _ (0, 0) hrow]; rfl
  have z6 : wT.cell? ⟨w.heap.size, 6, none⟩ = some (.int .i64 p2) := by rw [cell_of_row wT _ 6 _ _ (0, 0) hrow]; rfl
  have HES := Lib.hid (fun w => EscB false (str t) (by rw [size_str]; exact ht) w)
  rw [toList_str] at HES
  clear hw0 hb0 hr hv hB hbd hrow hbT hwT ht hsz
  go_enter Try.func32, Try.ntmps32
  go_upto_region 1 with fail
  rw [← HWT.out]
  by_cases k5 : k = 5
  · have q5 : (k == 5) = true := by rw [k5]; rfl
    have HP := Lib.hid (show prT k n L t = [60, 33, 45, 45] ++ (t ++ [45, 45, 62]) by rw [k5]; rfl)
    have hs1 := HSZ.out
    rw [HP.out] at hs1
    have htI : ((str t).size : Int) ≤ 100000000 := by rw [size_str]; simp only [List.length_append] at hs1; omega
    have HW := Lib.hid (bu_writeString B b acc (str ([60, 33, 45, 45] ++ (t ++ [45, 45, 62]))) wT HBD.out (by rw [size_str]; omega) HBS.out)
    have HC := Lib.hid (cat_3 [60, 33, 45, 45] [45, 45, 62] t)
    clear k5 hs1
    go_wp2_with fail
    rw [HC.out]
    refine HW.out.mono ?_
    rintro e w3 ⟨rfl, hbd3, hb3⟩
    have HBD3 := Lib.hid hbd3
    have HB3 := Lib.hid (HBT.out.trans hb3)
    clear hbd3 hb3
    go_wp2
    go_end0
    exact ⟨rfl, by rw [HP.out]; exact HBD3.out, HB3.out⟩
  have q5 : (k == 5) = false := by simpa using k5
  by_cases k6 : k = 6
  · have q6 : (k == 6) = true := by rw [k6]; rfl
    have HP := Lib.hid (show prT k n L t = [60, 63, 120, 109, 108] ++ (t ++ [63, 62]) by rw [k6]; rfl)
    have hs1 := HSZ.out
    rw [HP.out] at hs1
    have htI : ((str t).size : Int) ≤ 100000000 := by rw [size_str]; simp only [List.length_append] at hs1; omega
    have HW := Lib.hid (bu_writeString B b acc (str ([60, 63, 120, 109, 108] ++ (t ++ [63, 62]))) wT HBD.out (by rw [size_str]; omega) HBS.out)
    have HC := Lib.hid (cat_3 [60, 63, 120, 109, 108] [63, 62] t)
    clear k5 k6 hs1
    go_wp2_with fail
    rw [HC.out]
    refine HW.out.mono ?_
    rintro e w3 ⟨rfl, hbd3, hb3⟩
    have HBD3 := Lib.hid hbd3
    have HB3 := Lib.hid (HBT.out.trans hb3)
    clear hbd3 hb3
    go_wp2
    go_end0
    exact ⟨rfl, by rw [HP.out]; exact HBD3.out, HB3.out⟩
  have q6 : (k == 6) = false := by simpa using k6
  by_cases k4 : k = 4
  · have q4 : (k == 4) = true := by rw [k4]; rfl
    have HP := Lib.hid (show prT k n L t = escS false t by rw [k4]; rfl)
    have hs1 := HSZ.out
    rw [HP.out] at hs1
    have HW := Lib.hid (fun w1 (hb : Below wT.heap.size wT w1) => bu_writeString B b acc (str (escS false t)) w1 (HBD.out.below hb) (by rw [size_str]; omega) (Nat.le_trans HBS.out hb.size))
    clear k4 k5 k6 hs1
    go_wp2_with fail
    refine (HES.out _).mono ?_
    rintro e w2 ⟨rfl, hb2⟩
    have HB2 := Lib.hid hb2
    clear hb2
    go_wp2_with fail
    refine (HW.out _ HB2.out).mono ?_
    rintro e w3 ⟨rfl, hbd3, hb3⟩
    have HBD3 := Lib.hid hbd3
    have HB3 := Lib.hid (HBT.out.trans ((HB2.out.mono HBS.out).trans hb3))
    clear hbd3 hb3
    go_wp2
    go_end0
    exact ⟨rfl, by rw [HP.out]; exact HBD3.out, HB3.out⟩
  have q4 : (k == 4) = false := by simpa using k4
  by_cases k3 : k = 3
  · have q3 : (k == 3) = true := by rw [k3]; rfl
    have HP := Lib.hid (show prT k n L t = [60, 47] ++ (n ++ [62]) by rw [k3]; rfl)
    have hs1 := HSZ.out
    rw [HP.out] at hs1
    have htI : ((str n).size : Int) ≤ 100000000 := by rw [size_str]; simp only [List.length_append] at hs1; omega
    have HW := Lib.hid (bu_writeString B b acc (str ([60, 47] ++ (n ++ [62]))) wT HBD.out (by rw [size_str]; omega) HBS.out)
    have HC := Lib.hid (cat_3 [60, 47] [62] n)
    clear k3 k4 k5 k6 hs1
    go_wp2_with fail
    rw [HC.out]
    refine HW.out.mono ?_
    rintro e w3 ⟨rfl, hbd3, hb3⟩
    have HBD3 := Lib.hid hbd3
    have HB3 := Lib.hid (HBT.out.trans hb3)
    clear hbd3 hb3
    go_wp2
    go_end0
    exact ⟨rfl, by rw [HP.out]; exact HBD3.out, HB3.out⟩
  have q3 : (k == 3) = false := by simpa using k3
  by_cases k1 : k = 1
  · have q1 : (k == 1) = true := by rw [k1]; rfl
    have HP := Lib.hid (show prT k n L t = tagP n L ++ [62] by rw [k1]; rfl)
    have hs1 := HSZ.out
    rw [HP.out, List.length_append] at hs1
    have HW := Lib.hid (HPT.out [62] (by omega))
    clear k1 k3 k4 k5 k6 hs1
    go_wp2_with fail
    refine HW.out.mono ?_
    rintro e w3 ⟨rfl, hbd3, hb3⟩
    have HBD3 := Lib.hid hbd3
    have HB3 := Lib.hid (HBT.out.trans hb3)
    clear hbd3 hb3
    go_wp2
    go_end0
    exact ⟨rfl, by rw [HP.out, ← List.append_assoc]; exact HBD3.out, HB3.out⟩
  have q1 : (k == 1) = false := by simpa using k1
  by_cases k2 : k = 2
  · have q2 : (k == 2) = true := by rw [k2]; rfl
    have HP := Lib.hid (show prT k n L t = tagP n L ++ [47, 62] by rw [k2]; rfl)
    have hs1 := HSZ.out
    rw [HP.out, List.length_append] at hs1
    have HW := Lib.hid (HPT.out [47, 62] (by omega))
    clear k1 k2 k3 k4 k5 k6 hs1
    go_wp2_with fail
    refine HW.out.mono ?_
    rintro e w3 ⟨rfl, hbd3, hb3⟩
    have HBD3 := Lib.hid hbd3
    have HB3 := Lib.hid (HBT.out.trans hb3)
    clear hbd3 hb3
    go_wp2
    go_end0
    exact ⟨rfl, by rw [HP.out, ← List.append_assoc]; exact HBD3.out, HB3.out⟩
  have q2 : (k == 2) = false := by simpa using k2
  have HP := Lib.hid (show prT k n L t = [] by unfold prT; rw [if_neg k5, if_neg k6, if_neg k4, if_neg k3, if_neg k1, if_neg k2])
  clear k1 k2 k3 k4 k5 k6
  go_wp2
  go_end0
  exact ⟨rfl, by rw [HP.out, List.append_nil]; exact HBD.out, HBT.out⟩
theorem prM_snoc (l : List Tm) (q : Nat) (x : Tm) (h : l[q]? = some x) : prM (l.take (q + 1)) = prM (l.take q) ++ prT x.k x.n x.ats x.t := by rw [take_snoc _ q x h]; simp [prM]
theorem prM_le (l : List Tm) (q : Nat) : (prM (l.take q)).length ≤ (prM l).length := by
  conv => rhs; rw [← List.take_append_drop q l]
  unfold prM
  rw [List.flatMap_append, List.length_append]
  omega
set_option maxRecDepth 100000 in
set_option maxHeartbeats 8000000 in
theorem Print_any (v : Value) (l : List Tm) (w : World) (hr : RdTs w v l) (hx : ∀ x ∈ l, x.t.length ≤ 2000000 ∧ ∀ p ∈ x.ats, p.2.length ≤ 2000000) (hsz : (prM l).length ≤ 100000000) :
    Calls Try.prog 17 #[v] w fun e w' => e = .returned (.string (str (prM l))) ∧ Below w.heap.size w w' := by
  obtain ⟨va, vc, hv⟩ := RdSl.shape hr
  subst hv
  have hla := RdSl.len hr
  have hlaI : (l.length : Int) ≤ 9223372036854775807 := by omega
  obtain ⟨w1, hw1⟩ : ∃ w1, w1 = w.alloc (.cells #[.pointer none, .slice none 0 0] 67) := ⟨_, rfl⟩
  have hb1 : Below w.heap.size w w1 := by rw [hw1]; exact (Below.refl _ _).alloc (Nat.le_refl _) _
  have HBD := Lib.hid (show Bld w.heap.size w.heap.size [] w1 by rw [hw1]; exact .inl ⟨Nat.le_refl _, _, heap_alloc_new w _, World.ownsRow_nil _ _ _ _, by simp [Value.ownBlock]⟩)
  have HB1 := Lib.hid hb1
  have HR := Lib.hid hr
  have HX := Lib.hid hx
  have HSZ := Lib.hid hsz
  have HW1 := Lib.hid hw1
  clear hr hx hsz hb1 hw1 hla
  go_enter Try.func17, Try.ntmps17
  go_upto_region 2 with fail
  rw [← HW1.out]
  go_wp2_with fail
  go_loopw [8] (fun i wr => ∃ q : Nat, q ≤ l.length ∧ i = .int .i64 q ∧ Bld w.heap.size w.heap.size (prM (l.take q)) wr ∧ Below w.heap.size w wr) (fun i _ => l.length - (intOf i).toNat)
  case atStart => exact ⟨0, by omega, rfl, HBD.out, HB1.out⟩
  case round =>
    obtain ⟨q, hq, rfl, hbdr, hbr⟩ := hrel
    have HBDR := Lib.hid hbdr
    have HBR := Lib.hid hbr
    clear hbdr hbr
    by_cases hlt : q < l.length
    · obtain ⟨x, hx⟩ : ∃ x, l[q]? = some x := ⟨_, List.getElem?_eq_getElem hlt⟩
      have HXX := Lib.hid hx
      have hxx := HX.out _ (List.mem_of_getElem? hx)
      obtain ⟨bb, e1, ta, ⟨x0, x1, x2, x3, x4, x5, x6⟩, hats⟩ := RdSl.elem (HR.out.below HBR.out (Nat.le_refl _)) hx
      subst e1
      obtain ⟨k, n, ats, t, p0, p1, p2⟩ := x
      dsimp only at x0 x1 x2 x3 x4 x5 x6 hats hxx
      obtain ⟨bb0, e1, ta0, ⟨_, _, y2, _, _, _, _⟩, hats0⟩ := RdSl.elem HR.out hx
      obtain rfl : bb = bb0 := Option.some.inj e1
      have hta : ta0 = ta := by
        have h2 := (HBR.out.cell (World.block_lt_of_cell? w _ y2)).trans y2
        rw [x2] at h2
        exact (Option.some.inj h2).symm
      subst hta
      obtain ⟨ua, uc, hua⟩ := RdSl.shape hats0
      subst hua
      obtain ⟨wb, hwb⟩ : ∃ wb, wb = wr.alloc (.cells #[.int .i64 k, .string (str n), .slice ua ats.length uc, .string (str t), .int .i64 p0, .int .i64 p1, .int .i64 p2] 34) := ⟨_, rfl⟩
      have hbb : Below wr.heap.size wr wb := by rw [hwb]; exact (Below.refl _ _).alloc (Nat.le_refl _) _
      have hrow : wb.heap[wr.heap.size]? = some (.cells #[.int .i64 k, .string (str n), .slice ua ats.length uc, .string (str t), .int .i64 p0, .int .i64 p1, .int .i64 p2] 34 (0, 0)) := by rw [hwb]; exact heap_alloc_new wr _
      have HBWB := Lib.hid (HBR.out.trans (hbb.mono HBR.out.size))
      have hlen : (prM (l.take q)).length + (prT k n ats t).length ≤ 100000000 := by
        have h1 := prM_le l (q + 1)
        rw [prM_snoc l q _ hx, List.length_append] at h1
        have := HSZ.out
        dsimp only at h1
        omega
      have HPO := Lib.hid (printOne_at w.heap.size w.heap.size (prM (l.take q)) n t k p0 p1 p2 (.slice ua ats.length uc) ats w wb (Nat.le_refl _) HBWB.out hats0 hxx.2 hxx.1 hlen HBWB.out.size (HBDR.out.below hbb))
      have HWB := Lib.hid hwb
      have hqI : (q : Int) < (l.length : Int) := by omega
      clear hbb hwb hx hats hats0 hxx hlen y2 e1
      go_upto_region 5 with fail
      rw [← HWB.out]
      generalize wr.heap.size = KB at hrow ⊢
      clear x0 x1 x2 x3 x4 x5 x6
      have z0 : wb.cell? ⟨KB, 0, none⟩ = some (.int .i64 k) := by rw [cell_of_row wb _ 0 _ _ (0, 0) hrow]; rfl
      have z1 : wb.cell? ⟨KB, 1, none⟩ = some (.string (str n)) := by rw [cell_of_row wb _ 1 _ _ (0, 0) hrow]; rfl
      have z2 : wb.cell? ⟨KB, 2, none⟩ = some (.slice ua ats.length uc) := by rw [cell_of_row wb _ 2 _ _ (0, 0) hrow]; rfl
      have z3 : wb.cell? ⟨KB, 3, none⟩ = some (.string (str t)) := by rw [cell_of_row wb _ 3 _ _ (0, 0) hrow]; rfl
      have z4 : wb.cell? ⟨KB, 4, none⟩ = some (.int .i64 p0) := by rw [cell_of_row wb _ 4 _ _ (0, 0) hrow]; rfl
      have z5 : wb.cell? ⟨KB, 5, none⟩ = some (.int .i64 p1) := by rw [cell_of_row wb _ 5 _ _ (0, 0) hrow]; rfl
      have z6 : wb.cell? ⟨KB, 6, none⟩ = some (.int .i64 p2) := by rw [cell_of_row wb _ 6 _ _ (0, 0) hrow]; rfl
      clear hrow
      go_wp2_with fail
      refine HPO.out.mono ?_
      rintro e w3 ⟨rfl, hbd3, hb3⟩
      have HBD3 := Lib.hid hbd3
      have HB3 := Lib.hid (HBWB.out.trans hb3)
      clear hbd3 hb3 z0 z1 z2 z3 z4 z5 z6
      go_wp2
      go_roundw
      case rel => exact ⟨q + 1, by omega, by go_num, by rw [prM_snoc l q _ HXX.out]; exact HBD3.out, HB3.out⟩
      case measure => simp [intOf]; omega
    · have hle : (l.length : Int) ≤ q := by omega
      have HTA := Lib.hid (show l.take q = l from List.take_of_length_le (by omega))
      have HST := Lib.hid (Try.Builder_String_any w.heap.size w.heap.size _ _ HBDR.out HBR.out.size)
      go_wp2_with fail
      refine HST.out.mono ?_
      rintro e w4 ⟨rfl, hb4⟩
      have HB4 := Lib.hid (HBR.out.trans hb4)
      clear hb4
      go_wp2
      go_ret
      exact ⟨ret_str (by rw [HTA.out]; rfl), HB4.out⟩
end Go.Proofs.Ytldgjiohigiioaa
