/-
  Layer 10: the answer's Under. Own work.
-/
import Derived.Test.YtjkmmmmbdfcnbaaPut10
import Derived.Test.YtjkmmmmbdfcnbaaRowD10
namespace Go.Proofs.Ytjkmmmmbdfcnbaa
set_option linter.unusedVariables false
set_option linter.unusedSimpArgs false
open Go.RowKit

def underL (l m : List Dp) : List Dp := l ++ m.filter fun d => !(hasK l (keyD d))
theorem under_step {l m : List Dp} {k : Nat} {d : Dp} (hd : m[k]? = some d) : (m.take (k + 1)).filter (fun d => !(hasK l (keyD d))) = (m.take k).filter (fun d => !(hasK l (keyD d))) ++ if hasK l (keyD d) = true then [] else [d] := by
  rw [List.take_add_one, hd, List.filter_append]
  congr 1
  cases h : hasK l (keyD d) <;> simp [h]
def UnP (l m : List Dp) (w0 w : World) (e : Ending) (w' : World) : Prop := ∃ v, e = .returned v ∧ DsK w0 w.heap.size w' v (underL l m) ∧ Below w.heap.size w w'
set_option maxRecDepth 100000 in
set_option maxHeartbeats 8000000 in
theorem refUnder_any (l m : List Dp) (va vb : Value) (w0 w : World) (ha : RdDs w0 va l) (hb : RdDs w0 vb m) (h0 : Below w0.heap.size w0 w) (hl : l.length ≤ 10000) (hm : m.length ≤ 10000) :
    Calls Try.prog 18 #[va, vb] w (UnP l m w0 w) := by
  obtain ⟨aa, ac, rfl⟩ := RdSl.shape ha
  obtain ⟨ba, bc, rfl⟩ := RdSl.shape hb
  have hlI : (l.length : Int) ≤ 10000 := by omega
  have hmI : (m.length : Int) ≤ 10000 := by omega
  obtain ⟨ps, hps, hraw0, hxs⟩ := RdDs.raw ha
  have hraw := hraw0.below h0 (Nat.le_refl _)
  clear hraw0
  have hpl : ps.length = l.length := by rw [← hps, List.length_map]
  have HA := Lib.hid (ha.below h0 (Nat.le_refl _))
  have HB := Lib.hid (hb.below h0 (Nat.le_refl _))
  have HB0 := Lib.hid hb
  have H0 := Lib.hid h0
  clear h0
  have HPS := Lib.hid hps
  have HXS := Lib.hid hxs
  clear ha hb hps hxs
  go_enter Try.func18, Try.ntmps18
  go_wp2_with (at_builtin
               refine wpList_copy rfl _ _ rfl Try.underlying25 dep_info rfl (by decide) w (.slice aa l.length ac) l.length (rowD ps) rfl rfl hraw (by omega) (by omega) ?_)
  intro v2 w2 hown hb2
  rw [← hpl] at hown
  have HOWN := Lib.hid hown
  have HB2 := Lib.hid hb2
  clear hown hb2 hraw
  go_wp2_with fail
  go_loopw [5, 13] (fun v i wr => ∃ (k : Nat) (qs : List (Dp × Value)), k ≤ m.length ∧ i = .int .i64 k ∧ qs.length ≤ l.length + k ∧ qs.map (·.1) = l ++ (m.take k).filter (fun d => !(hasK l (keyD d))) ∧ wr.ownsRow w.heap.size 34 8 v qs.length (rowD qs) ∧ (∀ p ∈ qs, RdXs w0 p.2 p.1.ex) ∧ Below w.heap.size w wr) (fun _ i _ => m.length - (intOf i).toNat)
  case atStart => exact ⟨0, ps, by omega, rfl, by omega, by simpa using HPS.out, HOWN.out, HXS.out, HB2.out⟩
  case round =>
    obtain ⟨k, qs, hk, rfl, hql, hqs, hown, hxs, hbw⟩ := hrel
    have HQS := Lib.hid hqs
    have HOW := Lib.hid hown
    have HXQ := Lib.hid hxs
    have HBW := Lib.hid hbw
    clear hqs hxs
    by_cases hlt : k < m.length
    · obtain ⟨d, hd⟩ : ∃ d, m[k]? = some d := ⟨_, List.getElem?_eq_getElem hlt⟩
      obtain ⟨a1, e1, ex, p0, rx⟩ := RdSl.elem HB0.out hd
      subst e1
      obtain ⟨xa, xc, rfl⟩ := RdSl.shape rx
      obtain ⟨c0, c1, c2, c3, c4, c5, c6, c7⟩ := DpC.below p0 (H0.out.trans (hbw.mono H0.out.size))
      clear p0
      have hbb : Below wr.heap.size wr (wr.alloc (.cells #[.string d.g, .string d.a, .string d.v, .string d.t, .string d.c, .int .i64 d.sc, .int .i64 d.op, .slice xa d.ex.length xc] 34)) := (Below.refl _ _).alloc (Nat.le_refl _) _
      have hnew := heap_alloc_new wr (.cells #[.string d.g, .string d.a, .string d.v, .string d.t, .string d.c, .int .i64 d.sc, .int .i64 d.op, .slice xa d.ex.length xc] 34)
      have HBB := Lib.hid hbb
      have HST := Lib.hid (under_step (l := l) hd)
      have HRX := Lib.hid rx
      clear hbw hbb hd rx hown
      go_upto_region 5 with fail
      generalize wr.alloc (.cells #[.string d.g, .string d.a, .string d.v, .string d.t, .string d.c, .int .i64 d.sc, .int .i64 d.op, .slice xa d.ex.length xc] 34) = wb at hnew HBB ⊢
      obtain ⟨KB, hKB⟩ : ∃ b, b = wr.heap.size := ⟨_, rfl⟩
      rw [← hKB] at hnew ⊢
      clear hKB
      have HN := Lib.hid hnew
      have r0 : wb.cell? ⟨KB, 0, none⟩ = some (.string d.g) := by rw [cell_of_row wb KB 0 _ _ (0, 0) hnew]; rfl
      have r1 : wb.cell? ⟨KB, 1, none⟩ = some (.string d.a) := by rw [cell_of_row wb KB 1 _ _ (0, 0) hnew]; rfl
      have r2 : wb.cell? ⟨KB, 2, none⟩ = some (.string d.v) := by rw [cell_of_row wb KB 2 _ _ (0, 0) hnew]; rfl
      have r3 : wb.cell? ⟨KB, 3, none⟩ = some (.string d.t) := by rw [cell_of_row wb KB 3 _ _ (0, 0) hnew]; rfl
      have r4 : wb.cell? ⟨KB, 4, none⟩ = some (.string d.c) := by rw [cell_of_row wb KB 4 _ _ (0, 0) hnew]; rfl
      have r5 : wb.cell? ⟨KB, 5, none⟩ = some (.int .i64 d.sc) := by rw [cell_of_row wb KB 5 _ _ (0, 0) hnew]; rfl
      have r6 : wb.cell? ⟨KB, 6, none⟩ = some (.int .i64 d.op) := by rw [cell_of_row wb KB 6 _ _ (0, 0) hnew]; rfl
      have r7 : wb.cell? ⟨KB, 7, none⟩ = some (.slice xa d.ex.length xc) := by rw [cell_of_row wb KB 7 _ _ (0, 0) hnew]; rfl
      have hop := refKey_any d (.slice xa d.ex.length xc) wb ⟨_, _, rfl⟩
      unfold dpV at hop
      have HOP := Lib.hid hop
      clear hnew hop c0 c1 c2 c3 c4 c5 c6 c7
      go_wp2_with fail
      refine HOP.out.mono ?_
      rintro e w3 ⟨rfl, hb3⟩
      have HB3 := Lib.hid (HBB.out.trans (hb3.mono HBB.out.size))
      have HX3 := Lib.hid hb3
      have hop := Has_any l (keyD d) _ w3 (HA.out.below (HBW.out.trans (HB3.out.mono HBW.out.size)) (Nat.le_refl _))
      have HOP2 := Lib.hid hop
      clear hop hb3 r0 r1 r2 r3 r4 r5 r6 r7 HOP
      go_wp2_with fail
      refine HOP2.out.mono ?_
      rintro e w4 ⟨rfl, hb4⟩
      have HB4 := Lib.hid (HB3.out.trans (hb4.mono HB3.out.size))
      have HX4 := Lib.hid (HX3.out.trans (hb4.mono HX3.out.size))
      clear hb4 HOP2
      generalize hs : hasK l (keyD d) = s
      have HS := Lib.hid hs
      clear hs
      cases s
      case true =>
        go_wp2
        go_roundw
        case rel => exact ⟨k + 1, qs, by omega, by go_num, by omega, by rw [HST.out, HS.out, if_pos rfl, List.append_nil]; exact HQS.out, own_below HOW.out HB4.out, HXQ.out, HBW.out.trans (HB4.out.mono HBW.out.size)⟩
        case measure => simp [intOf]; omega
      have hn4 := (HX4.out.block KB (Array.getElem?_eq_some_iff.1 HN.out).1).trans HN.out
      have r0 : w4.cell? ⟨KB, 0, none⟩ = some (.string d.g) := by rw [cell_of_row w4 KB 0 _ _ (0, 0) hn4]; rfl
      have r1 : w4.cell? ⟨KB, 1, none⟩ = some (.string d.a) := by rw [cell_of_row w4 KB 1 _ _ (0, 0) hn4]; rfl
      have r2 : w4.cell? ⟨KB, 2, none⟩ = some (.string d.v) := by rw [cell_of_row w4 KB 2 _ _ (0, 0) hn4]; rfl
      have r3 : w4.cell? ⟨KB, 3, none⟩ = some (.string d.t) := by rw [cell_of_row w4 KB 3 _ _ (0, 0) hn4]; rfl
      have r4 : w4.cell? ⟨KB, 4, none⟩ = some (.string d.c) := by rw [cell_of_row w4 KB 4 _ _ (0, 0) hn4]; rfl
      have r5 : w4.cell? ⟨KB, 5, none⟩ = some (.int .i64 d.sc) := by rw [cell_of_row w4 KB 5 _ _ (0, 0) hn4]; rfl
      have r6 : w4.cell? ⟨KB, 6, none⟩ = some (.int .i64 d.op) := by rw [cell_of_row w4 KB 6 _ _ (0, 0) hn4]; rfl
      have r7 : w4.cell? ⟨KB, 7, none⟩ = some (.slice xa d.ex.length xc) := by rw [cell_of_row w4 KB 7 _ _ (0, 0) hn4]; rfl
      have hown4 := own_below HOW.out HB4.out
      have hbase : w.heap.size ≤ w4.heap.size := by have := HBW.out.size; have := HB4.out.size; omega
      clear hn4
      go_wp2_with (at_builtin
                   refine appD d xa d.ex.length xc rfl _ _ rfl w.heap.size qs.length _ _ rfl hown4 rfl (by omega) hbase ?_)
      intro v5 w5 ho hg hb5
      have HO := Lib.hid ho
      have HB5 := Lib.hid ((HBW.out.trans (HB4.out.mono HBW.out.size)).trans hb5)
      clear ho hg hb5 hown4 hbase r0 r1 r2 r3 r4 r5 r6 r7
      go_wp2
      go_roundw
      case rel => exact ⟨k + 1, qs ++ [(d, .slice xa d.ex.length xc)], by omega, by go_num, by simp; omega, by rw [HST.out, HS.out, if_neg (by simp), List.map_append, HQS.out, List.append_assoc]; rfl, by rw [rowD_app, List.length_append]; simpa [rowD] using HO.out, (fun p hp => by
        rcases List.mem_append.1 hp with hp | hp
        · exact HXQ.out p hp
        · rw [List.mem_singleton.1 hp]; exact HRX.out), HB5.out⟩
      case measure => simp [intOf]; omega
    · have hle : (m.length : Int) ≤ k := by omega
      have HQ := Lib.hid (show qs.map (·.1) = underL l m by have := HQS.out; rw [List.take_of_length_le (by omega)] at this; exact this)
      have HRD := Lib.hid (show DsK w0 w.heap.size wr _ (underL l m) from ⟨qs, HQ.out, hown, HXQ.out⟩)
      obtain ⟨va, vc, hve⟩ := DsK.shape HRD.out
      subst hve
      clear hown hbw
      go_wp2
      go_ret
      exact ⟨_, rfl, HRD.out, HBW.out⟩
end Go.Proofs.Ytjkmmmmbdfcnbaa
