/-
  Layer 5: the contracts of the answer's mayEnd, below, May. Own work.
-/
import Derived.Test.YtnghagikchffiaaDoorMay5b
import Derived.Test.YtnghagikchffiaaDoorRefVer4
namespace Go.Proofs.YtnghagikchffiaaDoor
set_option linter.unusedVariables false
set_option linter.unusedSimpArgs false
open Go.RowKit

set_option maxHeartbeats 1000000 in
theorem refMayEnd_at (e : En) (he : smallE e) (w : World) :
    Calls Tryd.prog 34 #[enV e] w fun r w' => r = .returned (.bool (mayEndB e)) ∧ Below w.heap.size w w' := by
  have hm := fun w => refMayVer_any e.ver (by unfold smallE at he; omega) w
  have HM := Lib.hid hm
  have hb := (Below.refl w.heap.size w).alloc (Nat.le_refl _) (.cells #[.bool e.has, .string e.ver, .bool e.cl] 58)
  have HB := Lib.hid hb
  have hee := empty_eq e.ver
  obtain ⟨eh, ev, ec⟩ := e
  clear hm hb
  unfold enV
  simp only at hee
  cases eh
  · have hr : mayEndB ⟨false, ev, ec⟩ = (decide (ev.size = 0) && !ec) := rfl
    have HR := Lib.hid hr
    clear hr
    by_cases h0 : ev.size = 0
    · obtain rfl : ev = ByteArray.empty := by
        have h1 : ev.data.toList = [] := List.eq_nil_of_length_eq_zero (by simpa using h0)
        apply ByteArray.ext
        apply Array.toList_inj.1
        rw [h1]; rfl
      cases ec
      all_goals
        go_enter Tryd.func34, Tryd.ntmps34
        go_wp2
        go_ret
        exact ⟨rfl, HB.out⟩
    · have hf : mayEndB ⟨false, ev, ec⟩ = false := by rw [HR.out, decide_eq_false h0]; rfl
      have HF := Lib.hid hf
      rw [decide_eq_false h0] at hee
      clear hf
      go_enter Tryd.func34, Tryd.ntmps34
      go_wp2
      go_ret
      exact ⟨ret_bool HF.out.symm, HB.out⟩
  · go_enter Tryd.func34, Tryd.ntmps34
    go_wp2_with fail
    refine (HM.out _).mono ?_
    rintro e w2 ⟨rfl, rfl⟩
    go_wp2
    go_ret
    exact ⟨rfl, HB.out⟩
def belowB (e f : En) : Bool := !e.has || !f.has || someB e f
theorem okI_below (p : Iv) : okI p = (mayEndB p.lo && mayEndB p.hi && belowB p.lo p.hi) := by
  unfold okI belowB
  cases p.lo.has <;> cases p.hi.has <;> simp
set_option maxHeartbeats 1000000 in
theorem refBelow_at (e f : En) (he : smallE e) (hf : smallE f) (w : World) :
    Calls Tryd.prog 35 #[enV e, enV f] w fun r w' => r = .returned (.bool (belowB e f)) ∧ Below w.heap.size w w' := by
  have hc := fun w => refCompare_any e.ver f.ver he hf w
  have HC := Lib.hid hc; clear hc
  have hr := cE_rng e f
  have hsb : belowB e f = (!e.has || !f.has || (decide (cE e f < 0) || (decide (cE e f = 0) && (e.cl && f.cl)))) := rfl
  unfold cE at hr hsb
  generalize cmpB e.ver.data.toList f.ver.data.toList = c at HC hr hsb
  have HSB := Lib.hid hsb; clear hsb
  unfold enV
  obtain ⟨eh, ev, ec⟩ := e
  obtain ⟨fh, fv, fc⟩ := f
  have hb0 : Below w.heap.size w ((w.alloc (.cells #[.bool eh, .string ev, .bool ec] 58)).alloc (.cells #[.bool fh, .string fv, .bool fc] 58)) := ((Below.refl w.heap.size w).alloc (Nat.le_refl _) _).alloc (by simp) _
  have HB0 := Lib.hid hb0; clear hb0
  cases eh
  · go_enter Tryd.func35, Tryd.ntmps35
    go_wp2
    go_ret
    exact ⟨ret_bool (by rw [HSB.out]; rfl), HB0.out⟩
  cases fh
  · go_enter Tryd.func35, Tryd.ntmps35
    go_wp2
    go_ret
    exact ⟨ret_bool (by rw [HSB.out]; rfl), HB0.out⟩
  go_enter Tryd.func35, Tryd.ntmps35
  go_wp2_with fail
  refine (HC.out _).mono ?_
  rintro r w2 ⟨rfl, hb2⟩
  have k1 : w2.cell? ⟨w.heap.size, 2, none⟩ = some (.bool ec) := (hb2.cell (p := ⟨w.heap.size, 2, none⟩) (by simp <;> omega)).trans (by simp [go_sem])
  have k2 : w2.cell? ⟨w.heap.size + 1, 2, none⟩ = some (.bool fc) := (hb2.cell (p := ⟨w.heap.size + 1, 2, none⟩) (by simp <;> omega)).trans (by simp [go_sem])
  have HB := Lib.hid (HB0.out.trans (hb2.mono (by simp <;> omega)))
  clear hb2
  rcases hr with rfl | rfl | rfl
  · go_wp2
    go_ret
    exact ⟨ret_bool (by rw [HSB.out]; rfl), HB.out⟩
  · cases ec <;> cases fc
    all_goals
      go_wp2
      go_ret
      exact ⟨ret_bool (by rw [HSB.out]; rfl), HB.out⟩
  · go_wp2
    go_ret
    exact ⟨ret_bool (by rw [HSB.out]; rfl), HB.out⟩
set_option maxRecDepth 100000 in
set_option maxHeartbeats 2000000 in
theorem refMay_any (hard : Bool) (ver : ByteArray) (pv : Value) (l : List Iv) (hver : ver.size ≤ 100000) (hl : ∀ p ∈ l, smallI p) (w : World) (hr : RdI w pv l) :
    Calls Tryd.prog 15 #[.agg #[.bool hard, .string ver, pv]] w fun r w' => r = .returned (.bool (mayB hard ver l)) ∧ Below w.heap.size w w' := by
  obtain ⟨pa, pc, rfl⟩ : ∃ a c, pv = .slice a l.length c := by
    rcases hr with ⟨rfl, rfl⟩ | ⟨a, cap, rfl, _⟩
    · exact ⟨_, _, rfl⟩
    · exact ⟨_, _, rfl⟩
  have hlb : (l.length : Int) ≤ 9223372036854775807 := by
    rcases hr with ⟨_, rfl⟩ | ⟨a, cap, h, h1, h2, _⟩
    · simp
    · omega
  have HR := Lib.hid hr; clear hr
  have hb0 : Below w.heap.size w (w.alloc (.cells #[.bool hard, .string ver, .slice pa l.length pc] 25)) := (Below.refl w.heap.size w).alloc (Nat.le_refl _) _
  have HB0 := Lib.hid hb0; clear hb0
  have hee := empty_eq ver
  cases hard
  · have hm := fun w => refMayVer_any ver (by omega) w
    have HM := Lib.hid hm; clear hm
    have hmb : mayB false ver l = (mayVer ver && decide (l.length = 0)) := rfl
    have HMB := Lib.hid hmb; clear hmb
    generalize mayVer ver = mv at HM HMB
    clear hee
    cases mv
    · go_enter Tryd.func15, Tryd.ntmps15
      go_wp2_with fail
      refine (HM.out _).mono ?_
      rintro e w2 ⟨rfl, rfl⟩
      go_wp2
      go_ret
      exact ⟨ret_bool (by rw [HMB.out]; rfl), HB0.out⟩
    · go_enter Tryd.func15, Tryd.ntmps15
      go_wp2_with fail
      refine (HM.out _).mono ?_
      rintro e w2 ⟨rfl, rfl⟩
      go_wp2
      go_ret
      exact ⟨ret_bool (by
        rw [HMB.out, Bool.true_and]
        by_cases h : l.length = 0
        · rw [decide_eq_true h, h]; rfl
        · rw [decide_eq_false h]; apply beq_false_of_ne; omega), HB0.out⟩
  by_cases hv : ver.size = 0
  case neg =>
    rw [decide_eq_false hv] at hee
    have hmb : mayB true ver l = false := by unfold mayB; rw [if_pos rfl, decide_eq_false hv]; rfl
    have HMB := Lib.hid hmb; clear hmb
    have hne : (ver.toList != ([] : List UInt8)) = true := by rw [bne, hee]; rfl
    go_enter Tryd.func15, Tryd.ntmps15
    go_wp2
    go_ret
    exact ⟨ret_bool HMB.out.symm, HB0.out⟩
  rw [decide_eq_true hv] at hee
  have hne : (ver.toList != ([] : List UInt8)) = false := by rw [bne, hee]; rfl
  by_cases hl0 : l.length = 0
  · have hmb : mayB true ver l = false := by unfold mayB; rw [if_pos rfl, hl0]; simp
    have HMB := Lib.hid hmb; clear hmb
    rw [hl0] at HB0 ⊢
    go_enter Tryd.func15, Tryd.ntmps15
    go_wp2
    go_ret
    exact ⟨ret_bool HMB.out.symm, HB0.out⟩
  by_cases hbig : 1024 < l.length
  · have hmb : mayB true ver l = false := by unfold mayB; rw [if_pos rfl, decide_eq_false (show ¬ l.length ≤ 1024 by omega)]; simp
    have HMB := Lib.hid hmb; clear hmb
    have hbI : (1024 : Int) < l.length := by omega
    have hlI : ((l.length : Int) == 0) = false := by apply beq_false_of_ne; omega
    go_enter Tryd.func15, Tryd.ntmps15
    go_wp2
    go_ret
    exact ⟨ret_bool HMB.out.symm, HB0.out⟩
  have hmb : mayB true ver l = okRow l := by unfold mayB; rw [if_pos rfl, decide_eq_true hv, decide_eq_true (show 1 ≤ l.length by omega), decide_eq_true (show l.length ≤ 1024 by omega)]; rfl
  have HMB := Lib.hid hmb; clear hmb
  have hsI : (l.length : Int) ≤ 1024 := by omega
  have hlI : ((l.length : Int) == 0) = false := by apply beq_false_of_ne; omega
  obtain ⟨a, cap, hpv, _, _, hc⟩ : ∃ a cap, Value.slice pa l.length pc = .slice (some a) l.length cap ∧ l.length ≤ cap ∧ cap ≤ 9223372036854775807 ∧ ∀ (i : Nat) p, l[i]? = some p → ∀ (c : Nat) u, (ivCells p)[c]? = some u → w.cell? (a.add (i * 6 + c)) = some u := by
    rcases HR.out with ⟨_, h⟩ | h
    · subst h; exact absurd rfl hl0
    · exact h
  cases hpv
  have HC := Lib.hid hc; clear hc
  go_enter Tryd.func15, Tryd.ntmps15
  go_wp2_with fail
  generalize hw1 : w.alloc (.cells #[.bool true, .string ver, .slice (some a) l.length pc] 25) = w1 at HB0 ⊢
  have hbx : w1.heap[w.heap.size]? = some (.cells #[.bool true, .string ver, .slice (some a) l.length pc] 25 (0, 0)) := by rw [← hw1]; exact heap_alloc_new w _
  have HBX := Lib.hid hbx
  clear hw1 hbx
  go_loopw [37] (fun i wr => ∃ k : Nat, k ≤ l.length ∧ i = .int .i64 k ∧ okTo l k = true ∧ Below w1.heap.size w1 wr) (fun i _ => l.length - (intOf i).toNat)
  case atStart => exact ⟨0, by omega, rfl, rfl, Below.refl _ _⟩
  case round =>
    obtain ⟨k, hk, rfl, hok, hb⟩ := hrel
    have HOK := Lib.hid hok
    have HB := Lib.hid hb
    have HBW := Lib.hid (HB0.out.trans (hb.mono HB0.out.size))
    clear hok
    by_cases hlt : k < l.length
    · obtain ⟨p, hp⟩ : ∃ p, l[k]? = some p := ⟨_, List.getElem?_eq_getElem hlt⟩
      obtain ⟨k0, k1, k2, k3, k4, k5⟩ := RdI.at HC.out hp HBW.out (Nat.le_refl _)
      obtain ⟨sl1, sl2⟩ := hl p (List.mem_of_getElem? hp)
      have HP := Lib.hid hp
      have hlt' : (k : Int) < l.length := by omega
      have hst := fun wx h => six_at (w := wr) (wx := wx) p h
      have HST := Lib.hid hst
      clear hp hb hst
      have M1 := Lib.hid (fun w => refMayEnd_at p.lo sl1 w)
      have M2 := Lib.hid (fun w => refMayEnd_at p.hi sl2 w)
      have M3 := Lib.hid (fun w => refBelow_at p.lo p.hi sl1 sl2 w)
      have hoi := okI_below p
      generalize mayEndB p.lo = m1 at M1 hoi
      generalize mayEndB p.hi = m2 at M2 hoi
      generalize belowB p.lo p.hi = m3 at M3 hoi
      have HOI := Lib.hid hoi
      clear hoi
      unfold enV at M1 M2 M3
      obtain ⟨⟨lh, lv, lc⟩, ⟨hh, hv2, hc2⟩⟩ := p
      go_wp2_with fail
      refine (M1.out _).mono ?_
      rintro e w3 ⟨rfl, hb3⟩
      have hb3' := hb3.mono (show wr.heap.size + 1 ≤ _ by simp)
      obtain ⟨s0, s1, s2, s3, s4, s5⟩ := HST.out w3 hb3'
      have HB3 := Lib.hid hb3'
      clear hb3 hb3' k0 k1 k2 k3 k4 k5
      -- what each further world keeps
      have hfr : ∀ wx, Below (wr.heap.size + 1) (wr.alloc (.cells #[.bool lh, .string lv, .bool lc, .bool hh, .string hv2, .bool hc2] 61)) wx → Below w.heap.size w wx ∧ Below w1.heap.size w1 wx := fun wx h => by
        have h1 : Below wr.heap.size wr wx := ((Below.refl wr.heap.size wr).alloc (Nat.le_refl _) _).trans (h.mono (by omega))
        exact ⟨HBW.out.trans (h1.mono HBW.out.size), HB.out.trans (h1.mono HB.out.size)⟩
      have HFR := Lib.hid hfr
      clear hfr
      cases m1
      · go_wp2
        go_ret
        exact ⟨ret_bool (by rw [HMB.out]; exact (okTo_no HP.out (by rw [HOI.out]; rfl)).symm), (HFR.out _ HB3.out).1⟩
      go_wp2_with fail
      refine (M2.out _).mono ?_
      rintro e w4 ⟨rfl, hb4⟩
      have HB4 := Lib.hid (HB3.out.trans (hb4.mono (Nat.le_trans (by simp) HB3.out.size)))
      clear s0 s1 s2 s3 s4 s5 hb4
      obtain ⟨s0, s1, s2, s3, s4, s5⟩ := HST.out w4 HB4.out
      cases m2
      · go_wp2
        go_ret
        exact ⟨ret_bool (by rw [HMB.out]; exact (okTo_no HP.out (by rw [HOI.out]; rfl)).symm), (HFR.out _ HB4.out).1⟩
      go_wp2_with fail
      refine (M3.out _).mono ?_
      rintro e w5 ⟨rfl, hb5⟩
      have HB5 := Lib.hid (HB4.out.trans (hb5.mono (Nat.le_trans (by simp) HB4.out.size)))
      clear s0 s1 s2 s3 s4 s5 hb5
      obtain ⟨s0, s1, s2, s3, s4, s5⟩ := HST.out w5 HB5.out
      cases m3
      · go_wp2
        go_ret
        exact ⟨ret_bool (by rw [HMB.out]; exact (okTo_no HP.out (by rw [HOI.out]; rfl)).symm), (HFR.out _ HB5.out).1⟩
      have HOI1 := Lib.hid (show okI _ = true by rw [HOI.out]; rfl)
      by_cases hk0 : k = 0
      · subst hk0
        go_wp2
        go_roundw
        case rel => exact ⟨1, by omega, rfl, okTo_zero HP.out HOI1.out, (HFR.out _ HB5.out).2⟩
        case measure => simp [intOf]; omega
      · obtain ⟨k', rfl⟩ : ∃ k', k = k' + 1 := ⟨k - 1, by omega⟩
        obtain ⟨q, hq⟩ : ∃ q, l[k']? = some q := ⟨_, List.getElem?_eq_getElem (by omega)⟩
        obtain ⟨t0, t1, t2, t3, t4, t5⟩ := RdI.at HC.out hq (HFR.out _ HB5.out).1 (Nat.le_refl _)
        obtain ⟨q1, q2⟩ := hl q (List.mem_of_getElem? hq)
        have HQ := Lib.hid hq
        have bx : w5.cell? ⟨w.heap.size, 2, none⟩ = some (.slice (some a) l.length pc) := by rw [cell_of_row w5 _ 2 _ _ (0, 0) (((HFR.out _ HB5.out).2.block _ (Array.getElem?_eq_some_iff.1 HBX.out).1).trans HBX.out)]; rfl
        have hkN : (((k' : Int) + 1) == 0) = false := by apply beq_false_of_ne; omega
        have hkL : (k' : Int) < l.length := by omega
        have hkM : (0 : Int) ≤ k' := by omega
        have hkW : (k' : Int) ≤ 1024 := by omega
        have hz5 : wr.heap.size < w5.heap.size := World.block_lt_of_cell? w5 _ s0
        have hne5 : ¬ wr.heap.size = w5.heap.size := by omega
        have hne6 : ¬ w5.heap.size = wr.heap.size := by omega
        obtain ⟨⟨qlh, qlv, qlc⟩, ⟨qh, qv, qc⟩⟩ := q
        simp only at t0 t1 t2 t3 t4 t5 q2
        have HCM := Lib.hid (fun w => refCompare_any qv lv q2 sl1 w)
        have hrc := cmpB_ord.rng qv.data.toList lv.data.toList
        have hab : apartB ⟨qh, qv, qc⟩ ⟨lh, lv, lc⟩ = (qh && lh && (decide (cmpB qv.data.toList lv.data.toList < 0) || (decide (cmpB qv.data.toList lv.data.toList = 0) && !(qc && lc)))) := rfl
        generalize cmpB qv.data.toList lv.data.toList = cq at HCM hrc hab
        have HAB := Lib.hid hab
        have hb6 := HB5.out.alloc (Nat.le_trans (by simp) HB5.out.size) (.cells #[.bool qh, .string qv, .bool qc] 58)
        have HB6 := Lib.hid hb6
        have HST6 := Lib.hid (HST.out _ hb6)
        clear hq hab hb6
        cases qh
        · go_wp2
          go_ret
          exact ⟨ret_bool (by rw [HMB.out]; exact (okTo_gap HQ.out HP.out (by rw [HAB.out]; rfl)).symm), (HFR.out _ HB6.out).1⟩
        cases lh
        · go_wp2
          go_ret
          exact ⟨ret_bool (by rw [HMB.out]; exact (okTo_gap HQ.out HP.out (by rw [HAB.out]; rfl)).symm), (HFR.out _ HB6.out).1⟩
        go_wp2_with fail
        refine (HCM.out _).mono ?_
        rintro e w7 ⟨rfl, hb7⟩
        have hz7 : w5.heap.size < w7.heap.size := by have := hb7.size; simp at this; omega
        have HB7 := Lib.hid (HB6.out.trans (hb7.mono (Nat.le_trans (by simp) HB6.out.size)))
        have v2 : w7.cell? ⟨w5.heap.size, 2, none⟩ = some (.bool qc) := (hb7.cell (p := ⟨w5.heap.size, 2, none⟩) (by simp)).trans (by simp [go_sem])
        clear hb7 s0 s1 s2 s3 s4 s5
        obtain ⟨s0, s1, s2, s3, s4, s5⟩ := HST.out w7 HB7.out
        have hgo : ∀ (h : apartB ⟨true, qv, qc⟩ ⟨true, lv, lc⟩ = true), okTo l (k' + 1 + 1) = true := fun h => okTo_next HQ.out HP.out HOK.out HOI1.out h
        have hno : ∀ (h : apartB ⟨true, qv, qc⟩ ⟨true, lv, lc⟩ = false), okRow l = false := fun h => okTo_gap HQ.out HP.out h
        have HGO := Lib.hid hgo
        have HNO := Lib.hid hno
        clear hgo hno t0 t1 t2 t3 t4 t5 bx
        rcases hrc with rfl | rfl | rfl
        · have HG := Lib.hid (HGO.out (by rw [HAB.out]; rfl))
          go_wp2
          go_roundw
          case rel => exact ⟨k' + 1 + 1, by omega, by go_num, HG.out, (HFR.out _ HB7.out).2⟩
          case measure => simp [intOf]; omega
        · cases qc
          · have HG := Lib.hid (HGO.out (by rw [HAB.out]; rfl))
            go_wp2
            go_roundw
            case rel => exact ⟨k' + 1 + 1, by omega, by go_num, HG.out, (HFR.out _ HB7.out).2⟩
            case measure => simp [intOf]; omega
          · cases lc
            · have HG := Lib.hid (HGO.out (by rw [HAB.out]; rfl))
              go_wp2
              go_roundw
              case rel => exact ⟨k' + 1 + 1, by omega, by go_num, HG.out, (HFR.out _ HB7.out).2⟩
              case measure => simp [intOf]; omega
            · have HG := Lib.hid (HNO.out (by rw [HAB.out]; rfl))
              go_wp2
              go_ret
              exact ⟨ret_bool (by rw [HMB.out, HG.out]), (HFR.out _ HB7.out).1⟩
        · have HG := Lib.hid (HNO.out (by rw [HAB.out]; rfl))
          go_wp2
          go_ret
          exact ⟨ret_bool (by rw [HMB.out, HG.out]), (HFR.out _ HB7.out).1⟩
    · have hkl : k = l.length := by omega
      have hkI : (l.length : Int) ≤ k := by omega
      have HF := Lib.hid (show okRow l = true by rw [okRow_to, ← hkl]; exact HOK.out)
      clear hkl hb
      go_wp2
      go_ret
      exact ⟨ret_bool (by rw [HMB.out, HF.out]), HBW.out⟩
end Go.Proofs.YtnghagikchffiaaDoor
