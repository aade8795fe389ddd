/-
  Layer 5: the contract of May. Own work.
-/
import Derived.Test.YtnghagikchffiaaDoorMay5
import Derived.Deep.QuietTactic
import Derived.BigQuiet
import Derived.IntWalk
namespace Go.Proofs.YtnghagikchffiaaDoor
set_option linter.unusedVariables false
set_option linter.unusedSimpArgs false
open Go.RowKit

/-- the six cells of an interval's variable -/
def SixAt (w : World) (B : Nat) (p : Iv) : Prop :=
  w.cell? ⟨B, 0, none⟩ = some (.bool p.lo.has) ∧ w.cell? ⟨B, 1, none⟩ = some (.string p.lo.ver) ∧ w.cell? ⟨B, 2, none⟩ = some (.bool p.lo.cl) ∧ w.cell? ⟨B, 3, none⟩ = some (.bool p.hi.has) ∧ w.cell? ⟨B, 4, none⟩ = some (.string p.hi.ver) ∧ w.cell? ⟨B, 5, none⟩ = some (.bool p.hi.cl)
theorem six_at {w wx : World} (p : Iv) (h : Below (w.heap.size + 1) (w.alloc (.cells #[.bool p.lo.has, .string p.lo.ver, .bool p.lo.cl, .bool p.hi.has, .string p.hi.ver, .bool p.hi.cl] 61)) wx) : SixAt wx w.heap.size p := by
  have hb := (h.block w.heap.size (by omega)).trans (heap_alloc_new w _)
  refine ⟨?_, ?_, ?_, ?_, ?_, ?_⟩
  · rw [cell_of_row wx _ 0 _ _ (0, 0) hb]; rfl
  · rw [cell_of_row wx _ 1 _ _ (0, 0) hb]; rfl
  · rw [cell_of_row wx _ 2 _ _ (0, 0) hb]; rfl
  · rw [cell_of_row wx _ 3 _ _ (0, 0) hb]; rfl
  · rw [cell_of_row wx _ 4 _ _ (0, 0) hb]; rfl
  · rw [cell_of_row wx _ 5 _ _ (0, 0) hb]; rfl
theorem okTo_no {l : List Iv} {k : Nat} {p : Iv} (hp : l[k]? = some p) (h : okI p = false) : okRow l = false := by
  rw [okRow_to]
  have hk : k < l.length := (List.getElem?_eq_some_iff.1 hp).1
  refine okTo_stop (k := k + 1) ?_ _ hk
  rw [okTo, List.getD_eq_getElem?_getD, hp, Option.getD_some, h]
  simp
theorem okTo_gap {l : List Iv} {k : Nat} {p q : Iv} (hq : l[k]? = some q) (hp : l[k + 1]? = some p) (h : apartB q.hi p.lo = false) : okRow l = false := by
  rw [okRow_to]
  have hk : k + 1 < l.length := (List.getElem?_eq_some_iff.1 hp).1
  refine okTo_stop (k := k + 1 + 1) ?_ _ hk
  rw [okTo, List.getD_eq_getElem?_getD, hp, Option.getD_some, Nat.add_sub_cancel, List.getD_eq_getElem?_getD, hq, Option.getD_some, h]
  simp
theorem okTo_zero {l : List Iv} {p : Iv} (hp : l[0]? = some p) (h : okI p = true) : okTo l 1 = true := by
  rw [okTo, List.getD_eq_getElem?_getD, hp, Option.getD_some, h]; rfl
theorem okTo_next {l : List Iv} {k : Nat} {p q : Iv} (hq : l[k]? = some q) (hp : l[k + 1]? = some p) (h0 : okTo l (k + 1) = true) (h : okI p = true) (ha : apartB q.hi p.lo = true) : okTo l (k + 1 + 1) = true := by
  rw [okTo, h0, List.getD_eq_getElem?_getD, hp, Option.getD_some, h, Nat.add_sub_cancel, List.getD_eq_getElem?_getD, hq, Option.getD_some, ha]
  simp
theorem may_no {ver : ByteArray} {l : List Iv} (h : okRow l = false) : mayB true ver l = false := by
  unfold mayB; rw [if_pos rfl, h]; simp
theorem keepM {w1 w2 W2 : World} {Bz : Nat} {A0 A1 A2 B0 B1 B2 C : Addr} {x0 x1 x2 y0 y1 y2 z : Value}
    (h : w1.cell? A0 = some x0 ∧ w1.cell? A1 = some x1 ∧ w1.cell? A2 = some x2 ∧ w1.cell? B0 = some y0 ∧ w1.cell? B1 = some y1 ∧ w1.cell? B2 = some y2 ∧ w1.cell? C = some z ∧ Below Bz W2 w1) (hb : Below Bz W2 w2 ∧ Below w1.heap.size w1 w2) :
    w2.cell? A0 = some x0 ∧ w2.cell? A1 = some x1 ∧ w2.cell? A2 = some x2 ∧ w2.cell? B0 = some y0 ∧ w2.cell? B1 = some y1 ∧ w2.cell? B2 = some y2 ∧ w2.cell? C = some z ∧ Below Bz W2 w2 := by
  obtain ⟨h0, h1, h2, h3, h4, h5, h6, h7⟩ := h
  have hc : ∀ {A : Addr} {x : Value}, w1.cell? A = some x → w2.cell? A = some x := fun hx => (hb.2.cell (World.block_lt_of_cell? w1 _ hx)).trans hx
  exact ⟨hc h0, hc h1, hc h2, hc h3, hc h4, hc h5, hc h6, hb.1⟩
theorem keepMd {w1 W2 : World} {Bz : Nat} {A0 A1 A2 B0 B1 B2 C : Addr} {x0 x1 x2 y0 y1 y2 z : Value}
    (h : w1.cell? A0 = some x0 ∧ w1.cell? A1 = some x1 ∧ w1.cell? A2 = some x2 ∧ w1.cell? B0 = some y0 ∧ w1.cell? B1 = some y1 ∧ w1.cell? B2 = some y2 ∧ w1.cell? C = some z ∧ Below Bz W2 w1) :
    w1.drew.cell? A0 = some x0 ∧ w1.drew.cell? A1 = some x1 ∧ w1.drew.cell? A2 = some x2 ∧ w1.drew.cell? B0 = some y0 ∧ w1.drew.cell? B1 = some y1 ∧ w1.drew.cell? B2 = some y2 ∧ w1.drew.cell? C = some z ∧ Below Bz W2 w1.drew := by
  obtain ⟨h0, h1, h2, h3, h4, h5, h6, h7⟩ := h
  exact ⟨h0, h1, h2, h3, h4, h5, h6, h7.drew⟩
theorem belowM {w1 W2 : World} {Bz : Nat} {A0 A1 A2 B0 B1 B2 C : Addr} {x0 x1 x2 y0 y1 y2 z : Value}
    (h : w1.cell? A0 = some x0 ∧ w1.cell? A1 = some x1 ∧ w1.cell? A2 = some x2 ∧ w1.cell? B0 = some y0 ∧ w1.cell? B1 = some y1 ∧ w1.cell? B2 = some y2 ∧ w1.cell? C = some z ∧ Below Bz W2 w1) : Below Bz W2 w1 := h.2.2.2.2.2.2.2
theorem below_drewN' {B : Nat} {a w : World} (h : Below B a w) (n : Nat) : Below B a (w.drewN n) := ⟨h.os, h.tape, h.output, h.size, h.block⟩
set_option maxRecDepth 100000 in
set_option maxHeartbeats 1000000 in
theorem May_any (hard : Bool) (ver : ByteArray) (pv : Value) (l : List Iv) (hver : ver.size ≤ 100000) (hl : ∀ p ∈ l, smallI p) (w : World) (hr : RdI w pv l) :
    Calls Tryd.prog 20 #[.agg #[.bool hard, .string ver, pv]] w fun r w' => r = .returned (.bool (mayB hard ver l)) ∧ Below w.heap.size w w' := by
  obtain ⟨pa, pc, rfl⟩ : ∃ a c, pv = .slice a l.length c := by
    rcases hr with ⟨rfl, rfl⟩ | ⟨a, cap, rfl, _⟩
    · exact ⟨_, _, rfl⟩
    · exact ⟨_, _, rfl⟩
  have hlb : (l.length : Int) ≤ 9223372036854775807 := by
    rcases hr with ⟨_, rfl⟩ | ⟨a, cap, h, h1, h2, _⟩
    · simp
    · omega
  have HR := Lib.hid hr; clear hr
  have hb0 : Below w.heap.size w (w.alloc (.cells #[.bool hard, .string ver, .slice pa l.length pc] 25)) := (Below.refl w.heap.size w).alloc (Nat.le_refl _) _
  have HB0 := Lib.hid hb0; clear hb0
  have hee := empty_eq ver
  cases hard
  · have hm := fun w => MayVer_any ver (by omega) w
    have HM := Lib.hid hm; clear hm
    have hmb : mayB false ver l = (mayVer ver && decide (l.length = 0)) := rfl
    have HMB := Lib.hid hmb; clear hmb
    generalize mayVer ver = mv at HM HMB
    clear hee
    cases mv
    · go_enter Tryd.func20, Tryd.ntmps20
      go_wp2_with fail
      refine (HM.out _).mono ?_
      rintro e w2 ⟨rfl, rfl⟩
      go_wp2
      go_ret
      exact ⟨ret_bool (by rw [HMB.out]; rfl), HB0.out⟩
    · go_enter Tryd.func20, Tryd.ntmps20
      go_wp2_with fail
      refine (HM.out _).mono ?_
      rintro e w2 ⟨rfl, rfl⟩
      go_wp2
      go_ret
      exact ⟨ret_bool (by
        rw [HMB.out, Bool.true_and]
        by_cases h : l.length = 0
        · rw [decide_eq_true h, h]; rfl
        · rw [decide_eq_false h]; apply beq_false_of_ne; omega), HB0.out⟩
  by_cases hv : ver.size = 0
  case neg =>
    rw [decide_eq_false hv] at hee
    have hmb : mayB true ver l = false := by unfold mayB; rw [if_pos rfl, decide_eq_false hv]; rfl
    have HMB := Lib.hid hmb; clear hmb
    go_enter Tryd.func20, Tryd.ntmps20
    go_wp2
    go_ret
    exact ⟨ret_bool HMB.out.symm, HB0.out⟩
  rw [decide_eq_true hv] at hee
  by_cases hl0 : l.length = 0
  · have hmb : mayB true ver l = false := by unfold mayB; rw [if_pos rfl, hl0]; simp
    have HMB := Lib.hid hmb; clear hmb
    rw [hl0] at HB0 ⊢
    go_enter Tryd.func20, Tryd.ntmps20
    go_wp2
    go_ret
    exact ⟨ret_bool HMB.out.symm, HB0.out⟩
  by_cases hbig : 1024 < l.length
  · have hmb : mayB true ver l = false := by unfold mayB; rw [if_pos rfl, decide_eq_false (show ¬ l.length ≤ 1024 by omega)]; simp
    have HMB := Lib.hid hmb; clear hmb
    have hbI : (1024 : Int) < l.length := by omega
    have hlI : ((l.length : Int) == 0) = false := by apply beq_false_of_ne; omega
    go_enter Tryd.func20, Tryd.ntmps20
    go_wp2
    go_ret
    exact ⟨ret_bool HMB.out.symm, HB0.out⟩
  have hmb : mayB true ver l = okRow l := by unfold mayB; rw [if_pos rfl, decide_eq_true hv, decide_eq_true (show 1 ≤ l.length by omega), decide_eq_true (show l.length ≤ 1024 by omega)]; rfl
  have HMB := Lib.hid hmb; clear hmb
  have hsI : (l.length : Int) ≤ 1024 := by omega
  have hlI : ((l.length : Int) == 0) = false := by apply beq_false_of_ne; omega
  obtain ⟨a, cap, hpv, _, _, hc⟩ : ∃ a cap, Value.slice pa l.length pc = .slice (some a) l.length cap ∧ l.length ≤ cap ∧ cap ≤ 9223372036854775807 ∧ ∀ (i : Nat) p, l[i]? = some p → ∀ (c : Nat) u, (ivCells p)[c]? = some u → w.cell? (a.add (i * 6 + c)) = some u := by
    rcases HR.out with ⟨_, h⟩ | h
    · subst h; exact absurd rfl hl0
    · exact h
  cases hpv
  have HC := Lib.hid hc; clear hc
  go_enter Tryd.func20, Tryd.ntmps20
  go_wp2_with fail
  generalize hw1 : w.alloc (.cells #[.bool true, .string ver, .slice (some a) l.length pc] 25) = w1 at HB0 ⊢
  have hbx : w1.heap[w.heap.size]? = some (.cells #[.bool true, .string ver, .slice (some a) l.length pc] 25 (0, 0)) := by rw [← hw1]; exact heap_alloc_new w _
  have HBX := Lib.hid hbx
  clear hw1 hbx
  go_loopw [35] (fun i wr => ∃ k : Nat, k ≤ l.length ∧ i = .int .i64 k ∧ okTo l k = true ∧ Below w1.heap.size w1 wr) (fun i _ => l.length - (intOf i).toNat)
  case atStart => exact ⟨0, by omega, rfl, rfl, Below.refl _ _⟩
  case round =>
    obtain ⟨k, hk, rfl, hok, hb⟩ := hrel
    have HOK := Lib.hid hok
    have HB := Lib.hid hb
    have HBW := Lib.hid (HB0.out.trans (hb.mono HB0.out.size))
    clear hok
    by_cases hlt : k < l.length
    · obtain ⟨p, hp⟩ : ∃ p, l[k]? = some p := ⟨_, List.getElem?_eq_getElem hlt⟩
      obtain ⟨k0, k1, k2, k3, k4, k5⟩ := RdI.at HC.out hp HBW.out (Nat.le_refl _)
      obtain ⟨sl1, sl2⟩ := hl p (List.mem_of_getElem? hp)
      have HP := Lib.hid hp
      have hlt' : (k : Int) < l.length := by omega
      have hst := fun wx h => six_at (w := wr) (wx := wx) p h
      have HST := Lib.hid hst
      clear hp hb hst
      have M1 := Lib.hid (fun w => mayEnd_at p.lo sl1 w)
      have M2 := Lib.hid (fun w => mayEnd_at p.hi sl2 w)
      have M3 := Lib.hid (fun w => some_at5 p.lo p.hi sl1 sl2 w)
      have hoi : okI p = (mayEndB p.lo && mayEndB p.hi && !(p.lo.has && p.hi.has && !someB p.lo p.hi)) := rfl
      generalize mayEndB p.lo = m1 at M1 hoi
      generalize mayEndB p.hi = m2 at M2 hoi
      generalize someB p.lo p.hi = m3 at M3 hoi
      have HOI := Lib.hid hoi
      clear hoi
      unfold enV at M1 M2 M3
      obtain ⟨⟨lh, lv, lc⟩, ⟨hh, hv2, hc2⟩⟩ := p
      go_wp2_with fail
      refine (M1.out _).mono ?_
      rintro e w3 ⟨rfl, hb3⟩
      have hb3' := hb3.mono (show wr.heap.size + 1 ≤ _ by simp)
      obtain ⟨s0, s1, s2, s3, s4, s5⟩ := HST.out w3 hb3'
      have HB3 := Lib.hid hb3'
      clear hb3 hb3' k0 k1 k2 k3 k4 k5
      -- what each further world keeps
      have hfr : ∀ wx, Below (wr.heap.size + 1) (wr.alloc (.cells #[.bool lh, .string lv, .bool lc, .bool hh, .string hv2, .bool hc2] 61)) wx → Below w.heap.size w wx ∧ Below w1.heap.size w1 wx := fun wx h => by
        have h1 : Below wr.heap.size wr wx := ((Below.refl wr.heap.size wr).alloc (Nat.le_refl _) _).trans (h.mono (by omega))
        exact ⟨HBW.out.trans (h1.mono HBW.out.size), HB.out.trans (h1.mono HB.out.size)⟩
      have HFR := Lib.hid hfr
      clear hfr
      cases m1
      · go_wp2
        go_ret
        exact ⟨ret_bool (by rw [HMB.out]; exact (okTo_no HP.out (by rw [HOI.out]; rfl)).symm), (HFR.out _ HB3.out).1⟩
      go_wp2_with fail
      refine (M2.out _).mono ?_
      rintro e w4 ⟨rfl, hb4⟩
      have HB4 := Lib.hid (HB3.out.trans (hb4.mono (Nat.le_trans (by simp) HB3.out.size)))
      clear s0 s1 s2 s3 s4 s5 hb4
      obtain ⟨s0, s1, s2, s3, s4, s5⟩ := HST.out w4 HB4.out
      cases m2
      · go_wp2
        go_ret
        exact ⟨ret_bool (by rw [HMB.out]; exact (okTo_no HP.out (by rw [HOI.out]; rfl)).symm), (HFR.out _ HB4.out).1⟩
      cases lh
      · have HOI1 := Lib.hid (show okI _ = true by rw [HOI.out]; rfl)
        by_cases hk0 : k = 0
        · subst hk0
          have hg0 : decide ((0 : Int) < ((0 : Nat) : Int)) = false := by decide
          have hg1 : decide ((0 : Int) < 0) = false := by decide
          go_wp2_with fail
          go_quiet (fail)
          go_wp2
          go_roundw
          case rel => exact ⟨1, by omega, rfl, okTo_zero HP.out HOI1.out, below_drewN' (HFR.out _ HB4.out).2 _⟩
          case measure => simp [intOf]; omega
        · obtain ⟨k', rfl⟩ : ∃ k', k = k' + 1 := ⟨k - 1, by omega⟩
          obtain ⟨q, hq⟩ : ∃ q, l[k']? = some q := ⟨_, List.getElem?_eq_getElem (by omega)⟩
          obtain ⟨t0, t1, t2, t3, t4, t5⟩ := RdI.at HC.out hq (HFR.out _ HB4.out).1 (Nat.le_refl _)
          obtain ⟨q1, q2⟩ := hl q (List.mem_of_getElem? hq)
          have HQ := Lib.hid hq
          have bx : w4.cell? ⟨w.heap.size, 2, none⟩ = some (.slice (some a) l.length pc) := by rw [cell_of_row w4 _ 2 _ _ (0, 0) (((HFR.out _ HB4.out).2.block _ (Array.getElem?_eq_some_iff.1 HBX.out).1).trans HBX.out)]; rfl
          have hap := fun w' (h : Below (wr.heap.size + 1) (wr.alloc (.cells #[.bool false, .string lv, .bool lc, .bool hh, .string hv2, .bool hc2] 61)) w') => (apart_at q.hi ⟨false, lv, lc⟩ q2 sl1 w').mono fun r w2 hrw => (⟨hrw.1, h.trans (hrw.2.mono (Nat.le_trans (by simp) h.size)), hrw.2⟩ : r = .returned (.bool (apartB q.hi ⟨false, lv, lc⟩)) ∧ Below (wr.heap.size + 1) (wr.alloc (.cells #[.bool false, .string lv, .bool lc, .bool hh, .string hv2, .bool hc2] 61)) w2 ∧ Below w'.heap.size w' w2)
          unfold enV at hap
          have HAP := Lib.hid hap
          have hkI : (0 : Int) < ((k' + 1 : Nat) : Int) := by omega
          have hkJ : (0 : Int) < (k' : Int) + 1 := by omega
          have hkL : (k' : Int) < l.length := by omega
          have hw1 : IntKind.i64.wrap (k' : Int) = k' := IntWalk.i64_in _ ⟨by omega, by omega⟩
          have hw2 : IntKind.i64.wrap ((k' : Int) + 1 - 1) = k' := by rw [show (k' : Int) + 1 - 1 = k' by omega]; exact hw1
          have hw3 : IntKind.i64.wrap (((k' + 1 : Nat) : Int) - 1) = k' := by rw [show (((k' + 1 : Nat) : Int) - 1) = k' by omega]; exact hw1
          have hkM : (0 : Int) ≤ k' := by omega
          have ho := HB4.out
          clear hq hap
          generalize hab : apartB q.hi ⟨false, lv, lc⟩ = ab at HAP
          have HAB := Lib.hid hab
          clear hab
          go_wp2_with fail
          go_region_held3 (fun w' => w'.cell? ⟨(a.add (k' * 6)).block, (a.add (k' * 6)).off + 3, none⟩ = some (.bool q.hi.has) ∧ w'.cell? ⟨(a.add (k' * 6)).block, (a.add (k' * 6)).off + 4, none⟩ = some (.string q.hi.ver) ∧ w'.cell? ⟨(a.add (k' * 6)).block, (a.add (k' * 6)).off + 5, none⟩ = some (.bool q.hi.cl) ∧ w'.cell? ⟨wr.heap.size, 0, none⟩ = some (.bool false) ∧ w'.cell? ⟨wr.heap.size, 1, none⟩ = some (.string lv) ∧ w'.cell? ⟨wr.heap.size, 2, none⟩ = some (.bool lc) ∧ w'.cell? ⟨w.heap.size, 2, none⟩ = some (.slice (some a) l.length pc) ∧ Below (wr.heap.size + 1) (wr.alloc (.cells #[.bool false, .string lv, .bool lc, .bool hh, .string hv2, .bool hc2] 61)) w')
            (first | exact ⟨t3, t4, t5, s0, s1, s2, bx, ho.drew⟩ | (with_reducible exact keepMd (by assumption)) | (with_reducible exact keepM (by assumption) (by assumption)))
            (first
              | (go_at_call 45; with_reducible refine (HAP.out _ (belowM (by assumption))).mono ?_; rintro e wq ⟨rfl, hbq⟩))
          cases ab
          · go_wp2
            go_ret
            exact ⟨ret_bool (by rw [HMB.out]; exact (okTo_gap HQ.out HP.out HAB.out).symm), (HFR.out _ (belowM (by assumption))).1⟩
          · go_wp2
            go_roundw
            case rel => exact ⟨k' + 1 + 1, by omega, by go_num, okTo_next HQ.out HP.out HOK.out HOI1.out HAB.out, (HFR.out _ (belowM (by assumption))).2⟩
            case measure => simp [intOf]; omega
      cases hh
      · have HOI1 := Lib.hid (show okI _ = true by rw [HOI.out]; rfl)
        by_cases hk0 : k = 0
        · subst hk0
          have hg0 : decide ((0 : Int) < ((0 : Nat) : Int)) = false := by decide
          have hg1 : decide ((0 : Int) < 0) = false := by decide
          go_wp2_with fail
          go_quiet (fail)
          go_wp2
          go_roundw
          case rel => exact ⟨1, by omega, rfl, okTo_zero HP.out HOI1.out, below_drewN' (HFR.out _ HB4.out).2 _⟩
          case measure => simp [intOf]; omega
        · obtain ⟨k', rfl⟩ : ∃ k', k = k' + 1 := ⟨k - 1, by omega⟩
          obtain ⟨q, hq⟩ : ∃ q, l[k']? = some q := ⟨_, List.getElem?_eq_getElem (by omega)⟩
          obtain ⟨t0, t1, t2, t3, t4, t5⟩ := RdI.at HC.out hq (HFR.out _ HB4.out).1 (Nat.le_refl _)
          obtain ⟨q1, q2⟩ := hl q (List.mem_of_getElem? hq)
          have HQ := Lib.hid hq
          have bx : w4.cell? ⟨w.heap.size, 2, none⟩ = some (.slice (some a) l.length pc) := by rw [cell_of_row w4 _ 2 _ _ (0, 0) (((HFR.out _ HB4.out).2.block _ (Array.getElem?_eq_some_iff.1 HBX.out).1).trans HBX.out)]; rfl
          have hap := fun w' (h : Below (wr.heap.size + 1) (wr.alloc (.cells #[.bool true, .string lv, .bool lc, .bool false, .string hv2, .bool hc2] 61)) w') => (apart_at q.hi ⟨true, lv, lc⟩ q2 sl1 w').mono fun r w2 hrw => (⟨hrw.1, h.trans (hrw.2.mono (Nat.le_trans (by simp) h.size)), hrw.2⟩ : r = .returned (.bool (apartB q.hi ⟨true, lv, lc⟩)) ∧ Below (wr.heap.size + 1) (wr.alloc (.cells #[.bool true, .string lv, .bool lc, .bool false, .string hv2, .bool hc2] 61)) w2 ∧ Below w'.heap.size w' w2)
          unfold enV at hap
          have HAP := Lib.hid hap
          have hkI : (0 : Int) < ((k' + 1 : Nat) : Int) := by omega
          have hkJ : (0 : Int) < (k' : Int) + 1 := by omega
          have hkL : (k' : Int) < l.length := by omega
          have hw1 : IntKind.i64.wrap (k' : Int) = k' := IntWalk.i64_in _ ⟨by omega, by omega⟩
          have hw2 : IntKind.i64.wrap ((k' : Int) + 1 - 1) = k' := by rw [show (k' : Int) + 1 - 1 = k' by omega]; exact hw1
          have hw3 : IntKind.i64.wrap (((k' + 1 : Nat) : Int) - 1) = k' := by rw [show (((k' + 1 : Nat) : Int) - 1) = k' by omega]; exact hw1
          have hkM : (0 : Int) ≤ k' := by omega
          have ho := HB4.out
          clear hq hap
          generalize hab : apartB q.hi ⟨true, lv, lc⟩ = ab at HAP
          have HAB := Lib.hid hab
          clear hab
          go_wp2_with fail
          go_region_held3 (fun w' => w'.cell? ⟨(a.add (k' * 6)).block, (a.add (k' * 6)).off + 3, none⟩ = some (.bool q.hi.has) ∧ w'.cell? ⟨(a.add (k' * 6)).block, (a.add (k' * 6)).off + 4, none⟩ = some (.string q.hi.ver) ∧ w'.cell? ⟨(a.add (k' * 6)).block, (a.add (k' * 6)).off + 5, none⟩ = some (.bool q.hi.cl) ∧ w'.cell? ⟨wr.heap.size, 0, none⟩ = some (.bool true) ∧ w'.cell? ⟨wr.heap.size, 1, none⟩ = some (.string lv) ∧ w'.cell? ⟨wr.heap.size, 2, none⟩ = some (.bool lc) ∧ w'.cell? ⟨w.heap.size, 2, none⟩ = some (.slice (some a) l.length pc) ∧ Below (wr.heap.size + 1) (wr.alloc (.cells #[.bool true, .string lv, .bool lc, .bool false, .string hv2, .bool hc2] 61)) w')
            (first | exact ⟨t3, t4, t5, s0, s1, s2, bx, ho.drew⟩ | (with_reducible exact keepMd (by assumption)) | (with_reducible exact keepM (by assumption) (by assumption)))
            (first
              | (go_at_call 45; with_reducible refine (HAP.out _ (belowM (by assumption))).mono ?_; rintro e wq ⟨rfl, hbq⟩))
          cases ab
          · go_wp2
            go_ret
            exact ⟨ret_bool (by rw [HMB.out]; exact (okTo_gap HQ.out HP.out HAB.out).symm), (HFR.out _ (belowM (by assumption))).1⟩
          · go_wp2
            go_roundw
            case rel => exact ⟨k' + 1 + 1, by omega, by go_num, okTo_next HQ.out HP.out HOK.out HOI1.out HAB.out, (HFR.out _ (belowM (by assumption))).2⟩
            case measure => simp [intOf]; omega
      go_wp2_with fail
      refine (M3.out _).mono ?_
      rintro e w5 ⟨rfl, hb5⟩
      have HB5 := Lib.hid (HB4.out.trans (hb5.mono (Nat.le_trans (by simp) HB4.out.size)))
      clear s0 s1 s2 s3 s4 s5 hb5
      obtain ⟨s0, s1, s2, s3, s4, s5⟩ := HST.out w5 HB5.out
      cases m3
      · go_wp2
        go_ret
        exact ⟨ret_bool (by rw [HMB.out]; exact (okTo_no HP.out (by rw [HOI.out]; rfl)).symm), (HFR.out _ HB5.out).1⟩
      · have HOI1 := Lib.hid (show okI _ = true by rw [HOI.out]; rfl)
        by_cases hk0 : k = 0
        · subst hk0
          have hg0 : decide ((0 : Int) < ((0 : Nat) : Int)) = false := by decide
          have hg1 : decide ((0 : Int) < 0) = false := by decide
          go_wp2_with fail
          go_quiet (fail)
          go_wp2
          go_roundw
          case rel => exact ⟨1, by omega, rfl, okTo_zero HP.out HOI1.out, below_drewN' (HFR.out _ HB5.out).2 _⟩
          case measure => simp [intOf]; omega
        · obtain ⟨k', rfl⟩ : ∃ k', k = k' + 1 := ⟨k - 1, by omega⟩
          obtain ⟨q, hq⟩ : ∃ q, l[k']? = some q := ⟨_, List.getElem?_eq_getElem (by omega)⟩
          obtain ⟨t0, t1, t2, t3, t4, t5⟩ := RdI.at HC.out hq (HFR.out _ HB5.out).1 (Nat.le_refl _)
          obtain ⟨q1, q2⟩ := hl q (List.mem_of_getElem? hq)
          have HQ := Lib.hid hq
          have bx : w5.cell? ⟨w.heap.size, 2, none⟩ = some (.slice (some a) l.length pc) := by rw [cell_of_row w5 _ 2 _ _ (0, 0) (((HFR.out _ HB5.out).2.block _ (Array.getElem?_eq_some_iff.1 HBX.out).1).trans HBX.out)]; rfl
          have hap := fun w' (h : Below (wr.heap.size + 1) (wr.alloc (.cells #[.bool true, .string lv, .bool lc, .bool true, .string hv2, .bool hc2] 61)) w') => (apart_at q.hi ⟨true, lv, lc⟩ q2 sl1 w').mono fun r w2 hrw => (⟨hrw.1, h.trans (hrw.2.mono (Nat.le_trans (by simp) h.size)), hrw.2⟩ : r = .returned (.bool (apartB q.hi ⟨true, lv, lc⟩)) ∧ Below (wr.heap.size + 1) (wr.alloc (.cells #[.bool true, .string lv, .bool lc, .bool true, .string hv2, .bool hc2] 61)) w2 ∧ Below w'.heap.size w' w2)
          unfold enV at hap
          have HAP := Lib.hid hap
          have hkI : (0 : Int) < ((k' + 1 : Nat) : Int) := by omega
          have hkJ : (0 : Int) < (k' : Int) + 1 := by omega
          have hkL : (k' : Int) < l.length := by omega
          have hw1 : IntKind.i64.wrap (k' : Int) = k' := IntWalk.i64_in _ ⟨by omega, by omega⟩
          have hw2 : IntKind.i64.wrap ((k' : Int) + 1 - 1) = k' := by rw [show (k' : Int) + 1 - 1 = k' by omega]; exact hw1
          have hw3 : IntKind.i64.wrap (((k' + 1 : Nat) : Int) - 1) = k' := by rw [show (((k' + 1 : Nat) : Int) - 1) = k' by omega]; exact hw1
          have hkM : (0 : Int) ≤ k' := by omega
          have ho := HB5.out
          clear hq hap
          generalize hab : apartB q.hi ⟨true, lv, lc⟩ = ab at HAP
          have HAB := Lib.hid hab
          clear hab
          go_wp2_with fail
          go_region_held3 (fun w' => w'.cell? ⟨(a.add (k' * 6)).block, (a.add (k' * 6)).off + 3, none⟩ = some (.bool q.hi.has) ∧ w'.cell? ⟨(a.add (k' * 6)).block, (a.add (k' * 6)).off + 4, none⟩ = some (.string q.hi.ver) ∧ w'.cell? ⟨(a.add (k' * 6)).block, (a.add (k' * 6)).off + 5, none⟩ = some (.bool q.hi.cl) ∧ w'.cell? ⟨wr.heap.size, 0, none⟩ = some (.bool true) ∧ w'.cell? ⟨wr.heap.size, 1, none⟩ = some (.string lv) ∧ w'.cell? ⟨wr.heap.size, 2, none⟩ = some (.bool lc) ∧ w'.cell? ⟨w.heap.size, 2, none⟩ = some (.slice (some a) l.length pc) ∧ Below (wr.heap.size + 1) (wr.alloc (.cells #[.bool true, .string lv, .bool lc, .bool true, .string hv2, .bool hc2] 61)) w')
            (first | exact ⟨t3, t4, t5, s0, s1, s2, bx, ho.drew⟩ | (with_reducible exact keepMd (by assumption)) | (with_reducible exact keepM (by assumption) (by assumption)))
            (first
              | (go_at_call 45; with_reducible refine (HAP.out _ (belowM (by assumption))).mono ?_; rintro e wq ⟨rfl, hbq⟩))
          cases ab
          · go_wp2
            go_ret
            exact ⟨ret_bool (by rw [HMB.out]; exact (okTo_gap HQ.out HP.out HAB.out).symm), (HFR.out _ (belowM (by assumption))).1⟩
          · go_wp2
            go_roundw
            case rel => exact ⟨k' + 1 + 1, by omega, by go_num, okTo_next HQ.out HP.out HOK.out HOI1.out HAB.out, (HFR.out _ (belowM (by assumption))).2⟩
            case measure => simp [intOf]; omega
    · have hkl : k = l.length := by omega
      have hkI : (l.length : Int) ≤ k := by omega
      have HOK2 := Lib.hid (show okRow l = true by rw [okRow_to, ← hkl]; exact HOK.out)
      clear hkl
      go_wp2
      go_ret
      exact ⟨ret_bool (by rw [HMB.out]; exact HOK2.out.symm), HBW.out⟩
end Go.Proofs.YtnghagikchffiaaDoor
