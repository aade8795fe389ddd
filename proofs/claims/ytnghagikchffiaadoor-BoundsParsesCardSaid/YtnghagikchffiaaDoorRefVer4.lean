/-
  Layer 4: the contract of the answer's Compare. Own work.
-/
import Derived.Test.YtnghagikchffiaaDoorRefParts
namespace Go.Proofs.YtnghagikchffiaaDoor
set_option linter.unusedVariables false
set_option linter.unusedSimpArgs false
open Go.RowKit

theorem less_cmp : ∀ a b : List UInt8, (Lib.compareBytes a b = -1 ∧ Op.bytesLess a b = true) ∨ (Lib.compareBytes a b = 0 ∧ Op.bytesLess a b = false ∧ (a == b) = true) ∨ (Lib.compareBytes a b = 1 ∧ Op.bytesLess a b = false ∧ (a == b) = false)
  | [], [] => .inr (.inl ⟨rfl, rfl, rfl⟩)
  | [], _ :: _ => .inl ⟨rfl, rfl⟩
  | _ :: _, [] => .inr (.inr ⟨rfl, rfl, rfl⟩)
  | a :: xs, b :: bs => by
    have ih := less_cmp xs bs
    unfold Lib.compareBytes Op.bytesLess
    by_cases h1 : a < b
    · exact .inl ⟨by rw [if_pos h1], by simp [h1]⟩
    by_cases h2 : b < a
    · have hne : (a == b) = false := by
        rw [beq_eq_false_iff_ne]
        rintro rfl
        exact h1 h2
      exact .inr (.inr ⟨by rw [if_neg h1, if_pos h2], by simp [h1, hne], by simp [List.cons_beq_cons, hne]⟩)
    · have he : a = b := by
        rw [UInt8.lt_iff_toNat_lt] at h1 h2
        exact UInt8.toNat_inj.1 (by omega)
      subst he
      rw [if_neg h1, if_neg h1]
      have e1 : decide (a < a) = false := decide_eq_false h1
      rcases ih with ⟨c1, c2⟩ | ⟨c1, c2, c3⟩ | ⟨c1, c2, c3⟩
      · exact .inl ⟨c1, by simp [c2]⟩
      · exact .inr (.inl ⟨c1, by simp [e1, c2], by simp only [List.cons_beq_cons, c3]; simp⟩)
      · exact .inr (.inr ⟨c1, by simp [e1, c2], by simp only [List.cons_beq_cons, c3]; simp⟩)
theorem rankW_tx {t u : List UInt8} (h : rankW t = rankW u) (h7 : rankW t < 7) : t = u := by
  unfold rankW at h h7
  repeat' split at h
  all_goals first
    | (simp_all; done)
    | omega
    | (exfalso; revert h7; repeat' split
       all_goals first | (simp_all; done) | omega)
theorem rankW_ne5 (t : List UInt8) : rankW t ≠ 5 := by
  unfold rankW
  repeat' split
  all_goals omega
theorem rankP_tx {p q : Pt} (h : rankP p = rankP q) (h7 : rankP p < 7) : p.tx = q.tx := by
  have w1 := rankW_ne5 p.tx
  have w2 := rankW_ne5 q.tx
  have w3 := @rankW_tx p.tx q.tx
  unfold rankP at h h7
  by_cases hp : p.tx = [] <;> by_cases hq : q.tx = []
  · rw [hp, hq]
  · rw [if_pos hp, if_neg hq] at h
    exfalso
    split at h
    · split at h <;> omega
    · omega
  · rw [if_neg hp, if_pos hq] at h
    exfalso
    split at h
    · split at h <;> omega
    · omega
  · rw [if_neg hp, if_neg hq] at h
    rw [if_neg hp] at h7
    cases hn : p.nu <;> cases hm : q.nu <;> simp only [hn, hm, if_true, if_false, Bool.false_eq_true] at h h7
    · exact w3 h h7
    · exfalso; split at h <;> omega
    · exfalso; split at h7 <;> omega
    · exfalso; split at h7 <;> omega
theorem cI_lt {x y : Int} (h : x < y) : Lib.compareInt x y = -1 := by unfold Lib.compareInt; rw [if_pos h]
theorem cI_gt {x y : Int} (h : y < x) : Lib.compareInt x y = 1 := by unfold Lib.compareInt; rw [if_neg (by omega), if_pos h]
theorem rank_lt {p q : Pt} (h : rankP p < rankP q) : cmpPt p q = -1 := by
  rw [cmpPt_eq, cI_lt h, if_pos (by omega)]
theorem rank_gt {p q : Pt} (h : rankP q < rankP p) : cmpPt p q = 1 := by
  rw [cmpPt_eq, cI_gt h, if_pos (by omega)]
theorem compareInt_self (x : Int) : Lib.compareInt x x = 0 := by unfold Lib.compareInt; rw [if_neg (by omega), if_neg (by omega)]
theorem cmpBytes_self (x : List UInt8) : Lib.compareBytes x x = 0 := cmpBytes_ord.self x
theorem rank_same {p q : Pt} (h : rankP p = rankP q) (ht : p.tx = q.tx) : cmpPt p q = 0 := by
  rw [cmpPt_eq, h, ht, compareInt_self, compareInt_self, cmpBytes_self]; simp
theorem rank_small {p q : Pt} (h : rankP p = rankP q) (h7 : rankP p < 7) : cmpPt p q = 0 := rank_same h (rankP_tx h h7)
theorem rank_short {p q : Pt} (h : rankP p = rankP q) (h7 : 7 < rankP p) (hl : p.tx.length < q.tx.length) : cmpPt p q = -1 := by
  have hb := (rankP_bd p).2
  rw [cmpPt_eq, cI_lt (x := (p.tx.length : Int)) (y := q.tx.length) (by omega), h, compareInt_self, if_neg (by omega), if_pos (by omega), if_pos (by omega)]
theorem rank_long {p q : Pt} (h : rankP p = rankP q) (h7 : 7 < rankP p) (hl : q.tx.length < p.tx.length) : cmpPt p q = 1 := by
  have hb := (rankP_bd p).2
  rw [cmpPt_eq, cI_gt (x := (p.tx.length : Int)) (y := q.tx.length) (by omega), h, compareInt_self, if_neg (by omega), if_pos (by omega), if_pos (by omega)]
theorem rank_text {p q : Pt} (h : rankP p = rankP q) (h7 : ¬ 7 < rankP p ∨ p.tx.length = q.tx.length) : cmpPt p q = Lib.compareBytes p.tx q.tx := by
  rw [cmpPt_eq, h, compareInt_self, if_neg (by omega)]
  split
  · rcases h7 with h7 | h7
    · omega
    · rw [h7, compareInt_self, if_neg (by omega)]
  · rfl
def PtR0 : Pt := ⟨false, true, []⟩
theorem padR (p : Pt) : cmpPt p PtR0 = cmpPt p Pt0 := rfl
theorem padL (p : Pt) : cmpPt PtR0 p = cmpPt Pt0 p := rfl
theorem keep6 {B bx cy : Nat} {w w1 w2 : World} {x0 x1 x2 y0 y1 y2 : Value} (h : w1.cell? ⟨bx, 0, none⟩ = some x0 ∧ w1.cell? ⟨bx, 1, none⟩ = some x1 ∧ w1.cell? ⟨bx, 2, none⟩ = some x2 ∧ w1.cell? ⟨cy, 0, none⟩ = some y0 ∧ w1.cell? ⟨cy, 1, none⟩ = some y1 ∧ w1.cell? ⟨cy, 2, none⟩ = some y2 ∧ bx < w1.heap.size ∧ cy < w1.heap.size ∧ B ≤ w1.heap.size ∧ Below B w w1) (hb : Below w1.heap.size w1 w2) :
    w2.cell? ⟨bx, 0, none⟩ = some x0 ∧ w2.cell? ⟨bx, 1, none⟩ = some x1 ∧ w2.cell? ⟨bx, 2, none⟩ = some x2 ∧ w2.cell? ⟨cy, 0, none⟩ = some y0 ∧ w2.cell? ⟨cy, 1, none⟩ = some y1 ∧ w2.cell? ⟨cy, 2, none⟩ = some y2 ∧ bx < w2.heap.size ∧ cy < w2.heap.size ∧ B ≤ w2.heap.size ∧ Below B w w2 := by
  obtain ⟨h0, h1, h2, h3, h4, h5, h6, h7, h8, h9⟩ := h
  have hz := hb.size
  exact ⟨(hb.cell (p := ⟨bx, 0, none⟩) h6).trans h0, (hb.cell (p := ⟨bx, 1, none⟩) h6).trans h1, (hb.cell (p := ⟨bx, 2, none⟩) h6).trans h2, (hb.cell (p := ⟨cy, 0, none⟩) h7).trans h3, (hb.cell (p := ⟨cy, 1, none⟩) h7).trans h4, (hb.cell (p := ⟨cy, 2, none⟩) h7).trans h5, by omega, by omega, by omega, h9.trans (hb.mono h8)⟩
theorem keepD {B bx cy : Nat} {w w1 : World} {x0 x1 x2 y0 y1 y2 : Value} (h : w1.cell? ⟨bx, 0, none⟩ = some x0 ∧ w1.cell? ⟨bx, 1, none⟩ = some x1 ∧ w1.cell? ⟨bx, 2, none⟩ = some x2 ∧ w1.cell? ⟨cy, 0, none⟩ = some y0 ∧ w1.cell? ⟨cy, 1, none⟩ = some y1 ∧ w1.cell? ⟨cy, 2, none⟩ = some y2 ∧ bx < w1.heap.size ∧ cy < w1.heap.size ∧ B ≤ w1.heap.size ∧ Below B w w1) : w1.drew.cell? ⟨bx, 0, none⟩ = some x0 ∧ w1.drew.cell? ⟨bx, 1, none⟩ = some x1 ∧ w1.drew.cell? ⟨bx, 2, none⟩ = some x2 ∧ w1.drew.cell? ⟨cy, 0, none⟩ = some y0 ∧ w1.drew.cell? ⟨cy, 1, none⟩ = some y1 ∧ w1.drew.cell? ⟨cy, 2, none⟩ = some y2 ∧ bx < w1.drew.heap.size ∧ cy < w1.drew.heap.size ∧ B ≤ w1.drew.heap.size ∧ Below B w w1.drew := by
  obtain ⟨h0, h1, h2, h3, h4, h5, h6, h7, h8, h9⟩ := h
  exact ⟨h0, h1, h2, h3, h4, h5, h6, h7, h8, h9.drew⟩
theorem keepB6 {B bx cy : Nat} {w w1 : World} {x0 x1 x2 y0 y1 y2 : Value} (h : w1.cell? ⟨bx, 0, none⟩ = some x0 ∧ w1.cell? ⟨bx, 1, none⟩ = some x1 ∧ w1.cell? ⟨bx, 2, none⟩ = some x2 ∧ w1.cell? ⟨cy, 0, none⟩ = some y0 ∧ w1.cell? ⟨cy, 1, none⟩ = some y1 ∧ w1.cell? ⟨cy, 2, none⟩ = some y2 ∧ bx < w1.heap.size ∧ cy < w1.heap.size ∧ B ≤ w1.heap.size ∧ Below B w w1) : Below B w w1 := h.2.2.2.2.2.2.2.2.2
set_option maxHeartbeats 20000000 in
set_option maxRecDepth 100000 in
theorem refCompare_any (s t : ByteArray) (hs : s.size ≤ 100000) (ht : t.size ≤ 100000) (w : World) :
    Calls Tryd.prog 21 #[.string s, .string t] w fun e w' => e = .returned (.int .i64 (cmpB s.data.toList t.data.toList)) ∧ Below w.heap.size w w' := by
  have la := partsB_len s.data.toList
  have lb := partsB_len t.data.toList
  have h1 : s.data.toList.length = s.size := by simp
  have h2 : t.data.toList.length = t.size := by simp
  rw [h1] at la
  rw [h2] at lb
  clear h1 h2
  have ga := fun p (hp : p ∈ partsB s.data.toList) => parts_ga hp
  have gb := fun p (hp : p ∈ partsB t.data.toList) => parts_ga hp
  have P1 := Lib.hid (fun w => refParts_any s hs w)
  have P2 := Lib.hid (fun w => refParts_any t ht w)
  have HCB : cmpB s.data.toList t.data.toList = cmpL (partsB s.data.toList) (partsB t.data.toList) := rfl
  generalize partsB s.data.toList = a at *
  generalize partsB t.data.toList = b at *
  generalize cmpB s.data.toList t.data.toList = res at *
  obtain ⟨N, hN⟩ : ∃ N, N = max a.length b.length := ⟨_, rfl⟩
  have HR := Lib.hid (HCB.trans (cmpL_at (a := a) (b := b) N (by omega) (by omega)))
  clear HCB
  have HN := Lib.hid hN
  have hNs : N ≤ 1000000 := by omega
  clear hN
  have GA := Lib.hid ga
  have GB := Lib.hid gb
  clear ga gb
  go_enter Tryd.func21, Tryd.ntmps21
  go_wp2_with fail
  refine (P1.out _).mono ?_
  rintro e w1 ⟨u1, rfl, hr1, hb1⟩
  go_wp2_with fail
  refine (P2.out _).mono ?_
  rintro e w2 ⟨u2, rfl, hr2, hb2⟩
  have hr1 := hr1.below hb2 (Nat.le_refl _)
  have hbw := hb1.trans (hb2.mono hb1.size)
  obtain ⟨pa, ca, rfl, hac, _, hca⟩ := hr1
  obtain ⟨pb, cb, rfl, hbc, _, hcb⟩ := hr2
  have HA := Lib.hid hca
  have HB := Lib.hid hcb
  have HBW := Lib.hid hbw
  have hz1 := hbw.size
  clear hca hcb hbw hb1 hb2
  go_wp2
  go_loopw [7] (fun i wr => ∃ k : Nat, k ≤ N ∧ i = .int .i64 k ∧ cmpUp a b k = 0 ∧ Below w.heap.size w wr ∧ Below w2.heap.size w2 wr) (fun i _ => N - (intOf i).toNat)
  case atStart => exact ⟨0, Nat.zero_le _, rfl, rfl, HBW.out, Below.refl _ _⟩
  case round =>
    obtain ⟨k, hk, rfl, hup, hbel, hbel2⟩ := hrel
    have HUP := Lib.hid hup; clear hup
    have hz := hbel.size
    have hz2 := hbel2.size
    have hlo := HN.out
    by_cases hlt : k < N
    · by_cases ka : k < a.length
      · by_cases kb : k < b.length
        · obtain ⟨p, hpk⟩ : ∃ p, a[k]? = some p := ⟨_, List.getElem?_eq_getElem ka⟩
          have hpa := ptAt_some hpk
          have hpg := GA.out p (List.mem_of_getElem? hpk)
          obtain ⟨bp, op, rfl, hbltp, p0, p1, p2⟩ := HA.out k p hpk
          have p0 := (hbel2.cell (p := ⟨bp, op + k * 3, none⟩) hbltp).trans p0
          have p1 := (hbel2.cell (p := ⟨bp, op + k * 3 + 1, none⟩) hbltp).trans p1
          have p2 := (hbel2.cell (p := ⟨bp, op + k * 3 + 2, none⟩) hbltp).trans p2
          have ka2 : (k : Int) < a.length := by omega
          have hbp : bp < wr.heap.size := by omega
          clear hpk
          obtain ⟨q, hqk⟩ : ∃ p, b[k]? = some p := ⟨_, List.getElem?_eq_getElem kb⟩
          have hqa := ptAt_some hqk
          have hqg := GB.out q (List.mem_of_getElem? hqk)
          obtain ⟨bq, oq, rfl, hbltq, q0, q1, q2⟩ := HB.out k q hqk
          have q0 := (hbel2.cell (p := ⟨bq, oq + k * 3, none⟩) hbltq).trans q0
          have q1 := (hbel2.cell (p := ⟨bq, oq + k * 3 + 1, none⟩) hbltq).trans q1
          have q2 := (hbel2.cell (p := ⟨bq, oq + k * 3 + 2, none⟩) hbltq).trans q2
          have kb2 : (k : Int) < b.length := by omega
          have hbq : bq < wr.heap.size := by omega
          clear hqk
          have hpt : cmpPt (ptAt a k) (ptAt b k) = cmpPt p q := by rw [hpa, hqa]
          have FIN := Lib.hid (show ∀ v : Int, cmpPt p q = v → v ≠ 0 → res = v from fun v h1 h2 => by rw [HR.out, cmpUp_hit HUP.out (by rw [hpt, h1]; exact h2) hlt, hpt, h1])
          have ON := Lib.hid (show cmpPt p q = 0 → cmpUp a b (k + 1) = 0 from fun h => cmpUp_on HUP.out (by rw [hpt]; exact h))
          clear hpt hpa hqa
          have rx := fun w => rank04 p hpg w
          have ry := fun w => rank04 q hqg w
          unfold rtV at rx ry
          clear hpg hqg
          have b9p := rankP_bd p
          have lt1 := @rank_lt p q
          have lt2 := @rank_gt p q
          have lt3 := @rank_small p q
          have lt4 := @rank_same p q
          have lt5 := @rank_short p q
          have lt6 := @rank_long p q
          have lt7 := @rank_text p q
          have lc := less_cmp p.tx q.tx
          obtain ⟨xt, hxt⟩ : ∃ x, x = str p.tx := ⟨_, rfl⟩
          have hx1 : p.tx = xt.toList := by rw [hxt, tl_str]
          have hx2 : p.tx.length = xt.size := by rw [hxt, size_str]
          obtain ⟨yt, hyt⟩ : ∃ x, x = str q.tx := ⟨_, rfl⟩
          have hy1 : q.tx = yt.toList := by rw [hyt, tl_str]
          have hy2 : q.tx.length = yt.size := by rw [hyt, size_str]
          rw [hx2, hy2] at lt5 lt6 lt7
          rw [hx1, hy1] at lt4 lt7 lc
          rw [← hxt] at rx p2
          rw [← hyt] at ry q2
          clear hx1 hx2 hy1 hy2
          generalize rankP p = rp at rx lt1 lt2 lt3 lt4 lt5 lt6 lt7 b9p
          generalize rankP q = rq at ry lt1 lt2 lt3 lt4 lt5 lt6 lt7
          generalize cmpPt p q = cm at lt1 lt2 lt3 lt4 lt5 lt6 lt7 FIN ON
          generalize (!p.nu) = xn at p0 rx
          generalize p.hy = xh at p1 rx
          clear hxt
          generalize (!q.nu) = yn at q0 ry
          generalize q.hy = yh at q1 ry
          clear hyt
          have RX := Lib.hid rx
          have RY := Lib.hid ry
          clear rx ry
          rcases Int.lt_trichotomy rp rq with hr | hr | hr
          · have hne : ¬ rp = rq := by omega
            clear lt2 lt3 lt4 lt5 lt6 lt7 lc
            go_wp2_with fail
            go_region_held3 (fun w' => w'.cell? ⟨wr.heap.size, 0, none⟩ = some (.bool xn) ∧ w'.cell? ⟨wr.heap.size, 1, none⟩ = some (.bool xh) ∧ w'.cell? ⟨wr.heap.size, 2, none⟩ = some (.string xt) ∧ w'.cell? ⟨wr.heap.size + 1, 0, none⟩ = some (.bool yn) ∧ w'.cell? ⟨wr.heap.size + 1, 1, none⟩ = some (.bool yh) ∧ w'.cell? ⟨wr.heap.size + 1, 2, none⟩ = some (.string yt) ∧ wr.heap.size < w'.heap.size ∧ wr.heap.size + 1 < w'.heap.size ∧ wr.heap.size ≤ w'.heap.size ∧ Below wr.heap.size wr w')
              (first | exact keep6 (by assumption) hb3 | exact keepD (by assumption) | assumption | (refine ⟨?_, ?_, ?_, ?_, ?_, ?_, ?_, ?_, ?_, ?_⟩ <;> first | (simp [go_sem]; done) | (simp [go_sem]; omega) | (exact Below.drew (((Below.refl _ _).alloc (Nat.le_refl _) _).alloc (by simp) _)) | (exact (((Below.refl _ _).alloc (Nat.le_refl _) _).alloc (by simp) _))))
              (first
                | (go_at_call 47; first | (with_reducible refine (RX.out _).mono ?_; rintro e w3 ⟨rfl, hb3⟩) | (with_reducible refine (RY.out _).mono ?_; rintro e w3 ⟨rfl, hb3⟩)))
            go_wp2_with fail
            go_region_held3 (fun w' => w'.cell? ⟨wr.heap.size, 0, none⟩ = some (.bool xn) ∧ w'.cell? ⟨wr.heap.size, 1, none⟩ = some (.bool xh) ∧ w'.cell? ⟨wr.heap.size, 2, none⟩ = some (.string xt) ∧ w'.cell? ⟨wr.heap.size + 1, 0, none⟩ = some (.bool yn) ∧ w'.cell? ⟨wr.heap.size + 1, 1, none⟩ = some (.bool yh) ∧ w'.cell? ⟨wr.heap.size + 1, 2, none⟩ = some (.string yt) ∧ wr.heap.size < w'.heap.size ∧ wr.heap.size + 1 < w'.heap.size ∧ wr.heap.size ≤ w'.heap.size ∧ Below wr.heap.size wr w')
              (first | exact keep6 (by assumption) hb3 | exact keepD (by assumption) | assumption | (refine ⟨?_, ?_, ?_, ?_, ?_, ?_, ?_, ?_, ?_, ?_⟩ <;> first | (simp [go_sem]; done) | (simp [go_sem]; omega) | (exact Below.drew (((Below.refl _ _).alloc (Nat.le_refl _) _).alloc (by simp) _)) | (exact (((Below.refl _ _).alloc (Nat.le_refl _) _).alloc (by simp) _))))
              (first
                | (go_at_call 47; first | (with_reducible refine (RX.out _).mono ?_; rintro e w3 ⟨rfl, hb3⟩) | (with_reducible refine (RY.out _).mono ?_; rintro e w3 ⟨rfl, hb3⟩)))
            go_wp2
            go_ret
            exact ⟨ret_int (FIN.out _ (lt1 hr) (by decide)).symm, hbel.trans ((keepB6 (by assumption)).mono hz)⟩
          · obtain rfl := hr
            clear lt1 lt2
            go_wp2_with fail
            go_region_held3 (fun w' => w'.cell? ⟨wr.heap.size, 0, none⟩ = some (.bool xn) ∧ w'.cell? ⟨wr.heap.size, 1, none⟩ = some (.bool xh) ∧ w'.cell? ⟨wr.heap.size, 2, none⟩ = some (.string xt) ∧ w'.cell? ⟨wr.heap.size + 1, 0, none⟩ = some (.bool yn) ∧ w'.cell? ⟨wr.heap.size + 1, 1, none⟩ = some (.bool yh) ∧ w'.cell? ⟨wr.heap.size + 1, 2, none⟩ = some (.string yt) ∧ wr.heap.size < w'.heap.size ∧ wr.heap.size + 1 < w'.heap.size ∧ wr.heap.size ≤ w'.heap.size ∧ Below wr.heap.size wr w')
              (first | exact keep6 (by assumption) hb3 | exact keepD (by assumption) | assumption | (refine ⟨?_, ?_, ?_, ?_, ?_, ?_, ?_, ?_, ?_, ?_⟩ <;> first | (simp [go_sem]; done) | (simp [go_sem]; omega) | (exact Below.drew (((Below.refl _ _).alloc (Nat.le_refl _) _).alloc (by simp) _)) | (exact (((Below.refl _ _).alloc (Nat.le_refl _) _).alloc (by simp) _))))
              (first
                | (go_at_call 47; first | (with_reducible refine (RX.out _).mono ?_; rintro e w3 ⟨rfl, hb3⟩) | (with_reducible refine (RY.out _).mono ?_; rintro e w3 ⟨rfl, hb3⟩)))
            go_wp2_with fail
            refine (RX.out _).mono ?_
            rintro e w4 ⟨rfl, hb4⟩
            have s4 := keep6 (by assumption) hb4
            obtain ⟨c0, c1, c2, d0, d1, d2, e1, e2, e3, hbw4⟩ := s4
            have hbw5 := hbel.trans (hbw4.mono hz)
            by_cases h7 : rp < 7
            · clear lt4 lt5 lt6 lt7 lc
              go_wp2
              exact ⟨⟨k + 1, by omega, by simp, ON.out (lt3 (by trivial) h7), hbw5, hbel2.trans (hbw4.mono hz2)⟩, by simp [intOf]; omega⟩
            · have h7n : 7 ≤ rp := by omega
              clear lt3
              cases heq : (xt.toList == yt.toList)
              · go_wp2_with fail
                refine (RX.out _).mono ?_
                rintro e w5 ⟨rfl, hb5⟩
                have s5 := keep6 ⟨c0, c1, c2, d0, d1, d2, e1, e2, e3, hbw4⟩ hb5
                clear c0 c1 c2 d0 d1 d2 e1 e2 e3 hbw4 hbw5
                obtain ⟨c0, c1, c2, d0, d1, d2, e1, e2, e3, hbw4⟩ := s5
                have hbw5 := hbel.trans (hbw4.mono hz)
                by_cases h8 : 7 < rp
                · rcases Nat.lt_trichotomy xt.size yt.size with hl | hl | hl
                  · have hc2 := lt5 (by trivial) h8 hl
                    clear lt4 lt5 lt6 lt7 lc
                    have hI : (xt.size : Int) < yt.size := by omega
                    go_wp2
                    go_ret
                    exact ⟨ret_int (FIN.out _ (hc2) (by decide)).symm, hbw5⟩
                  · rcases lc with ⟨hc, hlx⟩ | ⟨hc, hlx, he⟩ | ⟨hc, hlx, he⟩
                    · have hc2 := (lt7 (by trivial) (.inr hl)).trans hc
                      clear lt4 lt5 lt6 lt7
                      go_wp2
                      go_ret
                      exact ⟨ret_int (FIN.out _ (hc2) (by decide)).symm, hbw5⟩
                    · rw [heq] at he; cases he
                    · have hc2 := (lt7 (by trivial) (.inr hl)).trans hc
                      clear lt4 lt5 lt6 lt7
                      go_wp2
                      go_ret
                      exact ⟨ret_int (FIN.out _ (hc2) (by decide)).symm, hbw5⟩
                  · have hc2 := lt6 (by trivial) h8 hl
                    clear lt4 lt5 lt6 lt7 lc
                    have hI : (yt.size : Int) < xt.size := by omega
                    go_wp2
                    go_ret
                    exact ⟨ret_int (FIN.out _ (hc2) (by decide)).symm, hbw5⟩
                · rcases lc with ⟨hc, hlx⟩ | ⟨hc, hlx, he⟩ | ⟨hc, hlx, he⟩
                  · have hc2 := (lt7 (by trivial) (.inl (by omega))).trans hc
                    clear lt4 lt5 lt6 lt7
                    go_wp2
                    go_ret
                    exact ⟨ret_int (FIN.out _ (hc2) (by decide)).symm, hbw5⟩
                  · rw [heq] at he; cases he
                  · have hc2 := (lt7 (by trivial) (.inl (by omega))).trans hc
                    clear lt4 lt5 lt6 lt7
                    go_wp2
                    go_ret
                    exact ⟨ret_int (FIN.out _ (hc2) (by decide)).symm, hbw5⟩
              · have hte : xt.toList = yt.toList := by simpa using heq
                have hc2 := lt4 (by trivial) hte
                clear lt4 lt5 lt6 lt7 lc
                go_wp2
                exact ⟨⟨k + 1, by omega, by simp, ON.out (hc2), hbw5, hbel2.trans (hbw4.mono hz2)⟩, by simp [intOf]; omega⟩
          · have hne : ¬ rp = rq := by omega
            clear lt1 lt3 lt4 lt5 lt6 lt7 lc
            go_wp2_with fail
            go_region_held3 (fun w' => w'.cell? ⟨wr.heap.size, 0, none⟩ = some (.bool xn) ∧ w'.cell? ⟨wr.heap.size, 1, none⟩ = some (.bool xh) ∧ w'.cell? ⟨wr.heap.size, 2, none⟩ = some (.string xt) ∧ w'.cell? ⟨wr.heap.size + 1, 0, none⟩ = some (.bool yn) ∧ w'.cell? ⟨wr.heap.size + 1, 1, none⟩ = some (.bool yh) ∧ w'.cell? ⟨wr.heap.size + 1, 2, none⟩ = some (.string yt) ∧ wr.heap.size < w'.heap.size ∧ wr.heap.size + 1 < w'.heap.size ∧ wr.heap.size ≤ w'.heap.size ∧ Below wr.heap.size wr w')
              (first | exact keep6 (by assumption) hb3 | exact keepD (by assumption) | assumption | (refine ⟨?_, ?_, ?_, ?_, ?_, ?_, ?_, ?_, ?_, ?_⟩ <;> first | (simp [go_sem]; done) | (simp [go_sem]; omega) | (exact Below.drew (((Below.refl _ _).alloc (Nat.le_refl _) _).alloc (by simp) _)) | (exact (((Below.refl _ _).alloc (Nat.le_refl _) _).alloc (by simp) _))))
              (first
                | (go_at_call 47; first | (with_reducible refine (RX.out _).mono ?_; rintro e w3 ⟨rfl, hb3⟩) | (with_reducible refine (RY.out _).mono ?_; rintro e w3 ⟨rfl, hb3⟩)))
            go_wp2_with fail
            go_region_held3 (fun w' => w'.cell? ⟨wr.heap.size, 0, none⟩ = some (.bool xn) ∧ w'.cell? ⟨wr.heap.size, 1, none⟩ = some (.bool xh) ∧ w'.cell? ⟨wr.heap.size, 2, none⟩ = some (.string xt) ∧ w'.cell? ⟨wr.heap.size + 1, 0, none⟩ = some (.bool yn) ∧ w'.cell? ⟨wr.heap.size + 1, 1, none⟩ = some (.bool yh) ∧ w'.cell? ⟨wr.heap.size + 1, 2, none⟩ = some (.string yt) ∧ wr.heap.size < w'.heap.size ∧ wr.heap.size + 1 < w'.heap.size ∧ wr.heap.size ≤ w'.heap.size ∧ Below wr.heap.size wr w')
              (first | exact keep6 (by assumption) hb3 | exact keepD (by assumption) | assumption | (refine ⟨?_, ?_, ?_, ?_, ?_, ?_, ?_, ?_, ?_, ?_⟩ <;> first | (simp [go_sem]; done) | (simp [go_sem]; omega) | (exact Below.drew (((Below.refl _ _).alloc (Nat.le_refl _) _).alloc (by simp) _)) | (exact (((Below.refl _ _).alloc (Nat.le_refl _) _).alloc (by simp) _))))
              (first
                | (go_at_call 47; first | (with_reducible refine (RX.out _).mono ?_; rintro e w3 ⟨rfl, hb3⟩) | (with_reducible refine (RY.out _).mono ?_; rintro e w3 ⟨rfl, hb3⟩)))
            go_wp2
            go_ret
            exact ⟨ret_int (FIN.out _ (lt2 hr) (by decide)).symm, hbel.trans ((keepB6 (by assumption)).mono hz)⟩
        · obtain ⟨p, hpk⟩ : ∃ p, a[k]? = some p := ⟨_, List.getElem?_eq_getElem ka⟩
          have hpa := ptAt_some hpk
          have hpg := GA.out p (List.mem_of_getElem? hpk)
          obtain ⟨bp, op, rfl, hbltp, p0, p1, p2⟩ := HA.out k p hpk
          have p0 := (hbel2.cell (p := ⟨bp, op + k * 3, none⟩) hbltp).trans p0
          have p1 := (hbel2.cell (p := ⟨bp, op + k * 3 + 1, none⟩) hbltp).trans p1
          have p2 := (hbel2.cell (p := ⟨bp, op + k * 3 + 2, none⟩) hbltp).trans p2
          have ka2 : (k : Int) < a.length := by omega
          have hbp : bp < wr.heap.size := by omega
          clear hpk
          have hqa : ptAt b k = Pt0 := ptAt_over (by omega)
          have kb2 : (b.length : Int) ≤ k := by omega
          obtain ⟨q, hqe⟩ : ∃ p, p = PtR0 := ⟨_, rfl⟩
          have hqg : q.nu = false → q.tx ≠ [103, 97] := by rw [hqe]; decide
          have yr : rankP q = 5 := by rw [hqe]; rfl
          have hpt : cmpPt (ptAt a k) (ptAt b k) = cmpPt p q := by rw [hpa, hqa, hqe, padR]
          have FIN := Lib.hid (show ∀ v : Int, cmpPt p q = v → v ≠ 0 → res = v from fun v h1 h2 => by rw [HR.out, cmpUp_hit HUP.out (by rw [hpt, h1]; exact h2) hlt, hpt, h1])
          have ON := Lib.hid (show cmpPt p q = 0 → cmpUp a b (k + 1) = 0 from fun h => cmpUp_on HUP.out (by rw [hpt]; exact h))
          clear hpt hpa hqa
          have rx := fun w => rank04 p hpg w
          have ry := fun w => rank04 q hqg w
          unfold rtV at rx ry
          clear hpg hqg
          have b9p := rankP_bd p
          have lt1 := @rank_lt p q
          have lt2 := @rank_gt p q
          have lt3 := @rank_small p q
          have lt4 := @rank_same p q
          have lt5 := @rank_short p q
          have lt6 := @rank_long p q
          have lt7 := @rank_text p q
          have lc := less_cmp p.tx q.tx
          obtain ⟨xt, hxt⟩ : ∃ x, x = str p.tx := ⟨_, rfl⟩
          have hx1 : p.tx = xt.toList := by rw [hxt, tl_str]
          have hx2 : p.tx.length = xt.size := by rw [hxt, size_str]
          obtain ⟨yt, hyt⟩ : ∃ x, x = str q.tx := ⟨_, rfl⟩
          have hy1 : q.tx = yt.toList := by rw [hyt, tl_str]
          have hy2 : q.tx.length = yt.size := by rw [hyt, size_str]
          rw [hx2, hy2] at lt5 lt6 lt7
          rw [hx1, hy1] at lt4 lt7 lc
          rw [← hxt] at rx p2
          rw [← hyt] at ry
          clear hx1 hx2 hy1 hy2
          generalize rankP p = rp at rx lt1 lt2 lt3 lt4 lt5 lt6 lt7 b9p
          generalize rankP q = rq at ry lt1 lt2 lt3 lt4 lt5 lt6 lt7 yr
          generalize cmpPt p q = cm at lt1 lt2 lt3 lt4 lt5 lt6 lt7 FIN ON
          generalize (!p.nu) = xn at p0 rx
          generalize p.hy = xh at p1 rx
          clear hxt
          subst hqe
          have hye : yt = ⟨#[]⟩ := by rw [hyt]; rfl
          clear hyt
          subst hye
          have ry : ∀ w, Calls Tryd.prog 47 #[.agg #[.bool false, .bool false, .string ⟨#[]⟩]] w fun e w' => e = .returned (.int .i64 rq) ∧ Below w.heap.size w w' := ry
          have RX := Lib.hid rx
          have RY := Lib.hid ry
          clear rx ry
          rcases Int.lt_trichotomy rp rq with hr | hr | hr
          · have hne : ¬ rp = rq := by omega
            clear lt2 lt3 lt4 lt5 lt6 lt7 lc
            go_wp2_with fail
            go_region_held3 (fun w' => w'.cell? ⟨wr.heap.size, 0, none⟩ = some (.bool xn) ∧ w'.cell? ⟨wr.heap.size, 1, none⟩ = some (.bool xh) ∧ w'.cell? ⟨wr.heap.size, 2, none⟩ = some (.string xt) ∧ w'.cell? ⟨wr.heap.size + 1, 0, none⟩ = some (.bool false) ∧ w'.cell? ⟨wr.heap.size + 1, 1, none⟩ = some (.bool false) ∧ w'.cell? ⟨wr.heap.size + 1, 2, none⟩ = some (.string ⟨#[]⟩) ∧ wr.heap.size < w'.heap.size ∧ wr.heap.size + 1 < w'.heap.size ∧ wr.heap.size ≤ w'.heap.size ∧ Below wr.heap.size wr w')
              (first | exact keep6 (by assumption) hb3 | exact keepD (by assumption) | assumption | (refine ⟨?_, ?_, ?_, ?_, ?_, ?_, ?_, ?_, ?_, ?_⟩ <;> first | (simp [go_sem]; done) | (simp [go_sem]; omega) | (exact Below.drew (((Below.refl _ _).alloc (Nat.le_refl _) _).alloc (by simp) _)) | (exact (((Below.refl _ _).alloc (Nat.le_refl _) _).alloc (by simp) _))))
              (first
                | (go_at_call 47; first | (with_reducible refine (RX.out _).mono ?_; rintro e w3 ⟨rfl, hb3⟩) | (with_reducible refine (RY.out _).mono ?_; rintro e w3 ⟨rfl, hb3⟩)))
            go_wp2_with fail
            go_region_held3 (fun w' => w'.cell? ⟨wr.heap.size, 0, none⟩ = some (.bool xn) ∧ w'.cell? ⟨wr.heap.size, 1, none⟩ = some (.bool xh) ∧ w'.cell? ⟨wr.heap.size, 2, none⟩ = some (.string xt) ∧ w'.cell? ⟨wr.heap.size + 1, 0, none⟩ = some (.bool false) ∧ w'.cell? ⟨wr.heap.size + 1, 1, none⟩ = some (.bool false) ∧ w'.cell? ⟨wr.heap.size + 1, 2, none⟩ = some (.string ⟨#[]⟩) ∧ wr.heap.size < w'.heap.size ∧ wr.heap.size + 1 < w'.heap.size ∧ wr.heap.size ≤ w'.heap.size ∧ Below wr.heap.size wr w')
              (first | exact keep6 (by assumption) hb3 | exact keepD (by assumption) | assumption | (refine ⟨?_, ?_, ?_, ?_, ?_, ?_, ?_, ?_, ?_, ?_⟩ <;> first | (simp [go_sem]; done) | (simp [go_sem]; omega) | (exact Below.drew (((Below.refl _ _).alloc (Nat.le_refl _) _).alloc (by simp) _)) | (exact (((Below.refl _ _).alloc (Nat.le_refl _) _).alloc (by simp) _))))
              (first
                | (go_at_call 47; first | (with_reducible refine (RX.out _).mono ?_; rintro e w3 ⟨rfl, hb3⟩) | (with_reducible refine (RY.out _).mono ?_; rintro e w3 ⟨rfl, hb3⟩)))
            go_wp2
            go_ret
            exact ⟨ret_int (FIN.out _ (lt1 hr) (by decide)).symm, hbel.trans ((keepB6 (by assumption)).mono hz)⟩
          · obtain rfl := hr
            clear lt1 lt2
            go_wp2_with fail
            go_region_held3 (fun w' => w'.cell? ⟨wr.heap.size, 0, none⟩ = some (.bool xn) ∧ w'.cell? ⟨wr.heap.size, 1, none⟩ = some (.bool xh) ∧ w'.cell? ⟨wr.heap.size, 2, none⟩ = some (.string xt) ∧ w'.cell? ⟨wr.heap.size + 1, 0, none⟩ = some (.bool false) ∧ w'.cell? ⟨wr.heap.size + 1, 1, none⟩ = some (.bool false) ∧ w'.cell? ⟨wr.heap.size + 1, 2, none⟩ = some (.string ⟨#[]⟩) ∧ wr.heap.size < w'.heap.size ∧ wr.heap.size + 1 < w'.heap.size ∧ wr.heap.size ≤ w'.heap.size ∧ Below wr.heap.size wr w')
              (first | exact keep6 (by assumption) hb3 | exact keepD (by assumption) | assumption | (refine ⟨?_, ?_, ?_, ?_, ?_, ?_, ?_, ?_, ?_, ?_⟩ <;> first | (simp [go_sem]; done) | (simp [go_sem]; omega) | (exact Below.drew (((Below.refl _ _).alloc (Nat.le_refl _) _).alloc (by simp) _)) | (exact (((Below.refl _ _).alloc (Nat.le_refl _) _).alloc (by simp) _))))
              (first
                | (go_at_call 47; first | (with_reducible refine (RX.out _).mono ?_; rintro e w3 ⟨rfl, hb3⟩) | (with_reducible refine (RY.out _).mono ?_; rintro e w3 ⟨rfl, hb3⟩)))
            go_wp2_with fail
            refine (RX.out _).mono ?_
            rintro e w4 ⟨rfl, hb4⟩
            have s4 := keep6 (by assumption) hb4
            obtain ⟨c0, c1, c2, d0, d1, d2, e1, e2, e3, hbw4⟩ := s4
            have hbw5 := hbel.trans (hbw4.mono hz)
            by_cases h7 : rp < 7
            · clear lt4 lt5 lt6 lt7 lc
              go_wp2
              exact ⟨⟨k + 1, by omega, by simp, ON.out (lt3 (by trivial) h7), hbw5, hbel2.trans (hbw4.mono hz2)⟩, by simp [intOf]; omega⟩
            · exfalso; omega
          · have hne : ¬ rp = rq := by omega
            clear lt1 lt3 lt4 lt5 lt6 lt7 lc
            go_wp2_with fail
            go_region_held3 (fun w' => w'.cell? ⟨wr.heap.size, 0, none⟩ = some (.bool xn) ∧ w'.cell? ⟨wr.heap.size, 1, none⟩ = some (.bool xh) ∧ w'.cell? ⟨wr.heap.size, 2, none⟩ = some (.string xt) ∧ w'.cell? ⟨wr.heap.size + 1, 0, none⟩ = some (.bool false) ∧ w'.cell? ⟨wr.heap.size + 1, 1, none⟩ = some (.bool false) ∧ w'.cell? ⟨wr.heap.size + 1, 2, none⟩ = some (.string ⟨#[]⟩) ∧ wr.heap.size < w'.heap.size ∧ wr.heap.size + 1 < w'.heap.size ∧ wr.heap.size ≤ w'.heap.size ∧ Below wr.heap.size wr w')
              (first | exact keep6 (by assumption) hb3 | exact keepD (by assumption) | assumption | (refine ⟨?_, ?_, ?_, ?_, ?_, ?_, ?_, ?_, ?_, ?_⟩ <;> first | (simp [go_sem]; done) | (simp [go_sem]; omega) | (exact Below.drew (((Below.refl _ _).alloc (Nat.le_refl _) _).alloc (by simp) _)) | (exact (((Below.refl _ _).alloc (Nat.le_refl _) _).alloc (by simp) _))))
              (first
                | (go_at_call 47; first | (with_reducible refine (RX.out _).mono ?_; rintro e w3 ⟨rfl, hb3⟩) | (with_reducible refine (RY.out _).mono ?_; rintro e w3 ⟨rfl, hb3⟩)))
            go_wp2_with fail
            go_region_held3 (fun w' => w'.cell? ⟨wr.heap.size, 0, none⟩ = some (.bool xn) ∧ w'.cell? ⟨wr.heap.size, 1, none⟩ = some (.bool xh) ∧ w'.cell? ⟨wr.heap.size, 2, none⟩ = some (.string xt) ∧ w'.cell? ⟨wr.heap.size + 1, 0, none⟩ = some (.bool false) ∧ w'.cell? ⟨wr.heap.size + 1, 1, none⟩ = some (.bool false) ∧ w'.cell? ⟨wr.heap.size + 1, 2, none⟩ = some (.string ⟨#[]⟩) ∧ wr.heap.size < w'.heap.size ∧ wr.heap.size + 1 < w'.heap.size ∧ wr.heap.size ≤ w'.heap.size ∧ Below wr.heap.size wr w')
              (first | exact keep6 (by assumption) hb3 | exact keepD (by assumption) | assumption | (refine ⟨?_, ?_, ?_, ?_, ?_, ?_, ?_, ?_, ?_, ?_⟩ <;> first | (simp [go_sem]; done) | (simp [go_sem]; omega) | (exact Below.drew (((Below.refl _ _).alloc (Nat.le_refl _) _).alloc (by simp) _)) | (exact (((Below.refl _ _).alloc (Nat.le_refl _) _).alloc (by simp) _))))
              (first
                | (go_at_call 47; first | (with_reducible refine (RX.out _).mono ?_; rintro e w3 ⟨rfl, hb3⟩) | (with_reducible refine (RY.out _).mono ?_; rintro e w3 ⟨rfl, hb3⟩)))
            go_wp2
            go_ret
            exact ⟨ret_int (FIN.out _ (lt2 hr) (by decide)).symm, hbel.trans ((keepB6 (by assumption)).mono hz)⟩
      · have kb : k < b.length := by omega
        have hpa : ptAt a k = Pt0 := ptAt_over (by omega)
        have ka2 : (a.length : Int) ≤ k := by omega
        obtain ⟨q, hqk⟩ : ∃ p, b[k]? = some p := ⟨_, List.getElem?_eq_getElem kb⟩
        have hqa := ptAt_some hqk
        have hqg := GB.out q (List.mem_of_getElem? hqk)
        obtain ⟨bq, oq, rfl, hbltq, q0, q1, q2⟩ := HB.out k q hqk
        have q0 := (hbel2.cell (p := ⟨bq, oq + k * 3, none⟩) hbltq).trans q0
        have q1 := (hbel2.cell (p := ⟨bq, oq + k * 3 + 1, none⟩) hbltq).trans q1
        have q2 := (hbel2.cell (p := ⟨bq, oq + k * 3 + 2, none⟩) hbltq).trans q2
        have kb2 : (k : Int) < b.length := by omega
        have hbq : bq < wr.heap.size := by omega
        clear hqk
        obtain ⟨p, hpe⟩ : ∃ p, p = PtR0 := ⟨_, rfl⟩
        have hpg : p.nu = false → p.tx ≠ [103, 97] := by rw [hpe]; decide
        have xr : rankP p = 5 := by rw [hpe]; rfl
        have hpt : cmpPt (ptAt a k) (ptAt b k) = cmpPt p q := by rw [hpa, hqa, hpe, padL]
        have FIN := Lib.hid (show ∀ v : Int, cmpPt p q = v → v ≠ 0 → res = v from fun v h1 h2 => by rw [HR.out, cmpUp_hit HUP.out (by rw [hpt, h1]; exact h2) hlt, hpt, h1])
        have ON := Lib.hid (show cmpPt p q = 0 → cmpUp a b (k + 1) = 0 from fun h => cmpUp_on HUP.out (by rw [hpt]; exact h))
        clear hpt hpa hqa
        have rx := fun w => rank04 p hpg w
        have ry := fun w => rank04 q hqg w
        unfold rtV at rx ry
        clear hpg hqg
        have b9p := rankP_bd p
        have lt1 := @rank_lt p q
        have lt2 := @rank_gt p q
        have lt3 := @rank_small p q
        have lt4 := @rank_same p q
        have lt5 := @rank_short p q
        have lt6 := @rank_long p q
        have lt7 := @rank_text p q
        have lc := less_cmp p.tx q.tx
        obtain ⟨xt, hxt⟩ : ∃ x, x = str p.tx := ⟨_, rfl⟩
        have hx1 : p.tx = xt.toList := by rw [hxt, tl_str]
        have hx2 : p.tx.length = xt.size := by rw [hxt, size_str]
        obtain ⟨yt, hyt⟩ : ∃ x, x = str q.tx := ⟨_, rfl⟩
        have hy1 : q.tx = yt.toList := by rw [hyt, tl_str]
        have hy2 : q.tx.length = yt.size := by rw [hyt, size_str]
        rw [hx2, hy2] at lt5 lt6 lt7
        rw [hx1, hy1] at lt4 lt7 lc
        rw [← hxt] at rx
        rw [← hyt] at ry q2
        clear hx1 hx2 hy1 hy2
        generalize rankP p = rp at rx lt1 lt2 lt3 lt4 lt5 lt6 lt7 b9p xr
        generalize rankP q = rq at ry lt1 lt2 lt3 lt4 lt5 lt6 lt7
        generalize cmpPt p q = cm at lt1 lt2 lt3 lt4 lt5 lt6 lt7 FIN ON
        generalize (!q.nu) = yn at q0 ry
        generalize q.hy = yh at q1 ry
        clear hyt
        subst hpe
        have hxe : xt = ⟨#[]⟩ := by rw [hxt]; rfl
        clear hxt
        subst hxe
        have rx : ∀ w, Calls Tryd.prog 47 #[.agg #[.bool false, .bool false, .string ⟨#[]⟩]] w fun e w' => e = .returned (.int .i64 rp) ∧ Below w.heap.size w w' := rx
        have RX := Lib.hid rx
        have RY := Lib.hid ry
        clear rx ry
        rcases Int.lt_trichotomy rp rq with hr | hr | hr
        · have hne : ¬ rp = rq := by omega
          clear lt2 lt3 lt4 lt5 lt6 lt7 lc
          go_wp2_with fail
          go_region_held3 (fun w' => w'.cell? ⟨wr.heap.size, 0, none⟩ = some (.bool false) ∧ w'.cell? ⟨wr.heap.size, 1, none⟩ = some (.bool false) ∧ w'.cell? ⟨wr.heap.size, 2, none⟩ = some (.string ⟨#[]⟩) ∧ w'.cell? ⟨wr.heap.size + 1, 0, none⟩ = some (.bool yn) ∧ w'.cell? ⟨wr.heap.size + 1, 1, none⟩ = some (.bool yh) ∧ w'.cell? ⟨wr.heap.size + 1, 2, none⟩ = some (.string yt) ∧ wr.heap.size < w'.heap.size ∧ wr.heap.size + 1 < w'.heap.size ∧ wr.heap.size ≤ w'.heap.size ∧ Below wr.heap.size wr w')
            (first | exact keep6 (by assumption) hb3 | exact keepD (by assumption) | assumption | (refine ⟨?_, ?_, ?_, ?_, ?_, ?_, ?_, ?_, ?_, ?_⟩ <;> first | (simp [go_sem]; done) | (simp [go_sem]; omega) | (exact Below.drew (((Below.refl _ _).alloc (Nat.le_refl _) _).alloc (by simp) _)) | (exact (((Below.refl _ _).alloc (Nat.le_refl _) _).alloc (by simp) _))))
            (first
              | (go_at_call 47; first | (with_reducible refine (RX.out _).mono ?_; rintro e w3 ⟨rfl, hb3⟩) | (with_reducible refine (RY.out _).mono ?_; rintro e w3 ⟨rfl, hb3⟩)))
          go_wp2_with fail
          go_region_held3 (fun w' => w'.cell? ⟨wr.heap.size, 0, none⟩ = some (.bool false) ∧ w'.cell? ⟨wr.heap.size, 1, none⟩ = some (.bool false) ∧ w'.cell? ⟨wr.heap.size, 2, none⟩ = some (.string ⟨#[]⟩) ∧ w'.cell? ⟨wr.heap.size + 1, 0, none⟩ = some (.bool yn) ∧ w'.cell? ⟨wr.heap.size + 1, 1, none⟩ = some (.bool yh) ∧ w'.cell? ⟨wr.heap.size + 1, 2, none⟩ = some (.string yt) ∧ wr.heap.size < w'.heap.size ∧ wr.heap.size + 1 < w'.heap.size ∧ wr.heap.size ≤ w'.heap.size ∧ Below wr.heap.size wr w')
            (first | exact keep6 (by assumption) hb3 | exact keepD (by assumption) | assumption | (refine ⟨?_, ?_, ?_, ?_, ?_, ?_, ?_, ?_, ?_, ?_⟩ <;> first | (simp [go_sem]; done) | (simp [go_sem]; omega) | (exact Below.drew (((Below.refl _ _).alloc (Nat.le_refl _) _).alloc (by simp) _)) | (exact (((Below.refl _ _).alloc (Nat.le_refl _) _).alloc (by simp) _))))
            (first
              | (go_at_call 47; first | (with_reducible refine (RX.out _).mono ?_; rintro e w3 ⟨rfl, hb3⟩) | (with_reducible refine (RY.out _).mono ?_; rintro e w3 ⟨rfl, hb3⟩)))
          go_wp2
          go_ret
          exact ⟨ret_int (FIN.out _ (lt1 hr) (by decide)).symm, hbel.trans ((keepB6 (by assumption)).mono hz)⟩
        · obtain rfl := hr
          clear lt1 lt2
          go_wp2_with fail
          go_region_held3 (fun w' => w'.cell? ⟨wr.heap.size, 0, none⟩ = some (.bool false) ∧ w'.cell? ⟨wr.heap.size, 1, none⟩ = some (.bool false) ∧ w'.cell? ⟨wr.heap.size, 2, none⟩ = some (.string ⟨#[]⟩) ∧ w'.cell? ⟨wr.heap.size + 1, 0, none⟩ = some (.bool yn) ∧ w'.cell? ⟨wr.heap.size + 1, 1, none⟩ = some (.bool yh) ∧ w'.cell? ⟨wr.heap.size + 1, 2, none⟩ = some (.string yt) ∧ wr.heap.size < w'.heap.size ∧ wr.heap.size + 1 < w'.heap.size ∧ wr.heap.size ≤ w'.heap.size ∧ Below wr.heap.size wr w')
            (first | exact keep6 (by assumption) hb3 | exact keepD (by assumption) | assumption | (refine ⟨?_, ?_, ?_, ?_, ?_, ?_, ?_, ?_, ?_, ?_⟩ <;> first | (simp [go_sem]; done) | (simp [go_sem]; omega) | (exact Below.drew (((Below.refl _ _).alloc (Nat.le_refl _) _).alloc (by simp) _)) | (exact (((Below.refl _ _).alloc (Nat.le_refl _) _).alloc (by simp) _))))
            (first
              | (go_at_call 47; first | (with_reducible refine (RX.out _).mono ?_; rintro e w3 ⟨rfl, hb3⟩) | (with_reducible refine (RY.out _).mono ?_; rintro e w3 ⟨rfl, hb3⟩)))
          go_wp2_with fail
          refine (RX.out _).mono ?_
          rintro e w4 ⟨rfl, hb4⟩
          have s4 := keep6 (by assumption) hb4
          obtain ⟨c0, c1, c2, d0, d1, d2, e1, e2, e3, hbw4⟩ := s4
          have hbw5 := hbel.trans (hbw4.mono hz)
          by_cases h7 : rp < 7
          · clear lt4 lt5 lt6 lt7 lc
            go_wp2
            exact ⟨⟨k + 1, by omega, by simp, ON.out (lt3 (by trivial) h7), hbw5, hbel2.trans (hbw4.mono hz2)⟩, by simp [intOf]; omega⟩
          · exfalso; omega
        · have hne : ¬ rp = rq := by omega
          clear lt1 lt3 lt4 lt5 lt6 lt7 lc
          go_wp2_with fail
          go_region_held3 (fun w' => w'.cell? ⟨wr.heap.size, 0, none⟩ = some (.bool false) ∧ w'.cell? ⟨wr.heap.size, 1, none⟩ = some (.bool false) ∧ w'.cell? ⟨wr.heap.size, 2, none⟩ = some (.string ⟨#[]⟩) ∧ w'.cell? ⟨wr.heap.size + 1, 0, none⟩ = some (.bool yn) ∧ w'.cell? ⟨wr.heap.size + 1, 1, none⟩ = some (.bool yh) ∧ w'.cell? ⟨wr.heap.size + 1, 2, none⟩ = some (.string yt) ∧ wr.heap.size < w'.heap.size ∧ wr.heap.size + 1 < w'.heap.size ∧ wr.heap.size ≤ w'.heap.size ∧ Below wr.heap.size wr w')
            (first | exact keep6 (by assumption) hb3 | exact keepD (by assumption) | assumption | (refine ⟨?_, ?_, ?_, ?_, ?_, ?_, ?_, ?_, ?_, ?_⟩ <;> first | (simp [go_sem]; done) | (simp [go_sem]; omega) | (exact Below.drew (((Below.refl _ _).alloc (Nat.le_refl _) _).alloc (by simp) _)) | (exact (((Below.refl _ _).alloc (Nat.le_refl _) _).alloc (by simp) _))))
            (first
              | (go_at_call 47; first | (with_reducible refine (RX.out _).mono ?_; rintro e w3 ⟨rfl, hb3⟩) | (with_reducible refine (RY.out _).mono ?_; rintro e w3 ⟨rfl, hb3⟩)))
          go_wp2_with fail
          go_region_held3 (fun w' => w'.cell? ⟨wr.heap.size, 0, none⟩ = some (.bool false) ∧ w'.cell? ⟨wr.heap.size, 1, none⟩ = some (.bool false) ∧ w'.cell? ⟨wr.heap.size, 2, none⟩ = some (.string ⟨#[]⟩) ∧ w'.cell? ⟨wr.heap.size + 1, 0, none⟩ = some (.bool yn) ∧ w'.cell? ⟨wr.heap.size + 1, 1, none⟩ = some (.bool yh) ∧ w'.cell? ⟨wr.heap.size + 1, 2, none⟩ = some (.string yt) ∧ wr.heap.size < w'.heap.size ∧ wr.heap.size + 1 < w'.heap.size ∧ wr.heap.size ≤ w'.heap.size ∧ Below wr.heap.size wr w')
            (first | exact keep6 (by assumption) hb3 | exact keepD (by assumption) | assumption | (refine ⟨?_, ?_, ?_, ?_, ?_, ?_, ?_, ?_, ?_, ?_⟩ <;> first | (simp [go_sem]; done) | (simp [go_sem]; omega) | (exact Below.drew (((Below.refl _ _).alloc (Nat.le_refl _) _).alloc (by simp) _)) | (exact (((Below.refl _ _).alloc (Nat.le_refl _) _).alloc (by simp) _))))
            (first
              | (go_at_call 47; first | (with_reducible refine (RX.out _).mono ?_; rintro e w3 ⟨rfl, hb3⟩) | (with_reducible refine (RY.out _).mono ?_; rintro e w3 ⟨rfl, hb3⟩)))
          go_wp2
          go_ret
          exact ⟨ret_int (FIN.out _ (lt2 hr) (by decide)).symm, hbel.trans ((keepB6 (by assumption)).mono hz)⟩
    · have hke : k = N := by omega
      have HKE := Lib.hid hke
      have hka : (a.length : Int) ≤ k := by omega
      have hkb : (b.length : Int) ≤ k := by omega
      clear hke hlt hlo
      go_wp2
      go_ret
      exact ⟨ret_int (by rw [HR.out, ← HKE.out, HUP.out]), hbel⟩
end Go.Proofs.YtnghagikchffiaaDoor
