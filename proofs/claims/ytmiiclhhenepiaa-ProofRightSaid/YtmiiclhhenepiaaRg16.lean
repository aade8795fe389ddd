/-
  Layer 16: questions and answers as parameters; proof's Right. Own work.
-/
import Derived.Test.YtmiiclhhenepiaaSd16
namespace Go.Proofs.Ytmiiclhhenepiaa
set_option linter.unusedVariables false
set_option linter.unusedSimpArgs false
open Go.ChangeShapes Go.WideShapes Go.ChangeAt Go.RowKit

section
variable {H : Type} {enc : TypeId × Value → H} {W : World} {b0 base : Nat} {v : Value} {d : DataW H} {p : List MemPlace}
theorem trod_two16 {t : TypeId} {f0 f1 : Field} {fuel : Nat} {cs : List Value} {x : DataW H × List MemPlace} (ht : Try.prog.underlying t = some (.struct #[f0, f1])) (h : DataW.trod enc Try.prog W base (fun _ => true) true fuel t cs = some x) :
    ∃ y0 y1 n, DataW.trod enc Try.prog W base (fun _ => true) true n f0.type ((cs.drop f0.offset).take (Try.prog.cellsOf f0.type)) = some y0 ∧ DataW.trod enc Try.prog W base (fun _ => true) true n f1.type ((cs.drop f1.offset).take (Try.prog.cellsOf f1.type)) = some y1 := by
  obtain ⟨xs, n, _, rfl, hl, hlen, hf⟩ := DataW.trod_struct ht h
  match xs, hlen with
  | [y0, y1], _ => exact ⟨y0, y1, n, by simpa using hf 0 f0 rfl, by simpa using hf 1 f1 rfl⟩
theorem trod_four16 {t : TypeId} {f0 f1 f2 f3 : Field} {fuel : Nat} {cs : List Value} {x : DataW H × List MemPlace} (ht : Try.prog.underlying t = some (.struct #[f0, f1, f2, f3])) (h : DataW.trod enc Try.prog W base (fun _ => true) true fuel t cs = some x) :
    ∃ y0 y1 y2 y3 n, DataW.trod enc Try.prog W base (fun _ => true) true n f0.type ((cs.drop f0.offset).take (Try.prog.cellsOf f0.type)) = some y0 ∧ DataW.trod enc Try.prog W base (fun _ => true) true n f1.type ((cs.drop f1.offset).take (Try.prog.cellsOf f1.type)) = some y1 ∧ DataW.trod enc Try.prog W base (fun _ => true) true n f2.type ((cs.drop f2.offset).take (Try.prog.cellsOf f2.type)) = some y2 ∧ DataW.trod enc Try.prog W base (fun _ => true) true n f3.type ((cs.drop f3.offset).take (Try.prog.cellsOf f3.type)) = some y3 := by
  obtain ⟨xs, n, _, rfl, hl, hlen, hf⟩ := DataW.trod_struct ht h
  match xs, hlen with
  | [y0, y1, y2, y3], _ => exact ⟨y0, y1, y2, y3, n, by simpa using hf 0 f0 rfl, by simpa using hf 1 f1 rfl, by simpa using hf 2 f2 rfl, by simpa using hf 3 f3 rfl⟩
theorem open_q16 (hv : Value.okWide Try.prog W .any b0 28 v) (h : DataW.Trod enc Try.prog W base (fun _ => true) true 28 v d p) :
    ∃ vars u cs, v = .agg #[.int .i64 vars, u] ∧ Reads2 W u cs ∧ Fit64 cs := by
  obtain ⟨l0, rfl, hsz⟩ := okWide_struct Try.underlying28 hv
  obtain ⟨fuel, hf⟩ := h
  have hc : Try.prog.cellsOf 28 = 2 := by kernel_rfl
  have h1c : Try.prog.cellsOf 3 = 1 := by kernel_rfl
  have h2c : Try.prog.cellsOf 22 = 1 := by kernel_rfl
  rw [hc] at hsz
  obtain ⟨y0, y1, n, k0, k1⟩ := trod_two16 Try.underlying28 hf
  obtain ⟨l⟩ := l0
  match l, hsz with
  | [c0, c1], _ =>
    simp only [h1c, h2c, Value.cells, List.drop_zero, List.drop_succ_cons, List.take_succ_cons, List.take_zero] at k0 k1
    obtain ⟨r, hr, _, hw⟩ := DataW.trod_int Try.underlying3 k0
    simp only [List.cons.injEq, and_true] at hr
    subst hr
    obtain ⟨cs, r1, f1⟩ := rows_in k1
    exact ⟨r, c1, cs, rfl, r1, f1⟩
theorem open_a16 (hv : Value.okWide Try.prog W .any b0 40 v) (h : DataW.Trod enc Try.prog W base (fun _ => true) true 40 v d p) :
    ∃ en t u cf ts ps, v = .agg #[.int .i64 en, t, u, .int .i64 cf] ∧ Reads W bV t ts ∧ Reads2 W u ps ∧ Fit64 ps := by
  obtain ⟨l0, rfl, hsz⟩ := okWide_struct Try.underlying40 hv
  obtain ⟨fuel, hf⟩ := h
  have hc : Try.prog.cellsOf 40 = 4 := by kernel_rfl
  have h1c : Try.prog.cellsOf 3 = 1 := by kernel_rfl
  have h2c : Try.prog.cellsOf 22 = 1 := by kernel_rfl
  have h3c : Try.prog.cellsOf 23 = 1 := by kernel_rfl
  rw [hc] at hsz
  obtain ⟨y0, y1, y2, y3, n, k0, k1, k2, k3⟩ := trod_four16 Try.underlying40 hf
  obtain ⟨l⟩ := l0
  match l, hsz with
  | [c0, c1, c2, c3], _ =>
    simp only [h1c, h2c, h3c, Value.cells, List.drop_zero, List.drop_succ_cons, List.take_succ_cons, List.take_zero] at k0 k1 k2 k3
    obtain ⟨r, hr, _, hw⟩ := DataW.trod_int Try.underlying3 k0
    simp only [List.cons.injEq, and_true] at hr
    subst hr
    obtain ⟨r3, hr3, _, hw3⟩ := DataW.trod_int Try.underlying3 k3
    simp only [List.cons.injEq, and_true] at hr3
    subst hr3
    obtain ⟨ts, r1⟩ := bools_in k1
    obtain ⟨ps, r2, f2⟩ := rows_in k2
    exact ⟨r, c1, c2, r3, ts, ps, rfl, r1, r2, f2⟩
end
/-- when an answer is right -/
def RightR (vars : Int) (cs : List (List Int)) (en : Int) (ts : List Bool) (ps : List (List Int)) : Prop :=
  (en = 1 ∧ (ts.length : Int) = vars ∧ ps.length = 0 ∧ holdsI cs ts = -1) ∨ (en = 2 ∧ ts.length = 0 ∧ CheckR cs ps (-1)) ∨ (en = 3 ∧ ts.length = 0 ∧ ps.length = 0)
theorem holdsI_neg {cs : List (List Int)} {ts : List Bool} (h : holdsI cs ts < 0) : holdsI cs ts = -1 := holdsI_none (holds_neg16 h)
theorem CheckR.neg {cs ps : List (List Int)} {z : Int} (h : CheckR cs ps z) (hz : z < 0) : z = -1 := by
  rcases h with ⟨i, c, _, _, _, h⟩ | ⟨_, h⟩
  · omega
  · split at h
    · exact h
    · omega
def RgP (vars : Int) (cs : List (List Int)) (en : Int) (ts : List Bool) (ps : List (List Int)) (w : World) (e : Ending) (w' : World) : Prop := (∃ b, e = .returned (.bool b) ∧ (b = true ↔ RightR vars cs en ts ps)) ∧ Below w.heap.size w w'
structure QA (w : World) (Q0 : Nat) (vars : Int) (cv : Value) (en : Int) (tv pv : Value) (cf : Int) (w' : World) : Prop where
  q0 : w'.cell? ⟨Q0, 0, none⟩ = some (.int .i64 vars)
  q1 : w'.cell? ⟨Q0, 1, none⟩ = some cv
  a0 : w'.cell? ⟨Q0 + 1, 0, none⟩ = some (.int .i64 en)
  a1 : w'.cell? ⟨Q0 + 1, 1, none⟩ = some tv
  a2 : w'.cell? ⟨Q0 + 1, 2, none⟩ = some pv
  a3 : w'.cell? ⟨Q0 + 1, 3, none⟩ = some (.int .i64 cf)
  b : Below w.heap.size w w'
theorem QA.new (w : World) (vars : Int) (cv : Value) (en : Int) (tv pv : Value) (cf : Int) : QA w w.heap.size vars cv en tv pv cf ((w.alloc (.cells #[.int .i64 vars, cv] 28)).alloc (.cells #[.int .i64 en, tv, pv, .int .i64 cf] 40)) := by
  have g0 : ((w.alloc (.cells #[.int .i64 vars, cv] 28)).alloc (.cells #[.int .i64 en, tv, pv, .int .i64 cf] 40)).heap[w.heap.size]? = some (.cells #[.int .i64 vars, cv] 28 (0, 0)) := allocs_get [.cells #[.int .i64 vars, cv] 28, .cells #[.int .i64 en, tv, pv, .int .i64 cf] 40] w 0 _ rfl
  have g1 : ((w.alloc (.cells #[.int .i64 vars, cv] 28)).alloc (.cells #[.int .i64 en, tv, pv, .int .i64 cf] 40)).heap[w.heap.size + 1]? = some (.cells #[.int .i64 en, tv, pv, .int .i64 cf] 40 (0, 0)) := allocs_get [.cells #[.int .i64 vars, cv] 28, .cells #[.int .i64 en, tv, pv, .int .i64 cf] 40] w 1 _ rfl
  refine ⟨by rw [cell_of_row _ _ 0 _ _ (0, 0) g0]; rfl, by rw [cell_of_row _ _ 1 _ _ (0, 0) g0]; rfl, by rw [cell_of_row _ _ 0 _ _ (0, 0) g1]; rfl, by rw [cell_of_row _ _ 1 _ _ (0, 0) g1]; rfl, by rw [cell_of_row _ _ 2 _ _ (0, 0) g1]; rfl, by rw [cell_of_row _ _ 3 _ _ (0, 0) g1]; rfl, ?_⟩
  exact ((Below.refl _ _).alloc (Nat.le_refl _) _).alloc (by simp) _
theorem QA.later {w w1 w2 : World} {Q0 : Nat} {vars : Int} {cv : Value} {en : Int} {tv pv : Value} {cf : Int} (h : QA w Q0 vars cv en tv pv cf w1) (hb : Below w1.heap.size w1 w2) : QA w Q0 vars cv en tv pv cf w2 := by
  have k : ∀ a u, w1.cell? a = some u → w2.cell? a = some u := fun a u e => (World.cell?_of_block (hb.block _ (World.block_lt_of_cell? w1 _ e))).trans e
  exact ⟨k _ _ h.q0, k _ _ h.q1, k _ _ h.a0, k _ _ h.a1, k _ _ h.a2, k _ _ h.a3, then16 h.b hb⟩
set_option maxRecDepth 100000 in
set_option maxHeartbeats 4000000 in
theorem PRight_any (vars en cf : Int) (cv tv pv : Value) (cs ps : List (List Int)) (ts : List Bool) (w : World) (hc : Reads2 w cv cs) (hf : Fit64 cs) (hm : Mild16 cs) (hl1 : cs.length ≤ 100) (hl2 : ∀ c ∈ cs, c.length ≤ 20) (ht : Reads w bV tv ts) (hp : Reads2 w pv ps) (hf2 : Fit64 ps) (hl3 : ps.length ≤ 100) (hl4 : ∀ c ∈ ps, c.length ≤ 20) :
    Calls Try.prog 18 #[.agg #[.int .i64 vars, cv], .agg #[.int .i64 en, tv, pv, .int .i64 cf]] w (RgP vars cs en ts ps w) := by
  have HC := Lib.hid hc
  have HT := Lib.hid ht
  have HP := Lib.hid hp
  obtain ⟨a, cp, rfl, hlen, _⟩ := hc
  obtain ⟨ta, tc, rfl, htlen, _⟩ := reads_shape ht
  obtain ⟨pa, pc, rfl, hplen, _⟩ := hp
  obtain ⟨T, hT⟩ : ∃ T, T = ts.length := ⟨_, rfl⟩
  obtain ⟨L, hL⟩ : ∃ L, L = ps.length := ⟨_, rfl⟩
  have hTI : (T : Int) ≤ 9223372036854775807 := by omega
  have hLI : (L : Int) ≤ 9223372036854775807 := by omega
  have HRR := Lib.hid (show RightR vars cs en ts ps ↔ ((en = 1 ∧ (T : Int) = vars ∧ L = 0 ∧ holdsI cs ts = -1) ∨ (en = 2 ∧ T = 0 ∧ CheckR cs ps (-1)) ∨ (en = 3 ∧ T = 0 ∧ L = 0)) by unfold RightR; rw [hT, hL])
  rw [← hT] at HT ⊢
  rw [← hL] at HP ⊢
  have HQ := Lib.hid (QA.new w vars (.slice a cs.length cp) en (.slice ta T tc) (.slice pa L pc) cf)
  have hlL : L ≤ 100 := by omega
  have HLe := Lib.hid hL
  clear ht hlen htlen hplen hT hL hl3
  go_enter Try.func18, Try.ntmps18
  go_upto_region 1 with fail
  generalize (w.alloc (.cells #[.int .i64 vars, .slice a cs.length cp] 28)).alloc (.cells #[.int .i64 en, .slice ta T tc, .slice pa L pc, .int .i64 cf] 40) = w2 at HQ ⊢
  obtain ⟨Q0, hQ0⟩ : ∃ Q0, Q0 = w.heap.size := ⟨_, rfl⟩
  rw [← hQ0] at HQ ⊢
  clear hQ0
  obtain ⟨q0, q1, a0, a1, a2, a3, hb2⟩ := HQ.out
  have HBB := Lib.hid hb2
  clear hb2
  by_cases h1 : en = 1
  · subst h1
    by_cases hv : (T : Int) = vars
    · by_cases hp0 : L = 0
      · subst hp0
        have HH := Lib.hid (PHolds_any vars _ _ cs ts w2 (HC.out.then16 HBB.out) (HT.out.below HBB.out (Nat.le_refl _)) hm)
        have HZ := Lib.hid (fun h => holdsI_neg (cs := cs) (ts := ts) h)
        generalize holdsI cs ts = z at HH HRR HZ
        go_wp2_with fail
        refine HH.out.mono ?_
        rintro e w3 ⟨rfl, hb3⟩
        have HB3 := Lib.hid (then16 HBB.out hb3)
        clear hb3 HH
        go_wp2
        go_ret
        refine ⟨⟨decide (z < 0), rfl, ?_⟩, HB3.out⟩
        rw [decide_eq_true_eq]
        constructor
        · intro h
          exact HRR.out.2 (.inl ⟨by trivial, hv, by trivial, HZ.out h⟩)
        · intro h
          rcases HRR.out.1 h with h | h | h
          · obtain ⟨k1, k2, k3, k4⟩ := h
            omega
          · obtain ⟨k1, k2, k3⟩ := h
            omega
          · obtain ⟨k1, k2, k3⟩ := h
            omega
      · have hp0I : ¬ (L : Int) = 0 := by omega
        go_wp2
        go_ret
        refine ⟨⟨_, rfl, ⟨fun h => (by first | (cases h; done) | (simp at h; omega) | (simp at h)), fun h => ?_⟩⟩, HBB.out⟩
        rcases HRR.out.1 h with h | h | h
        · obtain ⟨k1, k2, k3, k4⟩ := h
          omega
        · obtain ⟨k1, k2, k3⟩ := h
          omega
        · obtain ⟨k1, k2, k3⟩ := h
          omega
    · have HRV := HRR
      go_wp2
      go_ret
      refine ⟨⟨_, rfl, ⟨fun h => (by first | (cases h; done) | (simp at h; omega) | (simp at h)), fun h => ?_⟩⟩, HBB.out⟩
      rcases HRR.out.1 h with h | h | h
      · obtain ⟨k1, k2, k3, k4⟩ := h
        omega
      · obtain ⟨k1, k2, k3⟩ := h
        omega
      · obtain ⟨k1, k2, k3⟩ := h
        omega
  · by_cases h2 : en = 2
    · subst h2
      by_cases ht0 : T = 0
      · subst ht0
        have HH := Lib.hid (Check_any vars _ _ cs ps w2 (HC.out.then16 HBB.out) hf hl1 hl2 (HP.out.then16 HBB.out) hf2 (by rw [← HLe.out]; exact hlL) hl4)
        go_wp2_with fail
        refine HH.out.mono ?_
        rintro e w3 ⟨⟨z, rfl, hz⟩, hb3⟩
        have HB3 := Lib.hid (then16 HBB.out hb3)
        have HZ := Lib.hid hz
        clear hb3 HH hz
        go_wp2
        go_ret
        refine ⟨⟨decide (z < 0), rfl, ?_⟩, HB3.out⟩
        rw [decide_eq_true_eq]
        constructor
        · intro h
          refine HRR.out.2 (.inr (.inl ⟨by trivial, by trivial, ?_⟩))
          have := HZ.out.neg h
          rw [← this]
          exact HZ.out
        · intro h
          rcases HRR.out.1 h with h | h | h
          · obtain ⟨k1, k2, k3, k4⟩ := h
            omega
          · obtain ⟨k1, k2, k3⟩ := h
            have := HZ.out.uniq k3
            omega
          · obtain ⟨k1, k2, k3⟩ := h
            omega
      · have ht0I : ¬ (T : Int) = 0 := by omega
        go_wp2
        go_ret
        refine ⟨⟨_, rfl, ⟨fun h => (by first | (cases h; done) | (simp at h; omega) | (simp at h)), fun h => ?_⟩⟩, HBB.out⟩
        rcases HRR.out.1 h with h | h | h
        · obtain ⟨k1, k2, k3, k4⟩ := h
          omega
        · obtain ⟨k1, k2, k3⟩ := h
          omega
        · obtain ⟨k1, k2, k3⟩ := h
          omega
    · by_cases h3 : en = 3
      · subst h3
        by_cases ht0 : T = 0
        · subst ht0
          by_cases hp0 : L = 0
          · subst hp0
            go_wp2
            go_ret
            exact ⟨⟨true, rfl, ⟨fun _ => HRR.out.2 (.inr (.inr ⟨by trivial, by trivial, by trivial⟩)), fun _ => rfl⟩⟩, HBB.out⟩
          · have hp0I : ¬ (L : Int) = 0 := by omega
            go_wp2
            go_ret
            refine ⟨⟨_, rfl, ⟨fun h => (by first | (cases h; done) | (simp at h; omega) | (simp at h)), fun h => ?_⟩⟩, HBB.out⟩
            rcases HRR.out.1 h with h | h | h
            · obtain ⟨k1, k2, k3, k4⟩ := h
              omega
            · obtain ⟨k1, k2, k3⟩ := h
              omega
            · obtain ⟨k1, k2, k3⟩ := h
              omega
        · have ht0I : ¬ (T : Int) = 0 := by omega
          go_wp2
          go_ret
          refine ⟨⟨_, rfl, ⟨fun h => (by first | (cases h; done) | (simp at h; omega) | (simp at h)), fun h => ?_⟩⟩, HBB.out⟩
          rcases HRR.out.1 h with h | h | h
          · obtain ⟨k1, k2, k3, k4⟩ := h
            omega
          · obtain ⟨k1, k2, k3⟩ := h
            omega
          · obtain ⟨k1, k2, k3⟩ := h
            omega
      · have HRV := HRR
        go_wp2
        go_ret
        refine ⟨⟨_, rfl, ⟨fun h => (by first | (cases h; done) | (simp at h; omega) | (simp at h)), fun h => ?_⟩⟩, HBB.out⟩
        rcases HRR.out.1 h with h | h | h
        · obtain ⟨k1, k2, k3, k4⟩ := h
          omega
        · obtain ⟨k1, k2, k3⟩ := h
          omega
        · obtain ⟨k1, k2, k3⟩ := h
          omega
end Go.Proofs.Ytmiiclhhenepiaa
