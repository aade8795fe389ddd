/-
  Layer 17: a question's clauses in a variable; the closure that adds one; sat.May of a question that may be. Own work.
-/
import Derived.Test.YtgfgajekegfdgaaCls17
import Derived.Test.YtgfgajekegfdgaaHold21
namespace Go.Proofs.Ytgfgajekegfdgaa
set_option linter.unusedVariables false
set_option linter.unusedSimpArgs false
open Go.RowKit

/-- block Q is a question of n variables with these clauses -/
def QCls (w : World) (Q : Nat) (n : Int) (cs : List (List Int)) : Prop :=
  ∃ v, w.heap[Q]? = some (Obj.cells #[.int .i64 n, v] 34 (0, 0)) ∧ RowsAt w (Q + 1) v cs
theorem RowAt.of_own {w : World} {lo base : Nat} {v : Value} {c : List Int} (h : w.ownsRow base 3 1 v c.length (c.map iV)) (hlo : lo ≤ base) (hc : 0 < c.length) : RowAt w lo v c := by
  rcases h.2 with ⟨_, h0⟩ | ⟨g, cap, cur, hv, hb, hg, h1, h2, h3, h4⟩
  · omega
  · refine ⟨g, cap, cur, hv, by omega, hg, h1, by unfold maxLen at h2; exact h2, fun j n hj => ?_⟩
    have hjl := (List.getElem?_eq_some_iff.1 hj).1
    have : (cur.toList.take (c.length * 1))[j]? = some (iV n) := by rw [h4, List.getElem?_map, hj]; rfl
    rw [List.getElem?_take, if_pos (by omega)] at this
    simpa using this
theorem RowsAt.below17 {w w' : World} {lo : Nat} {v : Value} {cs : List (List Int)} (h : RowsAt w lo v cs) (hb : Below w.heap.size w w') : RowsAt w' lo v cs := by
  obtain ⟨rows, h1, h2⟩ := h
  have hg : w.grownBy w' none := ⟨hb.os, hb.tape, hb.output, hb.size, fun k hk _ => hb.block k hk⟩
  refine ⟨rows, h1.kept hg (by cases hv : v.ownBlock <;> simp), fun j c hj => ?_⟩
  obtain ⟨r, a, b⟩ := h2 j c hj
  exact ⟨r, a, b.keep fun b0 cur hb0 => hb.block b0 (Array.getElem?_eq_some_iff.1 hb0).1⟩
theorem QCls.below {w w' : World} {Q : Nat} {n : Int} {cs : List (List Int)} (h : QCls w Q n cs) (hb : Below w.heap.size w w') : QCls w' Q n cs := by
  obtain ⟨v, h1, h2⟩ := h
  exact ⟨v, (hb.block Q (Array.getElem?_eq_some_iff.1 h1).1).trans h1, h2.below17 hb⟩
theorem QCls.new (w : World) (n : Int) : QCls (w.alloc (.cells #[.int .i64 n, .slice none 0 0] 34)) w.heap.size n [] :=
  ⟨_, heap_alloc_new w _, [], World.ownsRow_nil _ _ _ _, fun j c hj => by simp at hj⟩
theorem rows_addQ {w w1 : World} {Q : Nat} {m : Int} {v v' r : Value} {cs : List (List Int)} {c : List Int} {rows : List Value} (hv : w.heap[Q]? = some (Obj.cells #[.int .i64 m, v] 34 (0, 0)))
    (hown : w.ownsRow (Q + 1) 39 1 v cs.length rows) (hrows : ∀ (j : Nat) c, cs[j]? = some c → ∃ r, rows[j]? = some r ∧ RowAt w (Q + 1) r c) (hr : RowAt w (Q + 1) r c)
    (ho : w1.ownsRow (Q + 1) 39 1 v' (cs.length + 1) (rows ++ [r])) (hg : w.grownBy w1 v.ownBlock) : QCls (w1.setCell ⟨Q, 1, none⟩ v') Q m (cs ++ [c]) := by
  have hBlt : Q < w.heap.size := (Array.getElem?_eq_some_iff.1 hv).1
  have hBown : some Q ≠ v.ownBlock := fun e => by have := (hown.lt Q e.symm).1; omega
  have hB1 : w1.heap[Q]? = some (Obj.cells #[.int .i64 m, v] 34 (0, 0)) := (hg.block Q hBlt hBown).trans hv
  have hB2 : (w1.setCell ⟨Q, 1, none⟩ v').heap[Q]? = some (Obj.cells #[.int .i64 m, v'] 34 (0, 0)) := by
    have := heap_setCell_same w1 Q 1 _ 34 v' hB1
    simpa using this
  have hsg : w1.grownBy (w1.setCell ⟨Q, 1, none⟩ v') (some Q) := ⟨rfl, rfl, rfl, by simp, fun k _ hk => heap_setCell_other w1 ⟨Q, 1, none⟩ k v' (fun e => hk (by simp [e]))⟩
  have hne' : v'.ownBlock = none ∨ v'.ownBlock ≠ some Q := .inr (fun e => by have := (ho.lt Q e).1; omega)
  have hkeep : ∀ (b : Nat) (cur : Array Value), w.heap[b]? = some (Obj.cells cur 3 (0, 0)) → (w1.setCell ⟨Q, 1, none⟩ v').heap[b]? = w.heap[b]? := by
    intro b cur hb
    have hblt : b < w.heap.size := (Array.getElem?_eq_some_iff.1 hb).1
    have hbB : b ≠ Q := fun e => by
      subst e
      rw [hv] at hb
      simp at hb
    have hbo : some b ≠ v.ownBlock := fun e => by
      rcases hown.2 with ⟨rfl, _⟩ | ⟨g, cap, cur2, rfl, _, hg2, _⟩
      · simp [Value.ownBlock] at e
      · simp [Value.ownBlock] at e
        subst e
        rw [hg2] at hb
        simp at hb
    rw [hsg.block b (Nat.lt_of_lt_of_le hblt hg.size) (by simpa using hbB), hg.block b hblt hbo]
  refine ⟨v', hB2, rows ++ [r], by simpa using ho.kept hsg hne', fun j d hj => ?_⟩
  have hlen : rows.length = cs.length := by have := hown.1; omega
  by_cases hlt : j < cs.length
  · rw [List.getElem?_append_left hlt] at hj
    obtain ⟨r0, h1, h2⟩ := hrows j d hj
    exact ⟨r0, by rw [List.getElem?_append_left (by omega)]; exact h1, h2.keep hkeep⟩
  · rw [List.getElem?_append_right (by omega)] at hj
    have hj0 : j - cs.length = 0 := by
      have := (List.getElem?_eq_some_iff.1 hj).1
      simp at this; omega
    rw [hj0] at hj
    simp at hj
    subst hj
    exact ⟨r, by rw [List.getElem?_append_right (by omega), hlen, hj0]; rfl, hr.keep hkeep⟩
/-- items' variables stay -/
def ItStay (w w' : World) : Prop := ∀ (b : Nat) cs, w.heap[b]? = some (Obj.cells cs 50 (0, 0)) → w'.heap[b]? = w.heap[b]?
theorem ItStay.of_below {w w' : World} (h : Below w.heap.size w w') : ItStay w w' := fun b cs hb => h.block b (Array.getElem?_eq_some_iff.1 hb).1
theorem ItStay.trans {w w1 w2 : World} (h : ItStay w w1) (h' : ItStay w1 w2) : ItStay w w2 := fun b cs hb => (h' b cs ((h b cs hb).trans hb)).trans (h b cs hb)
theorem it_stays {w w1 : World} {Q : Nat} {m : Int} {v v' : Value} {n : Nat} {rows : List Value} (hv : w.heap[Q]? = some (Obj.cells #[.int .i64 m, v] 34 (0, 0)))
    (hown : w.ownsRow (Q + 1) 39 1 v n rows) (hg : w.grownBy w1 v.ownBlock) : ItStay w (w1.setCell ⟨Q, 1, none⟩ v') := by
  intro b cs hb
  have hblt : b < w.heap.size := (Array.getElem?_eq_some_iff.1 hb).1
  have hbB : b ≠ Q := fun e => by
    subst e
    rw [hv] at hb
    simp at hb
  have hbo : some b ≠ v.ownBlock := fun e => by
    rcases hown.2 with ⟨rfl, _⟩ | ⟨g, cap, cur2, rfl, _, hg2, _⟩
    · simp [Value.ownBlock] at e
    · simp [Value.ownBlock] at e
      subst e
      rw [hg2] at hb
      simp at hb
  rw [heap_setCell_other w1 ⟨Q, 1, none⟩ b v' hbB, hg.block b hblt hbo]
set_option maxHeartbeats 1000000 in
theorem addQ_any (Q : Nat) (m : Int) (cs : List (List Int)) (r : Value) (c : List Int) (w : World) (h : QCls w Q m cs) (hr : RowAt w (Q + 1) r c) (hn : cs.length ≤ 4000000) :
    Calls Try.prog 23 #[r, .pointer (some ⟨Q, 0, none⟩)] w fun e w' => e = .returned (.tuple #[]) ∧ QCls w' Q m (cs ++ [c]) ∧ Below Q w w' ∧ ItStay w w' := by
  obtain ⟨v, hv, rows, hown, hrows⟩ := h
  have hstay := fun v' w1 => it_stays (v' := v') (w1 := w1) hv hown
  have HST := Lib.hid hstay; clear hstay
  have hBlt : Q < w.heap.size := (Array.getElem?_eq_some_iff.1 hv).1
  have hc0 : w.cell? ⟨Q, 1, none⟩ = some v := by rw [cell_of_row w Q 1 _ _ (0, 0) hv]; rfl
  have hadd := fun v' w1 => rows_addQ (v' := v') (w1 := w1) hv hown hrows hr
  have HADD := Lib.hid hadd; clear hadd
  have hBo : some Q ≠ v.ownBlock := fun e => by have := (hown.lt Q e.symm).1; omega
  have hfr : ∀ w1, w.grownBy w1 v.ownBlock → w1.frozen? ⟨Q, 1, none⟩ = false ∧ w1.cell? ⟨Q, 1, none⟩ = some v := fun w1 hg => by
    have hB1 : w1.heap[Q]? = some (Obj.cells #[.int .i64 m, v] 34 (0, 0)) := (hg.block Q hBlt hBo).trans hv
    exact ⟨frozen_of_row w1 Q 1 _ _ hB1, by rw [cell_of_row w1 Q 1 _ _ (0, 0) hB1]; rfl⟩
  have HFR := Lib.hid hfr; clear hfr
  obtain ⟨b, cap, cur, rfl, hrest⟩ := hr
  clear hrest hrows hv hBo
  go_enter Try.func23, Try.ntmps23
  go_wp2_with (at_builtin
               refine app1 rfl _ _ 32 39 rfl (.slice none 0 0) 24 (Q + 1) cs.length Try.underlying32 row_info rfl v _ rfl hown rfl rfl (by omega) (by omega) (by omega) ?_)
  intro v1 w2 ho1 hg1 hb2
  obtain ⟨f1, d1⟩ := HFR.out w2 hg1
  have HA := Lib.hid (HADD.out v1 w2 ho1 hg1)
  have HB := Lib.hid (HST.out v1 w2 hg1)
  obtain ⟨g1, cap1, rfl⟩ : ∃ g cap, v1 = .slice (some ⟨g, 0, none⟩) (cs.length + 1) cap := by
    rcases ho1.2 with ⟨_, h0⟩ | ⟨g, cap, cur, hv, _⟩
    · omega
    · exact ⟨g, cap, hv⟩
  clear ho1 hg1 hown hc0
  go_wp2
  go_end0
  exact ⟨rfl, HA.out, (hb2.mono (Nat.le_succ Q)).setCell (p := ⟨Q, 1, none⟩) (Nat.le_refl _) _, HB.out⟩
theorem var_any (n : Int) (h0 : -1000000 ≤ n) (h1 : n ≤ 1000000) (w : World) : Calls Try.prog 24 #[.int .i64 n] w fun e w' => e = .returned (.int .i64 (n + 1)) ∧ w = w' := by
  go_enter Try.func24, Try.ntmps24
  go_wp2
  go_ret
  exact ⟨rfl, rfl⟩
/-! sat.May of a question that may be -/
def QIn (w : World) (B : Nat) (n : Int) (v : Value) : Prop := w.cell? ⟨B, 0, none⟩ = some (.int .i64 n) ∧ w.cell? ⟨B, 1, none⟩ = some v
set_option maxRecDepth 100000 in
set_option maxHeartbeats 4000000 in
theorem satMay_ok (n lo : Nat) (hn : n ≤ 1024) (v : Value) (cs : List (List Int)) (hcl : cs.length ≤ 16384) (h1 : ∀ c ∈ cs, c.length ≤ 2048) (h2 : ∀ c ∈ cs, ∀ x ∈ c, x ≠ 0 ∧ -(n : Int) ≤ x ∧ x ≤ n) (w : World) (hr : RowsAt w lo v cs) :
    Calls Try.prog 25 #[.agg #[.int .i64 n, v]] w fun e w' => e = .returned (.int .i64 0) ∧ Below w.heap.size w w' := by
  have hb0 : Below w.heap.size w (w.alloc (.cells #[.int .i64 n, v] 34)) := (Below.refl w.heap.size w).alloc (Nat.le_refl _) _
  have hr1 := hr.below17 hb0
  have hq : QIn (w.alloc (.cells #[.int .i64 n, v] 34)) w.heap.size n v := by
    have h := heap_alloc_new w (.cells #[.int .i64 n, v] 34)
    exact ⟨by rw [cell_of_row _ _ 0 _ _ (0, 0) h]; rfl, by rw [cell_of_row _ _ 1 _ _ (0, 0) h]; rfl⟩
  obtain ⟨va, vc, rfl⟩ := rows_shape hr1
  have HB0 := Lib.hid hb0
  have HR1 := Lib.hid hr1
  have H1 := Lib.hid h1
  have H2 := Lib.hid h2
  have hnI : (n : Int) ≤ 1024 := by omega
  have hclI : (cs.length : Int) ≤ 16384 := by omega
  clear hr hr1 hb0 h1 h2
  go_enter Try.func25, Try.ntmps25
  go_upto_region 1 with fail
  generalize w.alloc (.cells #[.int .i64 n, .slice va cs.length vc] 34) = w1 at hq HB0 HR1 ⊢
  generalize w.heap.size = D at hq ⊢
  obtain ⟨x0, x1⟩ := hq
  go_wp2_with fail
  go_loop [21] (fun i => ∃ k : Nat, k ≤ cs.length ∧ i = .int .i64 k) (fun i => cs.length - (intOf i).toNat)
  case atStart => exact ⟨0, by omega, rfl⟩
  case round =>
    obtain ⟨k, hk, rfl⟩ := hrel
    by_cases hlt : k < cs.length
    · obtain ⟨c, hc⟩ : ∃ c, cs[k]? = some c := ⟨_, List.getElem?_eq_getElem hlt⟩
      obtain ⟨g, cap, hv, _, _, _, hel⟩ := rows_at HR1.out (by omega)
      cases hv
      obtain ⟨b, bc, hce, _, _, _, _⟩ := hel k c hc
      have hl : (c.length : Int) ≤ 2048 := by have := H1.out c (List.mem_of_getElem? hc); omega
      have hltI : (k : Int) < cs.length := by omega
      clear hel hc
      go_wp2
      exact ⟨⟨k + 1, by omega, by go_num⟩, by simp [intOf]; omega⟩
    · have hle : (cs.length : Int) ≤ k := by omega
      go_wp2_with fail
      go_loop [35] (fun i => ∃ q : Nat, q ≤ cs.length ∧ i = .int .i64 q) (fun i => cs.length - (intOf i).toNat)
      case atStart => exact ⟨0, by omega, rfl⟩
      case round =>
        obtain ⟨q, hq, rfl⟩ := hrel
        by_cases hlt2 : q < cs.length
        · obtain ⟨c, hc⟩ : ∃ c, cs[q]? = some c := ⟨_, List.getElem?_eq_getElem hlt2⟩
          obtain ⟨g, cap, hv, _, _, _, hel⟩ := rows_at HR1.out (by omega)
          cases hv
          obtain ⟨b, bc, hce, _, _, _, hin⟩ := hel q c hc
          have HIN := Lib.hid hin
          have HC := Lib.hid hc
          have hl : (c.length : Int) ≤ 2048 := by have := H1.out c (List.mem_of_getElem? hc); omega
          have hltI : (q : Int) < cs.length := by omega
          clear hel hc hin
          go_wp2_with fail
          go_loop [41] (fun i => ∃ p : Nat, p ≤ c.length ∧ i = .int .i64 p) (fun i => c.length - (intOf i).toNat)
          case atStart => exact ⟨0, by omega, rfl⟩
          case round =>
            obtain ⟨p, hp, rfl⟩ := hrel
            by_cases hlt3 : p < c.length
            · obtain ⟨x, hx⟩ : ∃ x, c[p]? = some x := ⟨_, List.getElem?_eq_getElem hlt3⟩
              have hcx := HIN.out p x hx
              obtain ⟨y0, y1, y2⟩ := H2.out c (List.mem_of_getElem? HC.out) x (List.mem_of_getElem? hx)
              have hz : (x == 0) = false := by simpa using y0
              have hg1 : decide ((n : Int) < x) = false := by simpa using y2
              have hg2 : decide (x < -(n : Int)) = false := by simpa using y1
              clear hx y0
              go_wp2
              exact ⟨⟨p + 1, by omega, by go_num⟩, by simp [intOf]; omega⟩
            · have hle3 : (c.length : Int) ≤ p := by omega
              go_wp2
              exact ⟨⟨q + 1, by omega, by go_num⟩, by simp [intOf]; omega⟩
        · have hle2 : (cs.length : Int) ≤ q := by omega
          go_wp2
          go_ret
          exact ⟨rfl, HB0.out⟩
end Go.Proofs.Ytgfgajekegfdgaa
