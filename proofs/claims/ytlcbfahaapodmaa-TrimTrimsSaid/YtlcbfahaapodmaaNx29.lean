/-
  Layer 29: newWork, the walk. Own work.
-/
import Derived.Test.YtlcbfahaapodmaaNw29
import Derived.Test.YtlcbfahaapodmaaMy29
namespace Go.Proofs.Ytlcbfahaapodmaa
set_option linter.unusedVariables false
set_option linter.unusedSimpArgs false
open Go.RowKit

theorem own_kept0 {w w' : World} {base : Nat} {e : TypeId} {size n : Nat} {v : Value} {xs : List Value} (h : w.ownsRow base e size v n xs) (hg : w.grownBy w' none) : w'.ownsRow base e size v n xs := by
  refine h.kept hg ?_
  cases hb : v.ownBlock with
  | none => exact .inl rfl
  | some b => exact .inr (by simp)
theorem KW.pushN {w w4 w5 : World} {n0 n : Nat} {M : Wm} {S S' : Ws} (h : KW w n0 M S noW) (hn : S.L.length = n) {c : List Int} {v' : Value} (hS : S' = { S with L := S.L ++ [c] }) (hg1 : w.grownBy w4 none) (hc : w4.ownsRow n0 3 1 v' c.length (c.map iV)) (hc2 : ∀ b, v'.ownBlock = some b → w.heap.size ≤ b ∧ b < w4.heap.size)
    {g cap : Nat} (ho : w5.ownsRow n0 27 1 (.slice (some ⟨g, 0, none⟩) (n + 1) cap) (n + 1) (((List.range n).map fun i => M.hd (.cl i)) ++ [v'])) (hg2 : w4.grownBy w5 (M.hd .lst).ownBlock) (hat : (M.hd .lst).ownBlock = some g ∨ (w4.heap.size ≤ g ∧ g < w5.heap.size)) :
    w5.cell? ⟨M.K, 1, none⟩ = some (M.hd .lst) ∧ w5.frozen? ⟨M.K, 1, none⟩ = false ∧ ∃ M' : Wm, M'.K = M.K ∧ KW (w5.setCell ⟨M.K, 1, none⟩ (.slice (some ⟨g, 0, none⟩) (n + 1) cap)) n0 M' S' noW ∧ ∀ N, N ≤ n0 → Below N w (w5.setCell ⟨M.K, 1, none⟩ (.slice (some ⟨g, 0, none⟩) (n + 1) cap)) := by
  subst hn
  subst hS
  obtain ⟨u1, u2, f, hk⟩ := h.pushCl (x := 0) hg1 hc hc2 ho hg2 hat
  refine ⟨u1, u2, ⟨M.K, _, f⟩, rfl, hk, fun N hN => ?_⟩
  have hKn : n0 ≤ M.K := Nat.not_lt.1 fun hlt => by
    have h1 := h.tK
    rw [h.lo _ hlt] at h1
    cases h1
  have hb1 : Below N w w4 := (Below.refl N w).grown hg1 (Nat.le_trans hN h.base) (fun k hk => by cases hk)
  have hb2 : Below N w w5 := hb1.grown hg2 (Nat.le_trans hN (Nat.le_trans h.base hg1.size)) (fun k hk => by
    refine Nat.not_lt.1 fun hlt => ?_
    have h1 := h.thn (t := .lst) rfl rfl hk
    rw [h.lo k (by omega)] at h1
    cases h1)
  exact hb2.grown (row := some M.K) ⟨rfl, rfl, rfl, by simp, fun k _ hk => heap_setCell_other w5 _ k _ (fun e => hk (by simp [e]))⟩ (by have h1 := h.base; have h2 := hg1.size; have h3 := hg2.size; omega) (fun k hk => by cases hk; omega)
theorem grown_below0 {w w' : World} {N : Nat} (h : w.grownBy w' none) (hN : N ≤ w.heap.size) : Below N w w' := (Below.refl N w).grown h hN (fun k h => by cases h)
theorem Reads2.below29 {w w' : World} {v : Value} {cs : List (List Int)} {B : Nat} (h : Reads2 w v cs) (hb : Below B w w') (hB : w.heap.size ≤ B) : Reads2 w' v cs := by
  obtain ⟨a, c, h1, h2, h3⟩ := h
  refine ⟨a, c, h1, h2, fun j d hj => ?_⟩
  obtain ⟨b, r, e, hr, hd⟩ := h3 j d hj
  exact ⟨b, r, e, (hb.cell (Nat.lt_of_lt_of_le (World.block_lt_of_cell? w _ hr) hB)).trans hr, hd.below hb hB⟩
/-- one header more, a step of a region that draws -/
theorem step_appL {ops : Array Oper} {E : Prop} {o : Oper} {a : Act} {K : Act → World → Prop} {Q : Exit → Act → World → Prop} (hgd : o.guard = none) (s x : Operand)
    (ho : o.op = .call { callee := .builtin .append, args := #[s, x], argTypes := #[22, 22] }) (w2 : World) (ua : Option Addr) (un uc : Nat) {base n : Nat} {v : Value} {xs : List Value} (hsv : a.eval s = v) (hx : a.eval x = .slice (some ⟨w2.heap.size, 0, none⟩) 1 1)
    (hown : w2.ownsRow base 27 1 v n xs) (hn : n ≤ 1000000) (hbase : base ≤ w2.heap.size)
    (hK : ∀ g cap w', w'.ownsRow base 27 1 (.slice (some ⟨g, 0, none⟩) (n + 1) cap) (n + 1) (xs ++ [.slice ua un uc]) → w2.grownBy w' v.ownBlock → (v.ownBlock = some g ∨ (w2.heap.size ≤ g ∧ g < w'.heap.size)) → K (a.put o.dst (.slice (some ⟨g, 0, none⟩) (n + 1) cap)) w') :
    if Region.wanted o (yielded ops a.tmps) = true then Oper.wp Try.prog o a (w2.alloc (.cells #[.slice ua un uc] 27)) K Q else E := by
  obtain ⟨i, hi, hz, hsize, hby⟩ := info_parts row29_info
  refine step_append_lies _ hgd s x 22 ho base 27 i _ 1 24 Try.underlying22 hi hz hsize hby rfl (by omega) v n xs hsv (hown.alloc _) ⟨w2.heap.size, 0, none⟩ 1 1 [.slice ua un uc] hx rfl (cell_one_new w2 _ _) (by simp [Value.oneCell']) (by omega) (by simp only [maxLen]; omega) (by omega) (by simp; omega) _ rfl ?_
  intro g cap w' h2 h3 h4 h5
  refine hK g cap w' h2 ⟨h3.os, h3.tape, h3.output, Nat.le_trans (by simp) h3.size, fun k hk hne => (h3.block k (by simp; omega) hne).trans (Below.heap_alloc _ _ _ hk)⟩ ?_
  rcases h4 with h4 | h4
  · exact .inl h4
  · exact .inr ⟨by rw [h4]; simp, (h2.lt g rfl).2⟩
theorem start_fin {w : World} {N vars m X1 X2 X3 : Nat} (hn : N ≤ w.heap.size)
    (h1 : w.ownsRow N 4 1 (.slice (some ⟨X1, 0, none⟩) m m) m (madeCells (Value.cells (.bool false)) (m * 1)).toList)
    (h2 : w.ownsRow N 27 1 (.slice (some ⟨X2, 0, none⟩) (2 * vars + 1) (2 * vars + 1)) (2 * vars + 1) (madeCells (Value.cells (.slice none 0 0)) ((2 * vars + 1) * 1)).toList)
    (h3 : w.ownsRow N 3 1 (.slice (some ⟨X3, 0, none⟩) (2 * vars + 1) (2 * vars + 1)) (2 * vars + 1) (madeCells (Value.cells (.int .i64 0)) ((2 * vars + 1) * 1)).toList) (d4 : X1 ≠ X2) (d5 : X1 ≠ X3) (d6 : X2 ≠ X3) :
    ∃ M : Wm, M.K = w.heap.size ∧ KW (w.alloc (.cells #[.int .i64 (vars : Int), .slice none 0 0, .slice (some ⟨X1, 0, none⟩) m m, .bool false, .bool false, .slice none 0 0, .int .i64 0, .slice (some ⟨X2, 0, none⟩) (2 * vars + 1) (2 * vars + 1), .slice (some ⟨X3, 0, none⟩) (2 * vars + 1) (2 * vars + 1), .bool false, .int .i64 0, .int .i64 0, .int .i64 0, .slice none 0 0, .slice none 0 0] 56)) N M (newS vars m) noW := by
  have b1 := (h1.lt X1 rfl).2
  have b2 := (h2.lt X2 rfl).2
  have b3 := (h3.lt X3 rfl).2
  have e1 : ∀ (z : Value) n, z.cells = #[z] → (madeCells z.cells (n * 1)).toList = List.replicate n z := fun z n hz => by
    rw [hz, Nat.mul_one]; exact toList_madeCells_one _ _
  rw [e1 _ _ rfl] at h1 h2 h3
  exact ⟨_, rfl, KW.start (by simp; omega) hn (by simp) (by omega) (by omega) (by omega) d4 d5 d6 (h1.alloc _) (h2.alloc _) (h3.alloc _) (heap_alloc_new _ _)⟩
theorem bool29_info2 : (Try.prog.info? 4).map (fun i => (i.zero, i.size, i.bytes)) = some (some (.bool false), 1, 1) := by kernel_rfl
section
set_option maxHeartbeats 1000000 in
set_option maxRecDepth 100000 in
theorem newWork29_any {vars : Nat} {cs : List (List Int)} (cv : Value) (w : World) (hv : vars ≤ 100000) (hc : Reads2 w cv cs) (hl : cs.length ≤ 1000000) (hll : ∀ c ∈ cs, c.length ≤ 1000000) :
    Calls Try.prog 17 #[.agg #[.int .i64 (vars : Int), cv]] w fun e w' => ∃ M : Wm, e = .returned (.pointer (some ⟨M.K, 0, none⟩)) ∧ KW w' w.heap.size M { newS vars cs.length with L := cs } noW ∧ Below w.heap.size w w' := by
  obtain ⟨ca, cp, rfl, hlen, hrow⟩ := hc
  have hg : w.grownBy (w.alloc (.cells #[.int .i64 (vars : Int), .slice ca cs.length cp] 24)) none := World.grownBy_alloc _ _ _
  have HC := Lib.hid (show Reads2 (w.alloc (.cells #[.int .i64 (vars : Int), .slice ca cs.length cp] 24)) (.slice ca cs.length cp) cs from Reads2.kept ⟨ca, cp, rfl, hlen, hrow⟩ hg)
  have HG0 := Lib.hid hg
  have hB0 : (w.alloc (.cells #[.int .i64 (vars : Int), .slice ca cs.length cp] 24)).cell? ⟨w.heap.size, 0, none⟩ = some (.int .i64 (vars : Int)) := cell_of_row _ _ 0 _ _ (0, 0) (heap_alloc_new _ _)
  have hB1 : (w.alloc (.cells #[.int .i64 (vars : Int), .slice ca cs.length cp] 24)).cell? ⟨w.heap.size, 1, none⟩ = some (.slice ca cs.length cp) := cell_of_row _ _ 1 _ _ (0, 0) (heap_alloc_new _ _)
  obtain ⟨ib, hb1, hb2, hb3, hb4⟩ := info_parts bool29_info2
  obtain ⟨ii, hi1, hi2, hi3, hi4⟩ := info_parts int29_info
  obtain ⟨ir, hr1, hr2, hr3, hr4⟩ := info_parts row29_info
  have hw2 : IntKind.i64.wrap (2 * (vars : Int)) = 2 * (vars : Int) := IntWalk.i64_in _ ⟨by omega, by omega⟩
  have hw3 : IntKind.i64.wrap (2 * (vars : Int) + 1) = 2 * (vars : Int) + 1 := IntWalk.i64_in _ ⟨by omega, by omega⟩
  have hn0 : w.heap.size ≤ (w.alloc (.cells #[.int .i64 (vars : Int), .slice ca cs.length cp] 24)).heap.size := hg.size
  have HCW := Lib.hid (show Reads2 w (.slice ca cs.length cp) cs from ⟨ca, cp, rfl, hlen, hrow⟩)
  clear hg hrow hlen
  go_enter Try.func17, Try.ntmps17
  go_upto_region 1 with fail
  generalize w.alloc (.cells #[.int .i64 (vars : Int), .slice ca cs.length cp] 24) = W1 at HC HG0 hB0 hB1 hn0 ⊢
  generalize hN : w.heap.size = N at hB0 hB1 hn0 ⊢
  obtain ⟨Wd, hWd⟩ : ∃ Wd, Wd = W1.drew := ⟨_, rfl⟩
  have a0 : Wd.cell? ⟨N, 0, none⟩ = some (.int .i64 (vars : Int)) := by rw [hWd]; exact hB0
  have b0 : Wd.cell? ⟨N, 1, none⟩ = some (.slice ca cs.length cp) := by rw [hWd]; exact hB1
  have n0 : N ≤ Wd.heap.size := by rw [hWd]; exact hn0
  have g0 : Wd.grownBy Wd none := World.grownBy.refl _ _
  have HBD := Lib.hid (show Below N w Wd from by rw [hWd]; exact ((Below.refl N w).grown HG0.out (Nat.le_of_eq hN.symm) (fun k h => by cases h)).drew)
  clear hn0
  go_cut [3] from 6 to 23 (fun p wx => ∃ M : Wm, p = .pointer (some ⟨M.K, 0, none⟩) ∧ KW wx N M (newS vars cs.length) noW ∧ Below N w wx ∧ wx.cell? ⟨N, 1, none⟩ = some (.slice ca cs.length cp))
  case first =>
    refine wp_region_held_drew (S := (fun w' => w'.cell? ⟨N, 0, none⟩ = some (.int .i64 (vars : Int)) ∧ w'.cell? ⟨N, 1, none⟩ = some (.slice ca cs.length cp))) (by kernel_rfl) (by (try dsimp only); rw [← hWd]; exact ⟨a0, b0⟩) (fun hHeld => ?_)
    rw [← hWd] at hHeld ⊢
    clear hWd
    refine wpAnyH_take (i := 0) (v := ?_) (by (simp only [List.getElem?_toArray, List.getElem?_cons_succ, List.getElem?_cons_zero]; rfl)) (by kernel_rfl) (by kernel_rfl) (by kernel_rfl) (by intro _ _ _ h; exact h) (Or.inl ⟨by rfl, ?_⟩) (by assumption) ?_
    rotate_left
    · (intro w hSw; (try dsimp only at hSw); obtain ⟨q0, q1⟩ := hSw; go_simp; try (with_reducible rfl))
    simp only [Act.put, List.setIfInBounds_toArray, List.set_cons_zero, List.set_cons_succ]
    refine wpAnyH_take (i := 1) (v := ?_) (by (simp only [List.getElem?_toArray, List.getElem?_cons_succ, List.getElem?_cons_zero]; rfl)) (by kernel_rfl) (by kernel_rfl) (by kernel_rfl) (by intro _ _ _ h; exact h) (Or.inl ⟨by rfl, ?_⟩) (by assumption) ?_
    rotate_left
    · (intro w hSw; (try dsimp only at hSw); obtain ⟨q0, q1⟩ := hSw; go_simp; try (with_reducible rfl))
    simp only [Act.put, List.setIfInBounds_toArray, List.set_cons_zero, List.set_cons_succ]
    refine wpAnyH_take (i := 2) (v := ?_) (by (simp only [List.getElem?_toArray, List.getElem?_cons_succ, List.getElem?_cons_zero]; rfl)) (by kernel_rfl) (by kernel_rfl) (by kernel_rfl) (by intro _ _ _ h; exact h) (Or.inl ⟨by rfl, ?_⟩) (by assumption) ?_
    rotate_left
    · (intro w hSw; (try dsimp only at hSw); obtain ⟨q0, q1⟩ := hSw; go_simp; try (with_reducible rfl))
    simp only [Act.put, List.setIfInBounds_toArray, List.set_cons_zero, List.set_cons_succ]
    refine wpAnyH_take (i := 3) (v := ?_) (by (simp only [List.getElem?_toArray, List.getElem?_cons_succ, List.getElem?_cons_zero]; rfl)) (by kernel_rfl) (by kernel_rfl) (by kernel_rfl) (by intro _ _ _ h; exact h) (Or.inl ⟨by rfl, ?_⟩) (by assumption) ?_
    rotate_left
    · (intro w hSw; (try dsimp only at hSw); obtain ⟨q0, q1⟩ := hSw; go_simp; try (with_reducible rfl))
    simp only [Act.put, List.setIfInBounds_toArray, List.set_cons_zero, List.set_cons_succ]
    refine wpAnyH_take (i := 4) (v := ?_) (by (simp only [List.getElem?_toArray, List.getElem?_cons_succ, List.getElem?_cons_zero]; rfl)) (by kernel_rfl) (by kernel_rfl) (by kernel_rfl) (by intro _ _ _ h; exact h) (Or.inl ⟨by rfl, ?_⟩) (by assumption) ?_
    rotate_left
    · (intro w hSw; (try dsimp only at hSw); obtain ⟨q0, q1⟩ := hSw; go_simp; try (with_reducible rfl))
    simp only [Act.put, List.setIfInBounds_toArray, List.set_cons_zero, List.set_cons_succ]
    refine wpAnyH_take (i := 6) (v := ?_) (by (simp only [List.getElem?_toArray, List.getElem?_cons_succ, List.getElem?_cons_zero]; rfl)) (by kernel_rfl) (by kernel_rfl) (by kernel_rfl) (by intro _ _ _ h; exact h) (Or.inl ⟨by rfl, ?_⟩) (by assumption) ?_
    rotate_left
    · (intro w hSw; (try dsimp only at hSw); obtain ⟨q0, q1⟩ := hSw; go_simp; try (with_reducible rfl))
    simp only [Act.put, List.setIfInBounds_toArray, List.set_cons_zero, List.set_cons_succ]
    refine wpAnyH_take (i := 7) (v := ?_) (by (simp only [List.getElem?_toArray, List.getElem?_cons_succ, List.getElem?_cons_zero]; rfl)) (by kernel_rfl) (by kernel_rfl) (by kernel_rfl) (by intro _ _ _ h; exact h) (Or.inl ⟨by rfl, ?_⟩) (by assumption) ?_
    rotate_left
    · (intro w hSw; (try dsimp only at hSw); obtain ⟨q0, q1⟩ := hSw; go_simp; try (with_reducible rfl))
    simp only [Act.put, List.setIfInBounds_toArray, List.set_cons_zero, List.set_cons_succ]
    refine wpAnyH_take (i := 8) (v := ?_) (by (simp only [List.getElem?_toArray, List.getElem?_cons_succ, List.getElem?_cons_zero]; rfl)) (by kernel_rfl) (by kernel_rfl) (by kernel_rfl) (by intro _ _ _ h; exact h) (Or.inl ⟨by rfl, ?_⟩) (by assumption) ?_
    rotate_left
    · (intro w hSw; (try dsimp only at hSw); obtain ⟨q0, q1⟩ := hSw; go_simp; try (with_reducible rfl))
    simp only [Act.put, List.setIfInBounds_toArray, List.set_cons_zero, List.set_cons_succ]
    refine wpAnyH_take (i := 9) (v := ?_) (by (simp only [List.getElem?_toArray, List.getElem?_cons_succ, List.getElem?_cons_zero]; rfl)) (by kernel_rfl) (by kernel_rfl) (by kernel_rfl) (by intro _ _ _ h; exact h) (Or.inl ⟨by rfl, ?_⟩) (by assumption) ?_
    rotate_left
    · (intro w hSw; (try dsimp only at hSw); obtain ⟨q0, q1⟩ := hSw; go_simp; try (with_reducible rfl))
    simp only [Act.put, List.setIfInBounds_toArray, List.set_cons_zero, List.set_cons_succ]
    refine wpAnyH_take (i := 11) (v := ?_) (by (simp only [List.getElem?_toArray, List.getElem?_cons_succ, List.getElem?_cons_zero]; rfl)) (by kernel_rfl) (by kernel_rfl) (by kernel_rfl) (by intro _ _ _ h; exact h) (Or.inl ⟨by rfl, ?_⟩) (by assumption) ?_
    rotate_left
    · (intro w hSw; (try dsimp only at hSw); obtain ⟨q0, q1⟩ := hSw; go_simp; try (with_reducible rfl))
    simp only [Act.put, List.setIfInBounds_toArray, List.set_cons_zero, List.set_cons_succ]
    refine wpAnyH_take (i := 12) (v := ?_) (by (simp only [List.getElem?_toArray, List.getElem?_cons_succ, List.getElem?_cons_zero]; rfl)) (by kernel_rfl) (by kernel_rfl) (by kernel_rfl) (by intro _ _ _ h; exact h) (Or.inl ⟨by rfl, ?_⟩) (by assumption) ?_
    rotate_left
    · (intro w hSw; (try dsimp only at hSw); obtain ⟨q0, q1⟩ := hSw; go_simp; try (with_reducible rfl))
    simp only [Act.put, List.setIfInBounds_toArray, List.set_cons_zero, List.set_cons_succ]
    refine wpAnyH_take (i := 13) (v := ?_) (by (simp only [List.getElem?_toArray, List.getElem?_cons_succ, List.getElem?_cons_zero]; rfl)) (by kernel_rfl) (by kernel_rfl) (by kernel_rfl) (by intro _ _ _ h; exact h) (Or.inl ⟨by rfl, ?_⟩) (by assumption) ?_
    rotate_left
    · (intro w hSw; (try dsimp only at hSw); obtain ⟨q0, q1⟩ := hSw; go_simp; try (with_reducible rfl))
    simp only [Act.put, List.setIfInBounds_toArray, List.set_cons_zero, List.set_cons_succ]
    refine wpAnyH_take (i := 14) (v := ?_) (by (simp only [List.getElem?_toArray, List.getElem?_cons_succ, List.getElem?_cons_zero]; rfl)) (by kernel_rfl) (by kernel_rfl) (by kernel_rfl) (by intro _ _ _ h; exact h) (Or.inl ⟨by rfl, ?_⟩) (by assumption) ?_
    rotate_left
    · (intro w hSw; (try dsimp only at hSw); obtain ⟨q0, q1⟩ := hSw; go_simp; try (with_reducible rfl))
    simp only [Act.put, List.setIfInBounds_toArray, List.set_cons_zero, List.set_cons_succ]
    refine wpAnyH_ready (rs := [5, 10, 15]) (by kernel_rfl) (by simp) ?_
    refine AllReadyH.cons (by (simp only [List.getElem?_toArray, List.getElem?_cons_succ, List.getElem?_cons_zero]; rfl)) (fun K hK => ?_) (AllReadyH.cons (by (simp only [List.getElem?_toArray, List.getElem?_cons_succ, List.getElem?_cons_zero]; rfl)) (fun K hK => ?_) (AllReadyH.cons (by (simp only [List.getElem?_toArray, List.getElem?_cons_succ, List.getElem?_cons_zero]; rfl)) (fun K hK => ?_) AllReadyH.nil))
    · refine step_make29 rfl (.tmp 10) (.tmp 10) 40 rfl N 4 ib (.bool false) 1 Try.underlying40 hb1 hb2 hb3 .i64 .i64 _ _ (cs.length) (by rfl) (by rfl) (by omega) (by omega) (by rw [hb4]; omega) (by unfold maxLen; omega) n0 ?_
      intro w1 oG r1
      have a1 := r1.cell a0 (by simp)
      have b1 := r1.cell b0 (by simp)
      have s1 := r1.size
      have n1 : N ≤ w1.heap.size := Nat.le_trans n0 s1
      have lG : Wd.heap.size < w1.heap.size := (World.ownsRow.lt oG _ rfl).2
      have g1 := g0.trans r1
      refine hK.out _ _ (by (try dsimp only); exact ⟨a1, b1⟩) (fun hHeld => ?_)
      clear hK K
      try simp only [Act.put, List.setIfInBounds_toArray, List.set_cons_zero, List.set_cons_succ]
      refine wpAnyH_ready (rs := [10, 15]) (by kernel_rfl) (by simp) ?_
      refine AllReadyH.cons (by (simp only [List.getElem?_toArray, List.getElem?_cons_succ, List.getElem?_cons_zero]; rfl)) (fun K hK => ?_) (AllReadyH.cons (by (simp only [List.getElem?_toArray, List.getElem?_cons_succ, List.getElem?_cons_zero]; rfl)) (fun K hK => ?_) AllReadyH.nil)
      · refine step_make29 rfl (.tmp 15) (.tmp 15) 22 rfl N 27 ir (.slice none 0 0) 1 Try.underlying22 hr1 hr2 hr3 .i64 .i64 _ _ (2 * vars + 1) (by rfl) (by rfl) (by omega) (by omega) (by rw [hr4]; omega) (by unfold maxLen; omega) n1 ?_
        intro w2 oS r2
        have a2 := r2.cell a1 (by simp)
        have b2 := r2.cell b1 (by simp)
        have s2 := r2.size
        have n2 : N ≤ w2.heap.size := Nat.le_trans n1 s2
        have lS : w1.heap.size < w2.heap.size := (World.ownsRow.lt oS _ rfl).2
        have g2 := g1.trans r2
        replace oG := World.ownsRow.kept oG r2 (.inr (by simp [Value.ownBlock]))
        refine hK.out _ _ (by (try dsimp only); exact ⟨a2, b2⟩) (fun hHeld => ?_)
        clear hK K
        try simp only [Act.put, List.setIfInBounds_toArray, List.set_cons_zero, List.set_cons_succ]
        refine wpAnyH_ready (rs := [15]) (by kernel_rfl) (by simp) ?_
        refine AllReadyH.cons (by (simp only [List.getElem?_toArray, List.getElem?_cons_succ, List.getElem?_cons_zero]; rfl)) (fun K hK => ?_) AllReadyH.nil
        refine step_make29 rfl (.tmp 20) (.tmp 20) 27 rfl N 3 ii (.int .i64 0) 1 Try.underlying27 hi1 hi2 hi3 .i64 .i64 _ _ (2 * vars + 1) (by rfl) (by rfl) (by omega) (by omega) (by rw [hi4]; omega) (by unfold maxLen; omega) n2 ?_
        intro w3 oC r3
        have a3 := r3.cell a2 (by simp)
        have b3 := r3.cell b2 (by simp)
        have s3 := r3.size
        have n3 : N ≤ w3.heap.size := Nat.le_trans n2 s3
        have lC : w2.heap.size < w3.heap.size := (World.ownsRow.lt oC _ rfl).2
        have g3 := g2.trans r3
        replace oG := World.ownsRow.kept oG r3 (.inr (by simp [Value.ownBlock]))
        replace oS := World.ownsRow.kept oS r3 (.inr (by simp [Value.ownBlock]))
        refine hK.out _ _ (by (try dsimp only); exact ⟨a3, b3⟩) (fun hHeld => ?_)
        clear hK K
        try simp only [Act.put, List.setIfInBounds_toArray, List.set_cons_zero, List.set_cons_succ]
        refine wpAnyH_take (i := 16) (v := ?_) (by (simp only [List.getElem?_toArray, List.getElem?_cons_succ, List.getElem?_cons_zero]; rfl)) (by kernel_rfl) (by kernel_rfl) (by kernel_rfl) (by intro _ _ _ h; exact h) (Or.inl ⟨by rfl, ?_⟩) (by assumption) ?_
        rotate_left
        · (intro w hSw; (try dsimp only at hSw); obtain ⟨q0, q1⟩ := hSw; go_simp; try (with_reducible rfl))
        simp only [Act.put, List.setIfInBounds_toArray, List.set_cons_zero, List.set_cons_succ]
        refine wpAnyH_ready (rs := [17]) (by kernel_rfl) (by simp) ?_
        refine AllReadyH.cons (by (simp only [List.getElem?_toArray, List.getElem?_cons_succ, List.getElem?_cons_zero]; rfl)) (fun K hK => ?_) AllReadyH.nil
        go_simp
        have hfin := start_fin (vars := vars) (m := cs.length) n3 oG oS oC (by omega) (by omega) (by omega)
        refine hK.out _ _ (by (try dsimp only); exact ⟨(World.grownBy_alloc _ _ none).cell a3 (by simp), (World.grownBy_alloc _ _ none).cell b3 (by simp)⟩) (fun hHeld => ?_)
        clear hK K
        try simp only [Act.put, List.setIfInBounds_toArray, List.set_cons_zero, List.set_cons_succ]
        refine wpAnyH_take (i := 18) (v := ?_) (by (simp only [List.getElem?_toArray, List.getElem?_cons_succ, List.getElem?_cons_zero]; rfl)) (by kernel_rfl) (by kernel_rfl) (by kernel_rfl) (by intro _ _ _ h; exact h) (Or.inl ⟨by rfl, ?_⟩) (by assumption) ?_
        rotate_left
        · (intro w hSw; (try dsimp only at hSw); obtain ⟨q0, q1⟩ := hSw; go_simp; try (with_reducible rfl))
        simp only [Act.put, List.setIfInBounds_toArray, List.set_cons_zero, List.set_cons_succ]
        refine wpAnyH_done (by kernel_rfl) ?_ _
        go_wp2_with fail
        go_meet
        obtain ⟨M, f1, f2⟩ := hfin
        exact ⟨M, by rw [f1], f2, (HBD.out.trans (grown_below0 g3 n0)).alloc (by have := HBD.out.size; omega) _, (World.grownBy_alloc _ _ none).cell b3 (by simp)⟩
      · refine step_make29 rfl (.tmp 20) (.tmp 20) 27 rfl N 3 ii (.int .i64 0) 1 Try.underlying27 hi1 hi2 hi3 .i64 .i64 _ _ (2 * vars + 1) (by rfl) (by rfl) (by omega) (by omega) (by rw [hi4]; omega) (by unfold maxLen; omega) n1 ?_
        intro w2 oC r2
        have a2 := r2.cell a1 (by simp)
        have b2 := r2.cell b1 (by simp)
        have s2 := r2.size
        have n2 : N ≤ w2.heap.size := Nat.le_trans n1 s2
        have lC : w1.heap.size < w2.heap.size := (World.ownsRow.lt oC _ rfl).2
        have g2 := g1.trans r2
        replace oG := World.ownsRow.kept oG r2 (.inr (by simp [Value.ownBlock]))
        refine hK.out _ _ (by (try dsimp only); exact ⟨a2, b2⟩) (fun hHeld => ?_)
        clear hK K
        try simp only [Act.put, List.setIfInBounds_toArray, List.set_cons_zero, List.set_cons_succ]
        refine wpAnyH_ready (rs := [10]) (by kernel_rfl) (by simp) ?_
        refine AllReadyH.cons (by (simp only [List.getElem?_toArray, List.getElem?_cons_succ, List.getElem?_cons_zero]; rfl)) (fun K hK => ?_) AllReadyH.nil
        refine step_make29 rfl (.tmp 15) (.tmp 15) 22 rfl N 27 ir (.slice none 0 0) 1 Try.underlying22 hr1 hr2 hr3 .i64 .i64 _ _ (2 * vars + 1) (by rfl) (by rfl) (by omega) (by omega) (by rw [hr4]; omega) (by unfold maxLen; omega) n2 ?_
        intro w3 oS r3
        have a3 := r3.cell a2 (by simp)
        have b3 := r3.cell b2 (by simp)
        have s3 := r3.size
        have n3 : N ≤ w3.heap.size := Nat.le_trans n2 s3
        have lS : w2.heap.size < w3.heap.size := (World.ownsRow.lt oS _ rfl).2
        have g3 := g2.trans r3
        replace oG := World.ownsRow.kept oG r3 (.inr (by simp [Value.ownBlock]))
        replace oC := World.ownsRow.kept oC r3 (.inr (by simp [Value.ownBlock]))
        refine hK.out _ _ (by (try dsimp only); exact ⟨a3, b3⟩) (fun hHeld => ?_)
        clear hK K
        try simp only [Act.put, List.setIfInBounds_toArray, List.set_cons_zero, List.set_cons_succ]
        refine wpAnyH_take (i := 16) (v := ?_) (by (simp only [List.getElem?_toArray, List.getElem?_cons_succ, List.getElem?_cons_zero]; rfl)) (by kernel_rfl) (by kernel_rfl) (by kernel_rfl) (by intro _ _ _ h; exact h) (Or.inl ⟨by rfl, ?_⟩) (by assumption) ?_
        rotate_left
        · (intro w hSw; (try dsimp only at hSw); obtain ⟨q0, q1⟩ := hSw; go_simp; try (with_reducible rfl))
        simp only [Act.put, List.setIfInBounds_toArray, List.set_cons_zero, List.set_cons_succ]
        refine wpAnyH_ready (rs := [17]) (by kernel_rfl) (by simp) ?_
        refine AllReadyH.cons (by (simp only [List.getElem?_toArray, List.getElem?_cons_succ, List.getElem?_cons_zero]; rfl)) (fun K hK => ?_) AllReadyH.nil
        go_simp
        have hfin := start_fin (vars := vars) (m := cs.length) n3 oG oS oC (by omega) (by omega) (by omega)
        refine hK.out _ _ (by (try dsimp only); exact ⟨(World.grownBy_alloc _ _ none).cell a3 (by simp), (World.grownBy_alloc _ _ none).cell b3 (by simp)⟩) (fun hHeld => ?_)
        clear hK K
        try simp only [Act.put, List.setIfInBounds_toArray, List.set_cons_zero, List.set_cons_succ]
        refine wpAnyH_take (i := 18) (v := ?_) (by (simp only [List.getElem?_toArray, List.getElem?_cons_succ, List.getElem?_cons_zero]; rfl)) (by kernel_rfl) (by kernel_rfl) (by kernel_rfl) (by intro _ _ _ h; exact h) (Or.inl ⟨by rfl, ?_⟩) (by assumption) ?_
        rotate_left
        · (intro w hSw; (try dsimp only at hSw); obtain ⟨q0, q1⟩ := hSw; go_simp; try (with_reducible rfl))
        simp only [Act.put, List.setIfInBounds_toArray, List.set_cons_zero, List.set_cons_succ]
        refine wpAnyH_done (by kernel_rfl) ?_ _
        go_wp2_with fail
        go_meet
        obtain ⟨M, f1, f2⟩ := hfin
        exact ⟨M, by rw [f1], f2, (HBD.out.trans (grown_below0 g3 n0)).alloc (by have := HBD.out.size; omega) _, (World.grownBy_alloc _ _ none).cell b3 (by simp)⟩
    · refine step_make29 rfl (.tmp 15) (.tmp 15) 22 rfl N 27 ir (.slice none 0 0) 1 Try.underlying22 hr1 hr2 hr3 .i64 .i64 _ _ (2 * vars + 1) (by rfl) (by rfl) (by omega) (by omega) (by rw [hr4]; omega) (by unfold maxLen; omega) n0 ?_
      intro w1 oS r1
      have a1 := r1.cell a0 (by simp)
      have b1 := r1.cell b0 (by simp)
      have s1 := r1.size
      have n1 : N ≤ w1.heap.size := Nat.le_trans n0 s1
      have lS : Wd.heap.size < w1.heap.size := (World.ownsRow.lt oS _ rfl).2
      have g1 := g0.trans r1
      refine hK.out _ _ (by (try dsimp only); exact ⟨a1, b1⟩) (fun hHeld => ?_)
      clear hK K
      try simp only [Act.put, List.setIfInBounds_toArray, List.set_cons_zero, List.set_cons_succ]
      refine wpAnyH_ready (rs := [5, 15]) (by kernel_rfl) (by simp) ?_
      refine AllReadyH.cons (by (simp only [List.getElem?_toArray, List.getElem?_cons_succ, List.getElem?_cons_zero]; rfl)) (fun K hK => ?_) (AllReadyH.cons (by (simp only [List.getElem?_toArray, List.getElem?_cons_succ, List.getElem?_cons_zero]; rfl)) (fun K hK => ?_) AllReadyH.nil)
      · refine step_make29 rfl (.tmp 10) (.tmp 10) 40 rfl N 4 ib (.bool false) 1 Try.underlying40 hb1 hb2 hb3 .i64 .i64 _ _ (cs.length) (by rfl) (by rfl) (by omega) (by omega) (by rw [hb4]; omega) (by unfold maxLen; omega) n1 ?_
        intro w2 oG r2
        have a2 := r2.cell a1 (by simp)
        have b2 := r2.cell b1 (by simp)
        have s2 := r2.size
        have n2 : N ≤ w2.heap.size := Nat.le_trans n1 s2
        have lG : w1.heap.size < w2.heap.size := (World.ownsRow.lt oG _ rfl).2
        have g2 := g1.trans r2
        replace oS := World.ownsRow.kept oS r2 (.inr (by simp [Value.ownBlock]))
        refine hK.out _ _ (by (try dsimp only); exact ⟨a2, b2⟩) (fun hHeld => ?_)
        clear hK K
        try simp only [Act.put, List.setIfInBounds_toArray, List.set_cons_zero, List.set_cons_succ]
        refine wpAnyH_ready (rs := [15]) (by kernel_rfl) (by simp) ?_
        refine AllReadyH.cons (by (simp only [List.getElem?_toArray, List.getElem?_cons_succ, List.getElem?_cons_zero]; rfl)) (fun K hK => ?_) AllReadyH.nil
        refine step_make29 rfl (.tmp 20) (.tmp 20) 27 rfl N 3 ii (.int .i64 0) 1 Try.underlying27 hi1 hi2 hi3 .i64 .i64 _ _ (2 * vars + 1) (by rfl) (by rfl) (by omega) (by omega) (by rw [hi4]; omega) (by unfold maxLen; omega) n2 ?_
        intro w3 oC r3
        have a3 := r3.cell a2 (by simp)
        have b3 := r3.cell b2 (by simp)
        have s3 := r3.size
        have n3 : N ≤ w3.heap.size := Nat.le_trans n2 s3
        have lC : w2.heap.size < w3.heap.size := (World.ownsRow.lt oC _ rfl).2
        have g3 := g2.trans r3
        replace oS := World.ownsRow.kept oS r3 (.inr (by simp [Value.ownBlock]))
        replace oG := World.ownsRow.kept oG r3 (.inr (by simp [Value.ownBlock]))
        refine hK.out _ _ (by (try dsimp only); exact ⟨a3, b3⟩) (fun hHeld => ?_)
        clear hK K
        try simp only [Act.put, List.setIfInBounds_toArray, List.set_cons_zero, List.set_cons_succ]
        refine wpAnyH_take (i := 16) (v := ?_) (by (simp only [List.getElem?_toArray, List.getElem?_cons_succ, List.getElem?_cons_zero]; rfl)) (by kernel_rfl) (by kernel_rfl) (by kernel_rfl) (by intro _ _ _ h; exact h) (Or.inl ⟨by rfl, ?_⟩) (by assumption) ?_
        rotate_left
        · (intro w hSw; (try dsimp only at hSw); obtain ⟨q0, q1⟩ := hSw; go_simp; try (with_reducible rfl))
        simp only [Act.put, List.setIfInBounds_toArray, List.set_cons_zero, List.set_cons_succ]
        refine wpAnyH_ready (rs := [17]) (by kernel_rfl) (by simp) ?_
        refine AllReadyH.cons (by (simp only [List.getElem?_toArray, List.getElem?_cons_succ, List.getElem?_cons_zero]; rfl)) (fun K hK => ?_) AllReadyH.nil
        go_simp
        have hfin := start_fin (vars := vars) (m := cs.length) n3 oG oS oC (by omega) (by omega) (by omega)
        refine hK.out _ _ (by (try dsimp only); exact ⟨(World.grownBy_alloc _ _ none).cell a3 (by simp), (World.grownBy_alloc _ _ none).cell b3 (by simp)⟩) (fun hHeld => ?_)
        clear hK K
        try simp only [Act.put, List.setIfInBounds_toArray, List.set_cons_zero, List.set_cons_succ]
        refine wpAnyH_take (i := 18) (v := ?_) (by (simp only [List.getElem?_toArray, List.getElem?_cons_succ, List.getElem?_cons_zero]; rfl)) (by kernel_rfl) (by kernel_rfl) (by kernel_rfl) (by intro _ _ _ h; exact h) (Or.inl ⟨by rfl, ?_⟩) (by assumption) ?_
        rotate_left
        · (intro w hSw; (try dsimp only at hSw); obtain ⟨q0, q1⟩ := hSw; go_simp; try (with_reducible rfl))
        simp only [Act.put, List.setIfInBounds_toArray, List.set_cons_zero, List.set_cons_succ]
        refine wpAnyH_done (by kernel_rfl) ?_ _
        go_wp2_with fail
        go_meet
        obtain ⟨M, f1, f2⟩ := hfin
        exact ⟨M, by rw [f1], f2, (HBD.out.trans (grown_below0 g3 n0)).alloc (by have := HBD.out.size; omega) _, (World.grownBy_alloc _ _ none).cell b3 (by simp)⟩
      · refine step_make29 rfl (.tmp 20) (.tmp 20) 27 rfl N 3 ii (.int .i64 0) 1 Try.underlying27 hi1 hi2 hi3 .i64 .i64 _ _ (2 * vars + 1) (by rfl) (by rfl) (by omega) (by omega) (by rw [hi4]; omega) (by unfold maxLen; omega) n1 ?_
        intro w2 oC r2
        have a2 := r2.cell a1 (by simp)
        have b2 := r2.cell b1 (by simp)
        have s2 := r2.size
        have n2 : N ≤ w2.heap.size := Nat.le_trans n1 s2
        have lC : w1.heap.size < w2.heap.size := (World.ownsRow.lt oC _ rfl).2
        have g2 := g1.trans r2
        replace oS := World.ownsRow.kept oS r2 (.inr (by simp [Value.ownBlock]))
        refine hK.out _ _ (by (try dsimp only); exact ⟨a2, b2⟩) (fun hHeld => ?_)
        clear hK K
        try simp only [Act.put, List.setIfInBounds_toArray, List.set_cons_zero, List.set_cons_succ]
        refine wpAnyH_ready (rs := [5]) (by kernel_rfl) (by simp) ?_
        refine AllReadyH.cons (by (simp only [List.getElem?_toArray, List.getElem?_cons_succ, List.getElem?_cons_zero]; rfl)) (fun K hK => ?_) AllReadyH.nil
        refine step_make29 rfl (.tmp 10) (.tmp 10) 40 rfl N 4 ib (.bool false) 1 Try.underlying40 hb1 hb2 hb3 .i64 .i64 _ _ (cs.length) (by rfl) (by rfl) (by omega) (by omega) (by rw [hb4]; omega) (by unfold maxLen; omega) n2 ?_
        intro w3 oG r3
        have a3 := r3.cell a2 (by simp)
        have b3 := r3.cell b2 (by simp)
        have s3 := r3.size
        have n3 : N ≤ w3.heap.size := Nat.le_trans n2 s3
        have lG : w2.heap.size < w3.heap.size := (World.ownsRow.lt oG _ rfl).2
        have g3 := g2.trans r3
        replace oS := World.ownsRow.kept oS r3 (.inr (by simp [Value.ownBlock]))
        replace oC := World.ownsRow.kept oC r3 (.inr (by simp [Value.ownBlock]))
        refine hK.out _ _ (by (try dsimp only); exact ⟨a3, b3⟩) (fun hHeld => ?_)
        clear hK K
        try simp only [Act.put, List.setIfInBounds_toArray, List.set_cons_zero, List.set_cons_succ]
        refine wpAnyH_take (i := 16) (v := ?_) (by (simp only [List.getElem?_toArray, List.getElem?_cons_succ, List.getElem?_cons_zero]; rfl)) (by kernel_rfl) (by kernel_rfl) (by kernel_rfl) (by intro _ _ _ h; exact h) (Or.inl ⟨by rfl, ?_⟩) (by assumption) ?_
        rotate_left
        · (intro w hSw; (try dsimp only at hSw); obtain ⟨q0, q1⟩ := hSw; go_simp; try (with_reducible rfl))
        simp only [Act.put, List.setIfInBounds_toArray, List.set_cons_zero, List.set_cons_succ]
        refine wpAnyH_ready (rs := [17]) (by kernel_rfl) (by simp) ?_
        refine AllReadyH.cons (by (simp only [List.getElem?_toArray, List.getElem?_cons_succ, List.getElem?_cons_zero]; rfl)) (fun K hK => ?_) AllReadyH.nil
        go_simp
        have hfin := start_fin (vars := vars) (m := cs.length) n3 oG oS oC (by omega) (by omega) (by omega)
        refine hK.out _ _ (by (try dsimp only); exact ⟨(World.grownBy_alloc _ _ none).cell a3 (by simp), (World.grownBy_alloc _ _ none).cell b3 (by simp)⟩) (fun hHeld => ?_)
        clear hK K
        try simp only [Act.put, List.setIfInBounds_toArray, List.set_cons_zero, List.set_cons_succ]
        refine wpAnyH_take (i := 18) (v := ?_) (by (simp only [List.getElem?_toArray, List.getElem?_cons_succ, List.getElem?_cons_zero]; rfl)) (by kernel_rfl) (by kernel_rfl) (by kernel_rfl) (by intro _ _ _ h; exact h) (Or.inl ⟨by rfl, ?_⟩) (by assumption) ?_
        rotate_left
        · (intro w hSw; (try dsimp only at hSw); obtain ⟨q0, q1⟩ := hSw; go_simp; try (with_reducible rfl))
        simp only [Act.put, List.setIfInBounds_toArray, List.set_cons_zero, List.set_cons_succ]
        refine wpAnyH_done (by kernel_rfl) ?_ _
        go_wp2_with fail
        go_meet
        obtain ⟨M, f1, f2⟩ := hfin
        exact ⟨M, by rw [f1], f2, (HBD.out.trans (grown_below0 g3 n0)).alloc (by have := HBD.out.size; omega) _, (World.grownBy_alloc _ _ none).cell b3 (by simp)⟩
    · refine step_make29 rfl (.tmp 20) (.tmp 20) 27 rfl N 3 ii (.int .i64 0) 1 Try.underlying27 hi1 hi2 hi3 .i64 .i64 _ _ (2 * vars + 1) (by rfl) (by rfl) (by omega) (by omega) (by rw [hi4]; omega) (by unfold maxLen; omega) n0 ?_
      intro w1 oC r1
      have a1 := r1.cell a0 (by simp)
      have b1 := r1.cell b0 (by simp)
      have s1 := r1.size
      have n1 : N ≤ w1.heap.size := Nat.le_trans n0 s1
      have lC : Wd.heap.size < w1.heap.size := (World.ownsRow.lt oC _ rfl).2
      have g1 := g0.trans r1
      refine hK.out _ _ (by (try dsimp only); exact ⟨a1, b1⟩) (fun hHeld => ?_)
      clear hK K
      try simp only [Act.put, List.setIfInBounds_toArray, List.set_cons_zero, List.set_cons_succ]
      refine wpAnyH_ready (rs := [5, 10]) (by kernel_rfl) (by simp) ?_
      refine AllReadyH.cons (by (simp only [List.getElem?_toArray, List.getElem?_cons_succ, List.getElem?_cons_zero]; rfl)) (fun K hK => ?_) (AllReadyH.cons (by (simp only [List.getElem?_toArray, List.getElem?_cons_succ, List.getElem?_cons_zero]; rfl)) (fun K hK => ?_) AllReadyH.nil)
      · refine step_make29 rfl (.tmp 10) (.tmp 10) 40 rfl N 4 ib (.bool false) 1 Try.underlying40 hb1 hb2 hb3 .i64 .i64 _ _ (cs.length) (by rfl) (by rfl) (by omega) (by omega) (by rw [hb4]; omega) (by unfold maxLen; omega) n1 ?_
        intro w2 oG r2
        have a2 := r2.cell a1 (by simp)
        have b2 := r2.cell b1 (by simp)
        have s2 := r2.size
        have n2 : N ≤ w2.heap.size := Nat.le_trans n1 s2
        have lG : w1.heap.size < w2.heap.size := (World.ownsRow.lt oG _ rfl).2
        have g2 := g1.trans r2
        replace oC := World.ownsRow.kept oC r2 (.inr (by simp [Value.ownBlock]))
        refine hK.out _ _ (by (try dsimp only); exact ⟨a2, b2⟩) (fun hHeld => ?_)
        clear hK K
        try simp only [Act.put, List.setIfInBounds_toArray, List.set_cons_zero, List.set_cons_succ]
        refine wpAnyH_ready (rs := [10]) (by kernel_rfl) (by simp) ?_
        refine AllReadyH.cons (by (simp only [List.getElem?_toArray, List.getElem?_cons_succ, List.getElem?_cons_zero]; rfl)) (fun K hK => ?_) AllReadyH.nil
        refine step_make29 rfl (.tmp 15) (.tmp 15) 22 rfl N 27 ir (.slice none 0 0) 1 Try.underlying22 hr1 hr2 hr3 .i64 .i64 _ _ (2 * vars + 1) (by rfl) (by rfl) (by omega) (by omega) (by rw [hr4]; omega) (by unfold maxLen; omega) n2 ?_
        intro w3 oS r3
        have a3 := r3.cell a2 (by simp)
        have b3 := r3.cell b2 (by simp)
        have s3 := r3.size
        have n3 : N ≤ w3.heap.size := Nat.le_trans n2 s3
        have lS : w2.heap.size < w3.heap.size := (World.ownsRow.lt oS _ rfl).2
        have g3 := g2.trans r3
        replace oC := World.ownsRow.kept oC r3 (.inr (by simp [Value.ownBlock]))
        replace oG := World.ownsRow.kept oG r3 (.inr (by simp [Value.ownBlock]))
        refine hK.out _ _ (by (try dsimp only); exact ⟨a3, b3⟩) (fun hHeld => ?_)
        clear hK K
        try simp only [Act.put, List.setIfInBounds_toArray, List.set_cons_zero, List.set_cons_succ]
        refine wpAnyH_take (i := 16) (v := ?_) (by (simp only [List.getElem?_toArray, List.getElem?_cons_succ, List.getElem?_cons_zero]; rfl)) (by kernel_rfl) (by kernel_rfl) (by kernel_rfl) (by intro _ _ _ h; exact h) (Or.inl ⟨by rfl, ?_⟩) (by assumption) ?_
        rotate_left
        · (intro w hSw; (try dsimp only at hSw); obtain ⟨q0, q1⟩ := hSw; go_simp; try (with_reducible rfl))
        simp only [Act.put, List.setIfInBounds_toArray, List.set_cons_zero, List.set_cons_succ]
        refine wpAnyH_ready (rs := [17]) (by kernel_rfl) (by simp) ?_
        refine AllReadyH.cons (by (simp only [List.getElem?_toArray, List.getElem?_cons_succ, List.getElem?_cons_zero]; rfl)) (fun K hK => ?_) AllReadyH.nil
        go_simp
        have hfin := start_fin (vars := vars) (m := cs.length) n3 oG oS oC (by omega) (by omega) (by omega)
        refine hK.out _ _ (by (try dsimp only); exact ⟨(World.grownBy_alloc _ _ none).cell a3 (by simp), (World.grownBy_alloc _ _ none).cell b3 (by simp)⟩) (fun hHeld => ?_)
        clear hK K
        try simp only [Act.put, List.setIfInBounds_toArray, List.set_cons_zero, List.set_cons_succ]
        refine wpAnyH_take (i := 18) (v := ?_) (by (simp only [List.getElem?_toArray, List.getElem?_cons_succ, List.getElem?_cons_zero]; rfl)) (by kernel_rfl) (by kernel_rfl) (by kernel_rfl) (by intro _ _ _ h; exact h) (Or.inl ⟨by rfl, ?_⟩) (by assumption) ?_
        rotate_left
        · (intro w hSw; (try dsimp only at hSw); obtain ⟨q0, q1⟩ := hSw; go_simp; try (with_reducible rfl))
        simp only [Act.put, List.setIfInBounds_toArray, List.set_cons_zero, List.set_cons_succ]
        refine wpAnyH_done (by kernel_rfl) ?_ _
        go_wp2_with fail
        go_meet
        obtain ⟨M, f1, f2⟩ := hfin
        exact ⟨M, by rw [f1], f2, (HBD.out.trans (grown_below0 g3 n0)).alloc (by have := HBD.out.size; omega) _, (World.grownBy_alloc _ _ none).cell b3 (by simp)⟩
      · refine step_make29 rfl (.tmp 15) (.tmp 15) 22 rfl N 27 ir (.slice none 0 0) 1 Try.underlying22 hr1 hr2 hr3 .i64 .i64 _ _ (2 * vars + 1) (by rfl) (by rfl) (by omega) (by omega) (by rw [hr4]; omega) (by unfold maxLen; omega) n1 ?_
        intro w2 oS r2
        have a2 := r2.cell a1 (by simp)
        have b2 := r2.cell b1 (by simp)
        have s2 := r2.size
        have n2 : N ≤ w2.heap.size := Nat.le_trans n1 s2
        have lS : w1.heap.size < w2.heap.size := (World.ownsRow.lt oS _ rfl).2
        have g2 := g1.trans r2
        replace oC := World.ownsRow.kept oC r2 (.inr (by simp [Value.ownBlock]))
        refine hK.out _ _ (by (try dsimp only); exact ⟨a2, b2⟩) (fun hHeld => ?_)
        clear hK K
        try simp only [Act.put, List.setIfInBounds_toArray, List.set_cons_zero, List.set_cons_succ]
        refine wpAnyH_ready (rs := [5]) (by kernel_rfl) (by simp) ?_
        refine AllReadyH.cons (by (simp only [List.getElem?_toArray, List.getElem?_cons_succ, List.getElem?_cons_zero]; rfl)) (fun K hK => ?_) AllReadyH.nil
        refine step_make29 rfl (.tmp 10) (.tmp 10) 40 rfl N 4 ib (.bool false) 1 Try.underlying40 hb1 hb2 hb3 .i64 .i64 _ _ (cs.length) (by rfl) (by rfl) (by omega) (by omega) (by rw [hb4]; omega) (by unfold maxLen; omega) n2 ?_
        intro w3 oG r3
        have a3 := r3.cell a2 (by simp)
        have b3 := r3.cell b2 (by simp)
        have s3 := r3.size
        have n3 : N ≤ w3.heap.size := Nat.le_trans n2 s3
        have lG : w2.heap.size < w3.heap.size := (World.ownsRow.lt oG _ rfl).2
        have g3 := g2.trans r3
        replace oC := World.ownsRow.kept oC r3 (.inr (by simp [Value.ownBlock]))
        replace oS := World.ownsRow.kept oS r3 (.inr (by simp [Value.ownBlock]))
        refine hK.out _ _ (by (try dsimp only); exact ⟨a3, b3⟩) (fun hHeld => ?_)
        clear hK K
        try simp only [Act.put, List.setIfInBounds_toArray, List.set_cons_zero, List.set_cons_succ]
        refine wpAnyH_take (i := 16) (v := ?_) (by (simp only [List.getElem?_toArray, List.getElem?_cons_succ, List.getElem?_cons_zero]; rfl)) (by kernel_rfl) (by kernel_rfl) (by kernel_rfl) (by intro _ _ _ h; exact h) (Or.inl ⟨by rfl, ?_⟩) (by assumption) ?_
        rotate_left
        · (intro w hSw; (try dsimp only at hSw); obtain ⟨q0, q1⟩ := hSw; go_simp; try (with_reducible rfl))
        simp only [Act.put, List.setIfInBounds_toArray, List.set_cons_zero, List.set_cons_succ]
        refine wpAnyH_ready (rs := [17]) (by kernel_rfl) (by simp) ?_
        refine AllReadyH.cons (by (simp only [List.getElem?_toArray, List.getElem?_cons_succ, List.getElem?_cons_zero]; rfl)) (fun K hK => ?_) AllReadyH.nil
        go_simp
        have hfin := start_fin (vars := vars) (m := cs.length) n3 oG oS oC (by omega) (by omega) (by omega)
        refine hK.out _ _ (by (try dsimp only); exact ⟨(World.grownBy_alloc _ _ none).cell a3 (by simp), (World.grownBy_alloc _ _ none).cell b3 (by simp)⟩) (fun hHeld => ?_)
        clear hK K
        try simp only [Act.put, List.setIfInBounds_toArray, List.set_cons_zero, List.set_cons_succ]
        refine wpAnyH_take (i := 18) (v := ?_) (by (simp only [List.getElem?_toArray, List.getElem?_cons_succ, List.getElem?_cons_zero]; rfl)) (by kernel_rfl) (by kernel_rfl) (by kernel_rfl) (by intro _ _ _ h; exact h) (Or.inl ⟨by rfl, ?_⟩) (by assumption) ?_
        rotate_left
        · (intro w hSw; (try dsimp only at hSw); obtain ⟨q0, q1⟩ := hSw; go_simp; try (with_reducible rfl))
        simp only [Act.put, List.setIfInBounds_toArray, List.set_cons_zero, List.set_cons_succ]
        refine wpAnyH_done (by kernel_rfl) ?_ _
        go_wp2_with fail
        go_meet
        obtain ⟨M, f1, f2⟩ := hfin
        exact ⟨M, by rw [f1], f2, (HBD.out.trans (grown_below0 g3 n0)).alloc (by have := HBD.out.size; omega) _, (World.grownBy_alloc _ _ none).cell b3 (by simp)⟩
  case rest =>
    obtain ⟨M, rfl, hk, hb, hq1⟩ := hcut
    have HK := Lib.hid hk
    have HB := Lib.hid hb
    have hlI : (cs.length : Int) ≤ 1000000 := by omega
    clear hk hb hB0 hB1 a0 b0 n0 g0 hWd
    go_wp2_with fail
    go_loopw [5, 27] (fun z q wr => ∃ j : Nat, ∃ M3 : Wm, j ≤ cs.length ∧ q = .int .i64 j ∧ KW wr N M3 { newS vars cs.length with L := cs.take j } noW ∧ M3.K = M.K ∧ Below N w wr) (fun _ q _ => cs.length - (intOf q).toNat)
    case atStart => exact ⟨0, M, by omega, rfl, HK.out, rfl, HB.out⟩
    case round =>
      obtain ⟨j, M3, hj, rfl, hkk, hMK, hbw⟩ := hrel
      have hno : ∀ t, ¬ noW t := fun t h => h
      have HKK := Lib.hid hkk
      have HBW := Lib.hid hbw
      by_cases hlt : j < cs.length
      · obtain ⟨c, hcj⟩ : ∃ c, cs[j]? = some c := ⟨_, List.getElem?_eq_getElem hlt⟩
        obtain ⟨_, _, e0, _, hrow⟩ := HCW.out.below29 hbw (Nat.le_of_eq hN)
        cases e0
        obtain ⟨b1, r, rfl, hrc, hrd⟩ := hrow j c hcj
        have hkd := hkk.drew
        have hd1 : wr.drew.cell? ⟨M.K, 1, none⟩ = some (M3.hd .lst) := by rw [← hMK]; exact hkd.cLst (hno _)
        have HCL := Lib.hid (clone29_any (w := wr.drew) (n0 := N) r c (show Reads wr.drew iV r c from hrd) (hll c (List.mem_of_getElem? hcj)) hkd.base)
        have hlen : (cs.take j).length = j := by rw [List.length_take]; omega
        have hso := (hkd.row .lst rfl (hno _)).own (.inl rfl)
        have hsl : ctW { newS vars cs.length with L := cs.take j } M3.hd .lst = (List.range j).map fun i => M3.hd (.cl i) := by
          show (List.range (cs.take j).length).map (fun i => M3.hd (.cl i)) = _
          rw [hlen]
        rw [hsl, List.length_map, List.length_range] at hso
        have hso : wr.drew.ownsRow N 27 1 (M3.hd .lst) j ((List.range j).map fun i => M3.hd (.cl i)) := hso
        have hb0 : N ≤ wr.drew.heap.size := hkd.base
        have HKD := Lib.hid hkd
        have HCJ := Lib.hid hcj
        have HLEN := Lib.hid hlen
        have HSO := Lib.hid hso
        have hjI : (j : Int) < (cs.length : Int) := by omega
        clear hkk hbw hkd hrow hrd hcj hlen hso hsl
        go_upto_region 5 with fail
        go_region_law (first
          | (go_simp; go_at_call 22; (with_reducible refine HCL.out.mono ?_); rintro e w4 ⟨v', rfl, hc1, hc2, hc3, va, vn, vc, rfl⟩; have hd1 := hc2.cell hd1 (by simp); have hd1a : ∀ o, (w4.alloc o).cell? ⟨M.K, 1, none⟩ = some (M3.hd .lst) := (fun o => (World.grownBy_alloc w4 o none).cell hd1 (by simp)); have hso := own_kept0 HSO.out hc2; have hbx : N ≤ w4.heap.size := Nat.le_trans hb0 hc2.size)
          | (refine step_appL rfl (.tmp 35) (.tmp 38) rfl w4 va vn vc rfl rfl hso (by omega) hbx ?_; intro g6 q6 w6 ho6 hg6 hat6; obtain ⟨u1, u2, M4, hm4, hk6, hb6⟩ := HKD.out.pushN HLEN.out (c := c) (S' := { newS vars cs.length with L := cs.take (j + 1) }) (by rw [take_snoc _ j c HCJ.out]) hc2 hc1 hc3 ho6 hg6 hat6; rw [hMK] at u1 u2 hk6 hb6; have HK6 := Lib.hid hk6; have HB6 := Lib.hid (hb6 N (Nat.le_refl _)); have hm5 : M4.K = M.K := hm4.trans hMK; clear hk6 hb6 ho6 hg6 hat6 hm4))
        all_goals
          go_wp2_with fail
          go_round
          case rel => exact ⟨j + 1, M4, by omega, by go_num, HK6.out, hm5, (HBW.out.drew).trans HB6.out⟩
          case measure => simp [intOf]; omega
      · have hjI : (cs.length : Int) ≤ (j : Int) := by omega
        have HN := Lib.hid (show KW wr N M3 { newS vars cs.length with L := cs } noW from by
          rw [List.take_of_length_le (by omega)] at hkk; exact hkk)
        clear hkk hbw
        go_wp2
        go_ret
        exact ⟨M3, by rw [hMK]; rfl, HN.out, HBW.out⟩
end
end Go.Proofs.Ytlcbfahaapodmaa
