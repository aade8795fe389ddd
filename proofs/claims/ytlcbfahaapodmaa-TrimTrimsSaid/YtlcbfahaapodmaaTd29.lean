/-
  Layer 29: trimmed. Own work.
-/
import Derived.Test.YtlcbfahaapodmaaAb29
import Derived.Test.YtlcbfahaapodmaaNx29
namespace Go.Proofs.Ytlcbfahaapodmaa
set_option linter.unusedVariables false
set_option linter.unusedSimpArgs false
open Go.RowKit

/-- the headers of the clauses that are there, among the first j -/
def hdsTd (S : Ws) (hd : Tw → Value) (j : Nat) : List Value := ((List.range j).filter fun i => !(S.G.getD i false)).map fun i => hd (.cl i)
theorem hdsTd_gone {S : Ws} {hd : Tw → Value} {j : Nat} (h : S.G[j]? = some true) : hdsTd S hd (j + 1) = hdsTd S hd j := by
  unfold hdsTd
  rw [List.range_succ, List.filter_append]
  simp [List.getD, h]
theorem hdsTd_there {S : Ws} {hd : Tw → Value} {j : Nat} (h : S.G[j]? = some false) : hdsTd S hd (j + 1) = hdsTd S hd j ++ [hd (.cl j)] := by
  unfold hdsTd
  rw [List.range_succ, List.filter_append]
  simp [List.getD, h]
theorem hdsTd_len (S : Ws) (hd : Tw → Value) (j : Nat) : (hdsTd S hd j).length ≤ j := by
  unfold hdsTd
  rw [List.length_map]
  have := List.length_filter_le (fun i => !(S.G.getD i false)) (List.range j)
  rw [List.length_range] at this
  exact this
/-- trimmed's two blocks beside the work -/
structure Td (w wr : World) (n0 : Nat) (M : Wm) (S : Ws) (R T : Nat) (tv : Array Value) : Prop where
  kw : KW wr n0 M S noW
  bel : Below n0 w wr
  tt : wr.heap[T]? = some (.cells tv 29 (0, 0))
  rr : wr.heap[R]? = some (.cells #[.int .i64 0, .slice none 0 0, .slice none 0 0] 29 (0, 0))
  fT : M.tag T = .free
  fR : M.tag R = .free
  lt : R < T
  base : n0 ≤ R
section
variable {w wr wr' : World} {n0 : Nat} {M : Wm} {S : Ws} {R T : Nat} {tv : Array Value}
theorem Td.cell (h : Td w wr n0 M S R T tv) (i : Nat) : wr.cell? ⟨T, i, none⟩ = tv[i]? := cell_of_row wr T i _ _ (0, 0) h.tt
theorem Td.froz (h : Td w wr n0 M S R T tv) (i : Nat) : wr.frozen? ⟨T, i, none⟩ = false := frozen_of_row wr T i _ _ h.tt
theorem Td.rcell (h : Td w wr n0 M S R T tv) (i : Nat) : wr.cell? ⟨R, i, none⟩ = (#[.int .i64 0, .slice none 0 0, .slice none 0 0] : Array Value)[i]? := cell_of_row wr R i _ _ (0, 0) h.rr
theorem Td.rfroz (h : Td w wr n0 M S R T tv) (i : Nat) : wr.frozen? ⟨R, i, none⟩ = false := frozen_of_row wr R i _ _ h.rr
theorem Td.grow (h : Td w wr n0 M S R T tv) {row : Option Nat} (hg : wr.grownBy wr' row) (hr : ∀ b, row = some b → M.tag b = .free ∧ n0 ≤ b ∧ b ≠ T ∧ b ≠ R) : Td w wr' n0 M S R T tv := by
  refine ⟨h.kw.keep hg (fun t ht hx => hx.elim id (fun ⟨b, hb, e⟩ => absurd ((hr b hb).1.symm.trans e).symm ht)), h.bel.grown hg h.kw.base (fun k hk => (hr k hk).2.1), ?_, ?_, h.fT, h.fR, h.lt, h.base⟩
  · exact (hg.block T (Array.getElem?_eq_some_iff.1 h.tt).1 (fun e => (hr T e.symm).2.2.1 rfl)).trans h.tt
  · exact (hg.block R (Array.getElem?_eq_some_iff.1 h.rr).1 (fun e => (hr R e.symm).2.2.2 rfl)).trans h.rr
theorem Td.setT (h : Td w wr n0 M S R T tv) (i : Nat) (u : Value) : Td w (wr.setCell ⟨T, i, none⟩ u) n0 M S R T (tv.setIfInBounds i u) := by
  have hgs : wr.grownBy (wr.setCell ⟨T, i, none⟩ u) (some T) := ⟨rfl, rfl, rfl, by simp, fun k _ hk => heap_setCell_other wr _ k u (fun e => hk (by simp [e]))⟩
  have hb := h.base
  have hl := h.lt
  refine ⟨h.kw.keep hgs (fun t ht hx => hx.elim id (fun ⟨b, hb, e⟩ => ?_)), h.bel.grown hgs h.kw.base (fun k hk => by cases hk; omega), heap_setCell_same wr T i _ _ u h.tt, ?_, h.fT, h.fR, h.lt, h.base⟩
  · cases hb
    exact absurd (h.fT.symm.trans e).symm ht
  · exact (heap_setCell_other wr ⟨T, i, none⟩ R u (fun e => by simp only at e; omega)).trans h.rr
/-- the result is written -/
theorem Td.fin {P : Prop} (h : Td w wr n0 M S R T tv) (y0 y1 y2 : Value) (hp : Below n0 w (((wr.setCell ⟨R, 0, none⟩ y0).setCell ⟨R, 1, none⟩ y1).setCell ⟨R, 2, none⟩ y2) → wr.grownBy (((wr.setCell ⟨R, 0, none⟩ y0).setCell ⟨R, 1, none⟩ y1).setCell ⟨R, 2, none⟩ y2) (some R) → KW (((wr.setCell ⟨R, 0, none⟩ y0).setCell ⟨R, 1, none⟩ y1).setCell ⟨R, 2, none⟩ y2) n0 M S noW → P) : P := by
  have hgs : ∀ (W : World) (i : Nat) (u : Value), W.grownBy (W.setCell ⟨R, i, none⟩ u) (some R) := fun W i u => ⟨rfl, rfl, rfl, by simp, fun k _ hk => heap_setCell_other W _ k u (fun e => hk (by simp [e]))⟩
  have hg := ((hgs wr 0 y0).trans (hgs _ 1 y1)).trans (hgs _ 2 y2)
  have hb := h.base
  refine hp (h.bel.grown hg h.kw.base (fun k hk => by cases hk; omega)) hg (h.kw.keep hg (fun t ht hx => hx.elim id (fun ⟨b, hb, e⟩ => ?_)))
  cases hb
  exact absurd (h.fR.symm.trans e).symm ht
end
theorem row_set3 {w : World} {B : Nat} {x0 x1 x2 : Value} (y0 y1 y2 : Value) (t : TypeId) (h : w.heap[B]? = some (.cells #[x0, x1, x2] t (0, 0))) :
    (((w.setCell ⟨B, 0, none⟩ y0).setCell ⟨B, 1, none⟩ y1).setCell ⟨B, 2, none⟩ y2).heap[B]? = some (.cells #[y0, y1, y2] t (0, 0)) := by
  have h1 := heap_setCell_same w B 0 #[x0, x1, x2] t y0 h
  have h2 := heap_setCell_same _ B 1 _ t y1 h1
  have h3 := heap_setCell_same _ B 2 _ t y2 h2
  simpa using h3
/-- an empty clause alone -/
theorem td_ended {w W2 : World} {n0 : Nat} {M : Wm} {S : Ws} {R T : Nat} {v0 v2 : Value} (h : Td w W2 n0 M S R T #[v0, .slice none 0 0, v2]) (o1 : Obj) :
    Td w (((W2.alloc o1).alloc (.cells #[.slice (some ⟨W2.heap.size, 0, none⟩) 0 0] 27)).setCell ⟨T, 1, none⟩ (.slice (some ⟨W2.heap.size + 1, 0, none⟩) 1 1)) n0 M S R T #[v0, .slice (some ⟨W2.heap.size + 1, 0, none⟩) 1 1, v2] ∧
    (((W2.alloc o1).alloc (.cells #[.slice (some ⟨W2.heap.size, 0, none⟩) 0 0] 27)).setCell ⟨T, 1, none⟩ (.slice (some ⟨W2.heap.size + 1, 0, none⟩) 1 1)).cell? ⟨W2.heap.size + 1, 0, none⟩ = some (.slice (some ⟨W2.heap.size, 0, none⟩) 0 0) ∧ R ≠ W2.heap.size + 1 := by
  have h1 := (h.grow (World.grownBy_alloc W2 o1 none) (fun b hb => by cases hb)).grow (World.grownBy_alloc _ (.cells #[.slice (some ⟨W2.heap.size, 0, none⟩) 0 0] 27) none) (fun b hb => by cases hb)
  have h2 := h1.setT 1 (.slice (some ⟨W2.heap.size + 1, 0, none⟩) 1 1)
  have hT := (Array.getElem?_eq_some_iff.1 h.tt).1
  have hl := h.lt
  refine ⟨h2, ?_, by omega⟩
  rw [World.cell?_of_block (w := (W2.alloc o1).alloc (.cells #[.slice (some ⟨W2.heap.size, 0, none⟩) 0 0] 27)) (heap_setCell_other _ _ _ _ (fun e => by simp only at e; omega))]
  have h3 := cell_one_new (W2.alloc o1) (.slice (some ⟨W2.heap.size, 0, none⟩) 0 0) 27
  simp
/-- one header more -/
theorem appH29 {ops : Array Oper} {rest : List Oper} {o : Oper} {a : Act} {Q : Exit → Act → World → Prop} (hgd : o.guard = none) (s x : Operand)
    (ho : o.op = .call { callee := .builtin .append, args := #[s, x], argTypes := #[22, 22] }) (w2 : World) (ua : Option Addr) (un uc : Nat) {base n : Nat} {v : Value} {xs : List Value} (hsv : a.eval s = v) (hx : a.eval x = .slice (some ⟨w2.heap.size, 0, none⟩) 1 1)
    (hown : w2.ownsRow base 27 1 v n xs) (hn : n ≤ 1000000) (hbase : base ≤ w2.heap.size)
    (hK : ∀ g cap w', w'.ownsRow base 27 1 (.slice (some ⟨g, 0, none⟩) (n + 1) cap) (n + 1) (xs ++ [.slice ua un uc]) → w2.grownBy w' v.ownBlock → (v.ownBlock = some g ∨ (w2.heap.size ≤ g ∧ g < w'.heap.size)) → wpList Try.prog ops Q rest (a.put o.dst (.slice (some ⟨g, 0, none⟩) (n + 1) cap)) w') :
    wpList Try.prog ops Q (o :: rest) a (w2.alloc (.cells #[.slice ua un uc] 27)) := by
  obtain ⟨i, hi, hz, hsize, hby⟩ := info_parts row29_info
  refine wpList_append_lies _ hgd s x 22 ho base 27 i _ 1 24 Try.underlying22 hi hz hsize hby rfl (by omega) v n xs hsv (hown.alloc _) ⟨w2.heap.size, 0, none⟩ 1 1 [.slice ua un uc] hx rfl (cell_one_new w2 _ _) (by simp [Value.oneCell']) (by omega) (by simp only [maxLen]; omega) (by omega) (by simp; omega) _ rfl ?_
  intro g cap w' h2 h3 h4 h5
  refine hK g cap w' h2 ⟨h3.os, h3.tape, h3.output, Nat.le_trans (by simp) h3.size, fun k hk hne => (h3.block k (by simp; omega) hne).trans (Below.heap_alloc _ _ _ hk)⟩ ?_
  rcases h4 with h4 | h4
  · exact .inl h4
  · exact .inr ⟨by rw [h4]; simp, (h2.lt g rfl).2⟩
/-- a clause that is there -/
theorem td_push {w wr w1 : World} {n0 n g cap : Nat} {M : Wm} {S : Ws} {R T : Nat} {v v0 v2 : Value} {xs : List Value} (h : Td w wr n0 M S R T #[v0, v, v2]) (hro : wr.ownsRow n0 27 1 v n xs) (hvb : ∀ b, v.ownBlock = some b → M.tag b = .free ∧ b ≠ T ∧ b ≠ R) {xs' : List Value}
    (ho1 : w1.ownsRow n0 27 1 (.slice (some ⟨g, 0, none⟩) (n + 1) cap) (n + 1) xs') (hg1 : wr.grownBy w1 v.ownBlock) (hat : v.ownBlock = some g ∨ (wr.heap.size ≤ g ∧ g < w1.heap.size)) :
    Td w w1 n0 M S R T #[v0, v, v2] ∧ Td w (w1.setCell ⟨T, 1, none⟩ (.slice (some ⟨g, 0, none⟩) (n + 1) cap)) n0 M S R T #[v0, .slice (some ⟨g, 0, none⟩) (n + 1) cap, v2] ∧
      (w1.setCell ⟨T, 1, none⟩ (.slice (some ⟨g, 0, none⟩) (n + 1) cap)).ownsRow n0 27 1 (.slice (some ⟨g, 0, none⟩) (n + 1) cap) (n + 1) xs' ∧ (∀ b, (Value.slice (some ⟨g, 0, none⟩) (n + 1) cap).ownBlock = some b → M.tag b = .free ∧ b ≠ T ∧ b ≠ R) := by
  have h1 := h.grow hg1 (fun b hb => ⟨(hvb b hb).1, (hro.lt b hb).1, (hvb b hb).2⟩)
  have hT := (Array.getElem?_eq_some_iff.1 h.tt).1
  have hl := h.lt
  have hgg : M.tag g = .free ∧ g ≠ T ∧ g ≠ R := by
    rcases hat with hat | hat
    · exact hvb g hat
    · exact ⟨h.kw.fresh g hat.1, by omega, by omega⟩
  refine ⟨h1, by simpa using h1.setT 1 (.slice (some ⟨g, 0, none⟩) (n + 1) cap), ho1.kept (row := some T) ⟨rfl, rfl, rfl, by simp, fun k _ hk => heap_setCell_other w1 _ k _ (fun e => hk (by simp [e]))⟩ (.inr (by simp [Value.ownBlock]; exact hgg.2.1)), fun b hb => ?_⟩
  cases hb
  exact hgg
/-- the same from n to the end -/
def UpW (n : Nat) (w wx : World) : Prop := ∀ b, n ≤ b → b < w.heap.size → wx.heap[b]? = w.heap[b]?
theorem UpW.refl (n : Nat) (w : World) : UpW n w w := fun _ _ _ => rfl
theorem UpW.cell {n : Nat} {w wx : World} (h : UpW n w wx) {p : Addr} {x : Value} (hp : n ≤ p.block) (hc : w.cell? p = some x) : wx.cell? p = some x :=
  (World.cell?_of_block (h p.block hp (World.block_lt_of_cell? w _ hc))).trans hc
theorem RdO.up {w wx : World} {n0 : Nat} {e : TypeId} {v : Value} {xs : List Value} (h : RdO w n0 e v xs) (hx : UpW n0 w wx) : RdO wx n0 e v xs := by
  rcases h with h | ⟨g, cap, rfl, h1, h2, h3, h4⟩
  · exact .inl h
  · refine .inr ⟨g, cap, rfl, h1, h2, h3, fun j x hj => ?_⟩
    obtain ⟨k1, k2⟩ := h4 j x hj
    have hb := hx g h1 (World.block_lt_of_cell? w _ k1)
    exact ⟨(World.cell?_of_block (a := ⟨g, j, none⟩) hb).trans k1, (World.frozen?_of_block (a := ⟨g, j, none⟩) hb).trans k2⟩
/-- headers in a row of one's own, of rows that read so -/
theorem reads2_own {w : World} {n0 : Nat} {v : Value} {ix : List Nat} {hd : Tw → Value} {cs : List (List Int)} (ho : RdO w n0 27 v (ix.map fun i => hd (.cl i))) (hl : ix.length ≤ 1000000) (hcs : cs.length = ix.length) (hr : ∀ (j : Nat) i c, ix[j]? = some i → cs[j]? = some c → Reads w iV (hd (.cl i)) c) : Reads2 w v cs := by
  have h1 := ho.reads (f := fun i => hd (.cl i)) (l := ix)
  rcases h1 with ⟨rfl, hix⟩ | ⟨x, cp, e1, e2, e3, e4⟩
  · have hz : cs.length = 0 := by rw [hcs, hix]; rfl
    refine ⟨none, 0, by rw [hz], by omega, fun j d hj => ?_⟩
    rw [List.eq_nil_of_length_eq_zero hz] at hj
    simp at hj
  · refine ⟨some x, cp, by rw [e1, hcs], by omega, fun j d hj => ?_⟩
    have hlt := (List.getElem?_eq_some_iff.1 hj).1
    obtain ⟨i, hi⟩ : ∃ i, ix[j]? = some i := ⟨_, List.getElem?_eq_getElem (by omega)⟩
    exact ⟨x, _, rfl, e4 j i hi, hr j i d hi hj⟩
section
variable {w : World} {n0 : Nat} {M : Wm} {S : Ws}
/-- a slice with room for what it has -/
def CapOk (v : Value) : Prop := ∃ a n c, v = .slice a n c ∧ n ≤ c ∧ c ≤ 9223372036854775807
theorem CapOk.of {w : World} {n0 n : Nat} {e : TypeId} {v : Value} {xs : List Value} (h : w.ownsRow n0 e 1 v n xs) : CapOk v := by
  rcases RdO.of h with ⟨⟨a, rfl⟩, _⟩ | ⟨g, cap, rfl, _, hn, hm, _⟩
  · exact ⟨a, 0, 0, rfl, by omega, by omega⟩
  · exact ⟨_, _, cap, rfl, hn, by unfold maxLen at hm; exact hm⟩
set_option maxHeartbeats 2000000 in
set_option maxRecDepth 100000 in
theorem trimmed29_any (h : KW w n0 M S noW) (hS : S.en = false → S.L.length ≤ 1000000 ∧ S.G.length = S.L.length) :
    Calls Try.prog 19 #[.pointer (some ⟨M.K, 0, none⟩)] w fun e w' => ∃ cv fv, e = .returned (.agg #[.int .i64 (S.vars : Int), cv, fv]) ∧ CapOk cv ∧ (∀ wx, UpW n0 w' wx → Reads2 wx cv (absW S).C ∧ Reads wx iV fv S.fx) ∧ Below n0 w w' := by
  have hno : ∀ t, ¬ noW t := fun t h => h
  have HK := Lib.hid h
  have hc0 : w.cell? ⟨M.K, 0, none⟩ = some (.int .i64 (S.vars : Int)) := h.cVars (hno _)
  have hc5 := h.cFix (hno _)
  obtain ⟨la, lc, hl0⟩ := h.shape (t := .lst) rfl (hno _)
  have e5 : ctW S M.hd .lst = (List.range S.L.length).map fun i => M.hd (.cl i) := rfl
  rw [e5, List.length_map, List.length_range] at hl0
  clear h e5
  go_enter Try.func19, Try.ntmps19
  go_upto_region 1 with fail
  have hRA := heap_alloc_new w (.cells #[.int .i64 0, .slice none 0 0, .slice none 0 0] 29)
  have hRz : w.heap.size < (w.alloc (.cells #[.int .i64 0, .slice none 0 0, .slice none 0 0] 29)).heap.size := by simp
  have HA := Lib.hid (HK.out.alloc (.cells #[.int .i64 0, .slice none 0 0, .slice none 0 0] 29))
  have HBA := Lib.hid (show Below n0 w (w.alloc (.cells #[.int .i64 0, .slice none 0 0, .slice none 0 0] 29)) from (Below.refl n0 w).alloc HK.out.base _)
  generalize w.alloc (.cells #[.int .i64 0, .slice none 0 0, .slice none 0 0] 29) = W1 at HA HBA hRA hRz ⊢
  obtain ⟨Wd, hWd⟩ : ∃ Wd, Wd = W1.drew := ⟨_, rfl⟩
  have HD := Lib.hid (show KW Wd n0 M S noW from by rw [hWd]; exact HA.out.drew)
  have HBD := Lib.hid (show Below n0 w Wd from by rw [hWd]; exact HBA.out.drew)
  have HRD := Lib.hid (show Wd.heap[w.heap.size]? = some (.cells #[.int .i64 0, .slice none 0 0, .slice none 0 0] 29 (0, 0)) from by rw [hWd]; exact hRA)
  have HRZ := Lib.hid (show w.heap.size < Wd.heap.size from by rw [hWd]; exact hRz)
  have a0 : Wd.cell? ⟨M.K, 0, none⟩ = some (.int .i64 (S.vars : Int)) := HD.out.cVars (hno _)
  obtain ⟨fa, fc, hfx⟩ := HK.out.shape (t := .fix) rfl (hno _)
  have hfl : (ctW S M.hd .fix).length = S.fx.length := by show (S.fx.map iV).length = _; rw [List.length_map]
  rw [hfl] at hfx
  have a1 : Wd.cell? ⟨M.K, 5, none⟩ = some (.slice fa S.fx.length fc) := (HD.out.cFix (hno _)).trans (by rw [hfx])
  have HFX := Lib.hid hfx
  have HL0 := Lib.hid hl0
  clear hfl hfx hl0
  clear hc0 hc5 hRA hRz
  refine wp_region_held_drew (S := (fun w' => w'.cell? ⟨M.K, 0, none⟩ = some (.int .i64 (S.vars : Int)) ∧ w'.cell? ⟨M.K, 5, none⟩ = some (.slice fa S.fx.length fc))) (by kernel_rfl) (by (try dsimp only); rw [← hWd]; exact ⟨a0, a1⟩) (fun hHeld => ?_)
  rw [← hWd] at hHeld ⊢
  clear hWd
  refine wpAnyH_take (i := 0) (v := ?_) (by (simp only [List.getElem?_toArray, List.getElem?_cons_succ, List.getElem?_cons_zero]; rfl)) (by kernel_rfl) (by kernel_rfl) (by kernel_rfl) (by intro _ _ _ h; exact h) (Or.inl ⟨by rfl, ?_⟩) (by assumption) ?_
  rotate_left
  · (intro w hSw; (try dsimp only at hSw); obtain ⟨q0, q1⟩ := hSw; go_simp; try (with_reducible rfl))
  simp only [Act.put, List.setIfInBounds_toArray, List.set_cons_zero, List.set_cons_succ]
  refine wpAnyH_take (i := 1) (v := ?_) (by (simp only [List.getElem?_toArray, List.getElem?_cons_succ, List.getElem?_cons_zero]; rfl)) (by kernel_rfl) (by kernel_rfl) (by kernel_rfl) (by intro _ _ _ h; exact h) (Or.inl ⟨by rfl, ?_⟩) (by assumption) ?_
  rotate_left
  · (intro w hSw; (try dsimp only at hSw); obtain ⟨q0, q1⟩ := hSw; go_simp; try (with_reducible rfl))
  simp only [Act.put, List.setIfInBounds_toArray, List.set_cons_zero, List.set_cons_succ]
  refine wpAnyH_take (i := 2) (v := ?_) (by (simp only [List.getElem?_toArray, List.getElem?_cons_succ, List.getElem?_cons_zero]; rfl)) (by kernel_rfl) (by kernel_rfl) (by kernel_rfl) (by intro _ _ _ h; exact h) (Or.inl ⟨by rfl, ?_⟩) (by assumption) ?_
  rotate_left
  · (intro w hSw; (try dsimp only at hSw); obtain ⟨q0, q1⟩ := hSw; go_simp; try (with_reducible rfl))
  simp only [Act.put, List.setIfInBounds_toArray, List.set_cons_zero, List.set_cons_succ]
  refine wpAnyH_take (i := 3) (v := ?_) (by (simp only [List.getElem?_toArray, List.getElem?_cons_succ, List.getElem?_cons_zero]; rfl)) (by kernel_rfl) (by kernel_rfl) (by kernel_rfl) (by intro _ _ _ h; exact h) (Or.inl ⟨by rfl, ?_⟩) (by assumption) ?_
  rotate_left
  · (intro w hSw; (try dsimp only at hSw); obtain ⟨q0, q1⟩ := hSw; go_simp; try (with_reducible rfl))
  simp only [Act.put, List.setIfInBounds_toArray, List.set_cons_zero, List.set_cons_succ]
  refine wpAnyH_take (i := 4) (v := ?_) (by (simp only [List.getElem?_toArray, List.getElem?_cons_succ, List.getElem?_cons_zero]; rfl)) (by kernel_rfl) (by kernel_rfl) (by kernel_rfl) (by intro _ _ _ h; exact h) (Or.inl ⟨by rfl, ?_⟩) (by assumption) ?_
  rotate_left
  · (intro w hSw; (try dsimp only at hSw); obtain ⟨q0, q1⟩ := hSw; go_simp; try (with_reducible rfl))
  simp only [Act.put, List.setIfInBounds_toArray, List.set_cons_zero, List.set_cons_succ]
  refine wpAnyH_take (i := 5) (v := ?_) (by (simp only [List.getElem?_toArray, List.getElem?_cons_succ, List.getElem?_cons_zero]; rfl)) (by kernel_rfl) (by kernel_rfl) (by kernel_rfl) (by intro _ _ _ h; exact h) (Or.inl ⟨by rfl, ?_⟩) (by assumption) ?_
  rotate_left
  · (intro w hSw; (try dsimp only at hSw); obtain ⟨q0, q1⟩ := hSw; go_simp; try (with_reducible rfl))
  simp only [Act.put, List.setIfInBounds_toArray, List.set_cons_zero, List.set_cons_succ]
  refine wpAnyH_take (i := 6) (v := ?_) (by (simp only [List.getElem?_toArray, List.getElem?_cons_succ, List.getElem?_cons_zero]; rfl)) (by kernel_rfl) (by kernel_rfl) (by kernel_rfl) (by intro _ _ _ h; exact h) (Or.inl ⟨by rfl, ?_⟩) (by assumption) ?_
  rotate_left
  · (intro w hSw; (try dsimp only at hSw); obtain ⟨q0, q1⟩ := hSw; go_simp; try (with_reducible rfl))
  simp only [Act.put, List.setIfInBounds_toArray, List.set_cons_zero, List.set_cons_succ]
  refine wpAnyH_take (i := 7) (v := ?_) (by (simp only [List.getElem?_toArray, List.getElem?_cons_succ, List.getElem?_cons_zero]; rfl)) (by kernel_rfl) (by kernel_rfl) (by kernel_rfl) (by intro _ _ _ h; exact h) (Or.inl ⟨by rfl, ?_⟩) (by assumption) ?_
  rotate_left
  · (intro w hSw; (try dsimp only at hSw); obtain ⟨q0, q1⟩ := hSw; go_simp; try (with_reducible rfl))
  simp only [Act.put, List.setIfInBounds_toArray, List.set_cons_zero, List.set_cons_succ]
  refine wpAnyH_take (i := 8) (v := ?_) (by (simp only [List.getElem?_toArray, List.getElem?_cons_succ, List.getElem?_cons_zero]; rfl)) (by kernel_rfl) (by kernel_rfl) (by kernel_rfl) (by intro _ _ _ h; exact h) (Or.inl ⟨by rfl, ?_⟩) (by assumption) ?_
  rotate_left
  · (intro w hSw; (try dsimp only at hSw); obtain ⟨q0, q1⟩ := hSw; go_simp; try (with_reducible rfl))
  simp only [Act.put, List.setIfInBounds_toArray, List.set_cons_zero, List.set_cons_succ]
  refine wpAnyH_take (i := 9) (v := ?_) (by (simp only [List.getElem?_toArray, List.getElem?_cons_succ, List.getElem?_cons_zero]; rfl)) (by kernel_rfl) (by kernel_rfl) (by kernel_rfl) (by intro _ _ _ h; exact h) (Or.inl ⟨by rfl, ?_⟩) (by assumption) ?_
  rotate_left
  · (intro w hSw; (try dsimp only at hSw); obtain ⟨q0, q1⟩ := hSw; go_simp; try (with_reducible rfl))
  simp only [Act.put, List.setIfInBounds_toArray, List.set_cons_zero, List.set_cons_succ]
  refine wpAnyH_ready (rs := [10]) (by kernel_rfl) (by simp) ?_
  refine AllReadyH.cons (by (simp only [List.getElem?_toArray, List.getElem?_cons_succ, List.getElem?_cons_zero]; rfl)) (fun K hK => ?_) AllReadyH.nil
  go_simp
  refine hK.out _ _ (by (try dsimp only); exact ⟨(World.grownBy_alloc _ _ none).cell a0 (by simp), (World.grownBy_alloc _ _ none).cell a1 (by simp)⟩) (fun hHeld => ?_)
  clear hK K
  try simp only [Act.put, List.setIfInBounds_toArray, List.set_cons_zero, List.set_cons_succ]
  refine wpAnyH_ready (rs := [11]) (by kernel_rfl) (by simp) ?_
  refine AllReadyH.cons (by (simp only [List.getElem?_toArray, List.getElem?_cons_succ, List.getElem?_cons_zero]; rfl)) (fun K hK => ?_) AllReadyH.nil
  go_simp
  refine hK.out _ _ (by (try dsimp only); exact ⟨(World.grownBy_alloc _ _ none).cell a0 (by simp), (World.grownBy_alloc _ _ none).cell a1 (by simp)⟩) (fun hHeld2 => ?_)
  clear hK K
  try simp only [Act.put, List.setIfInBounds_toArray, List.set_cons_zero, List.set_cons_succ]
  refine wpAnyH_done (by kernel_rfl) ?_ _
  have HTD := Lib.hid (show Td w (Wd.alloc (.cells #[.int .i64 (S.vars : Int), .slice none 0 0, .slice fa S.fx.length fc] 29)) n0 M S w.heap.size Wd.heap.size #[.int .i64 (S.vars : Int), .slice none 0 0, .slice fa S.fx.length fc] from ⟨HD.out.alloc _, (HBD.out).alloc HD.out.base _, heap_alloc_new _ _, (Below.heap_alloc _ _ _ HRZ.out).trans HRD.out, HK.out.fresh _ (Nat.le_of_lt HRZ.out), HK.out.fresh _ (Nat.le_refl _), HRZ.out, HK.out.base⟩)
  clear HD HBD HRD HA HBA a0 a1
  generalize Wd.alloc (.cells #[.int .i64 (S.vars : Int), .slice none 0 0, .slice fa S.fx.length fc] 29) = W2 at HTD ⊢
  generalize Wd.heap.size = T at HTD ⊢
  clear HRZ hHeld hHeld2
  have hc4 := HTD.out.kw.cEn (hno _)
  have HRow := Lib.hid (fun (wz wx : World) (h : KW wz n0 M S noW) (hu : UpW n0 wz wx) => show Reads wx iV (.slice fa S.fx.length fc) S.fx from by
    have h1 := (h.row .fix rfl (hno _)).rd
    rw [HFX.out] at h1
    exact (h1.up hu).reads)
  cases hen : S.en with
  | true =>
    rw [hen] at hc4
    have x1 : ∀ o1 o2, ((W2.alloc o1).alloc o2).cell? ⟨T, 1, none⟩ = some (.slice none 0 0) := fun o1 o2 => (((HTD.out.grow (World.grownBy_alloc W2 o1 none) (fun b hb => by cases hb)).grow (World.grownBy_alloc _ o2 none) (fun b hb => by cases hb)).cell 1)
    have x2 : ∀ o1 o2, ((W2.alloc o1).alloc o2).frozen? ⟨T, 1, none⟩ = false := fun o1 o2 => (((HTD.out.grow (World.grownBy_alloc W2 o1 none) (fun b hb => by cases hb)).grow (World.grownBy_alloc _ o2 none) (fun b hb => by cases hb)).froz 1)
    go_upto_region 4 with fail
    obtain ⟨h1, h2, h3⟩ := td_ended HTD.out (.cells #[] 3)
    generalize (((W2.alloc (.cells #[] 3)).alloc (.cells #[.slice (some ⟨W2.heap.size, 0, none⟩) 0 0] 27)).setCell ⟨T, 1, none⟩ (.slice (some ⟨W2.heap.size + 1, 0, none⟩) 1 1)) = W3 at h1 h2 ⊢
    have H3 := Lib.hid h1
    have H4 := Lib.hid h2
    have t0 := h1.cell 0
    have t1 := h1.cell 1
    have t2 := h1.cell 2
    have r0 := h1.rcell 0
    have r1 := h1.rcell 1
    have r2 := h1.rcell 2
    have f0 := h1.rfroz 0
    have f1 := h1.rfroz 1
    have f2 := h1.rfroz 2
    simp only [List.getElem?_toArray, List.getElem?_cons_succ, List.getElem?_cons_zero] at t0 t1 t2 r0 r1 r2
    clear x1 x2 hc4 h1 h2
    go_wp2
    refine bodyPost_ret (results_cell_row (P := Try.prog) rfl _ _ w.heap.size 29 _ (0, 0) _ rfl (row_set3 (.int .i64 (S.vars : Int)) (.slice (some ⟨W2.heap.size + 1, 0, none⟩) 1 1) (.slice fa S.fx.length fc) _ H3.out.rr) Try.underlying29 rfl (by kernel_rfl)) rfl ?_
    refine H3.out.fin _ _ _ fun hb hg hk => ⟨_, _, rfl, ⟨_, _, _, rfl, Nat.le_refl _, by omega⟩, fun wx hu => ⟨?_, HRow.out _ _ hk hu⟩, hb⟩
    have he : (absW S).C = [[]] := by unfold absW; rw [hen]; rfl
    rw [he]
    refine ⟨some ⟨W2.heap.size + 1, 0, none⟩, 1, rfl, by simp, fun j d hj => ?_⟩
    match j, hj with
    | 0, hj =>
      simp only [List.getElem?_cons_zero, Option.some.injEq] at hj
      subst hj
      exact ⟨_, _, rfl, hu.cell (p := ⟨W2.heap.size + 1, 0, none⟩) (by have := HTD.out.kw.base; simp only; omega) (hg.cell H4.out (fun e => h3 (Option.some.inj e).symm)), .inr ⟨⟨W2.heap.size, 0, none⟩, 0, rfl, Nat.le_refl _, by simp, fun j x hx => by simp at hx⟩⟩
    | j + 1, hj => simp at hj
  | false =>
    rw [hen] at hc4
    obtain ⟨hL, hG⟩ := hS hen
    have hc1 := HTD.out.kw.cLst (hno _)
    rw [HL0.out] at hc1
    have HC := Lib.hid (show (absW S).C = alive S.L S.G from by unfold absW; rw [hen]; rfl)
    clear hen
    go_wp2_with fail
    go_loopw [4, 5, 30] (fun z4 z5 q wr => ∃ (j n : Nat) (v : Value), j ≤ S.L.length ∧ q = .int .i64 j ∧ Td w wr n0 M S w.heap.size T #[.int .i64 (S.vars : Int), v, .slice fa S.fx.length fc] ∧ wr.ownsRow n0 27 1 v n (hdsTd S M.hd j) ∧ n ≤ j ∧ (∀ b, v.ownBlock = some b → M.tag b = .free ∧ b ≠ T ∧ b ≠ w.heap.size)) (fun _ _ q _ => S.L.length - (intOf q).toNat)
    case atStart => exact ⟨0, 0, .slice none 0 0, by omega, rfl, HTD.out, World.ownsRow_nil _ _ _ _, by omega, fun b hb => by cases hb⟩
    case round =>
      obtain ⟨j, n, v, hj, rfl, htd, hro, hnj, hvb⟩ := hrel
      obtain ⟨va, vc, rfl⟩ : ∃ va vc, v = .slice va n vc := by
        rcases hro.2 with ⟨h1, h2⟩ | ⟨g, cap, cur, h1, _⟩
        · exact ⟨none, 0, by rw [h1, h2]⟩
        · exact ⟨_, _, h1⟩
      have HT := Lib.hid htd
      have HO := Lib.hid hro
      have HV := Lib.hid hvb
      have hc1 := htd.kw.cLst (hno _)
      have hc2 := htd.kw.cGon (hno _)
      rw [HL0.out] at hc1
      clear hro hvb
      by_cases hlt : j < S.L.length
      · obtain ⟨c, hc⟩ : ∃ c, S.L[j]? = some c := ⟨_, List.getElem?_eq_getElem hlt⟩
        obtain ⟨b, hb⟩ : ∃ b, S.G[j]? = some b := ⟨_, List.getElem?_eq_getElem (by omega)⟩
        obtain ⟨g, cap, e1, e2, e3, _, er, ca, cc, es⟩ := htd.kw.clause (hno _) (hno _) hc
        obtain ⟨g2, cap2, f1, f2, f3, _⟩ := htd.kw.goneAt (hno _) hb
        rw [HL0.out] at e1
        cases e1
        rw [es] at e2
        rw [f1] at hc2
        have hltI : (j : Int) < (S.L.length : Int) := by omega
        have hgI : (j : Int) < (S.G.length : Int) := by omega
        have hGI : (S.G.length : Int) ≤ 1000000 := by omega
        have hLI : (S.L.length : Int) ≤ 1000000 := by omega
        have t1 : wr.cell? ⟨T, 1, none⟩ = some (.slice va n vc) := htd.cell 1
        have hbs := htd.kw.base
        have HB := Lib.hid hb
        have HES := Lib.hid es
        clear hc hb er es f1 htd
        cases b with
        | true =>
          have HO2 := Lib.hid (show wr.ownsRow n0 27 1 (.slice va n vc) n (hdsTd S M.hd (j + 1)) from by rw [hdsTd_gone HB.out]; exact HO.out)
          go_wp2
          go_round
          case rel => exact ⟨j + 1, n, .slice va n vc, by omega, by go_num, HT.out, HO2.out, by omega, HV.out⟩
          case measure => simp [intOf]; omega
        | false =>
          have hro := HO.out
          go_wp2_with (at_builtin; refine appH29 rfl _ _ rfl wr ca c.length cc (by rfl) (by rfl) hro (by omega) hbs ?_)
          intro g6 q6 w6 ho6 hg6 hat6
          obtain ⟨k1, k2, k3, k4⟩ := td_push HT.out hro HV.out ho6 hg6 hat6
          rw [← HES.out, ← hdsTd_there HB.out] at k3
          have y1 : w6.cell? ⟨T, 1, none⟩ = some (.slice va n vc) := k1.cell 1
          have y2 := k1.froz 1
          have K2 := Lib.hid k2
          have K3 := Lib.hid k3
          have K4 := Lib.hid k4
          clear ho6 hg6 hat6 k1 k2 k3 k4 hro
          go_wp2
          go_round
          case rel => exact ⟨j + 1, n + 1, _, by omega, by go_num, K2.out, K3.out, by omega, K4.out⟩
          case measure => simp [intOf]; omega
      · have hle : (S.L.length : Int) ≤ j := by omega
        have t0 := htd.cell 0
        have t1 := htd.cell 1
        have t2 := htd.cell 2
        have r0 := htd.rcell 0
        have r1 := htd.rcell 1
        have r2 := htd.rcell 2
        have f0 := htd.rfroz 0
        have f1 := htd.rfroz 1
        have f2 := htd.rfroz 2
        simp only [List.getElem?_toArray, List.getElem?_cons_succ, List.getElem?_cons_zero] at t0 t1 t2 r0 r1 r2
        have hjj : j = S.L.length := by omega
        clear htd
        go_wp2
        refine bodyPost_ret (results_cell_row (P := Try.prog) rfl _ _ w.heap.size 29 _ (0, 0) _ rfl (row_set3 (.int .i64 (S.vars : Int)) (.slice va n vc) (.slice fa S.fx.length fc) _ HT.out.rr) Try.underlying29 rfl (by kernel_rfl)) rfl ?_
        refine HT.out.fin _ _ _ fun hb hg hk => ⟨_, _, rfl, CapOk.of HO.out, fun wx hu => ⟨?_, HRow.out _ _ hk hu⟩, hb⟩
        rw [HC.out]
        have ho := HO.out
        rw [hjj] at ho
        have ho2 := ho.kept hg (by
          cases hv : (Value.slice va n vc).ownBlock with
          | none => exact .inl rfl
          | some b => exact .inr (fun e => (HV.out b hv).2.2 (Option.some.inj e)))
        rw [alive_ix _ _ hG]
        refine reads2_own (ix := aliveIx S.L S.G) ((RdO.of ho2).up hu) ?_ (by simp) (fun i k c hi hc => ?_)
        · have := List.length_filter_le (fun i => !(S.G.getD i false)) (List.range S.L.length)
          rw [List.length_range] at this
          show ((List.range S.L.length).filter fun i => !(S.G.getD i false)).length ≤ _
          omega
        · rw [List.getElem?_map, hi] at hc
          simp only [Option.map_some, Option.some.injEq] at hc
          subst hc
          exact ((hk.row (.cl k) rfl (hno _)).rd.up hu).reads
end
end Go.Proofs.Ytlcbfahaapodmaa
