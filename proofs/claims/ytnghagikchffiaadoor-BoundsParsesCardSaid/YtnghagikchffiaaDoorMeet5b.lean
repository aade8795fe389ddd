/-
  Layer 5: the contracts of Clone and Meet. Own work.
-/
import Derived.Test.YtnghagikchffiaaDoorMeet5
import Derived.Test.YtnghagikchffiaaDoorLives5
import Derived.Deep.AppendLies
import Derived.Deep.RegionHeld3
import Derived.Laws.OwnMore
import Derived.WalkLawsBesides
import Derived.WalkSpells
import Derived.Lib.SliceRun
namespace Go.Proofs.YtnghagikchffiaaDoor
set_option linter.unusedVariables false
set_option linter.unusedSimpArgs false
open Go.RowKit Go.Joins

theorem rowI_len : ∀ l : List Iv, (rowI l).length = l.length * 6
  | [] => rfl
  | p :: r => by
    have := rowI_len r
    unfold rowI at this ⊢
    rw [List.flatMap_cons, List.length_append, this, List.length_cons]
    simp [ivCells]; omega
theorem RdI.row {w : World} {a : Addr} {cap : Nat} {l : List Iv} (h : RdI w (.slice (some a) l.length cap) l) : ∀ j u, (rowI l)[j]? = some u → w.cell? (a.add j) = some u := by
  rcases h with ⟨h, _⟩ | ⟨a', cap', h, _, _, hc⟩
  · cases h
  · cases h
    intro j u hu
    have hj : j < l.length * 6 := by have := (List.getElem?_eq_some_iff.1 hu).1; rw [rowI_len] at this; exact this
    have hi : j / 6 < l.length := by omega
    obtain ⟨p, hp⟩ : ∃ p, l[j / 6]? = some p := ⟨_, List.getElem?_eq_getElem hi⟩
    have hm : j % 6 < (ivCells p).length := by simp [ivCells]; omega
    have h1 := hc (j / 6) p hp (j % 6) _ (List.getElem?_eq_getElem hm)
    have he : j / 6 * 6 + j % 6 = j := by omega
    have h2 := rowI_at l (j / 6) (j % 6) p _ hp (List.getElem?_eq_getElem hm)
    rw [he] at h1 h2
    rw [hu] at h2
    cases h2
    exact h1
theorem rowI_one {l : List Iv} : ∀ u ∈ rowI l, u.oneCell' = true := by
  intro u hu
  unfold rowI at hu
  obtain ⟨p, _, hp⟩ := List.mem_flatMap.1 hu
  simp [ivCells] at hp
  rcases hp with rfl | rfl | rfl | rfl | rfl | rfl <;> rfl
theorem sliceNil (w : World) (a : Option Addr) (n c : Nat) : (binOp .eql 23 (.slice a n c) (.slice none 0 0)).run Tryd.prog w = .ok (.bool a.isNone) w := Lib.run_eql_slice_nil w _ _ a n c 0 0 Tryd.underlying23
set_option maxRecDepth 100000 in
set_option maxHeartbeats 1000000 in
theorem Clone_at (pv : Value) (l : List Iv) (hl : l.length ≤ 10000) (w : World) (hr : RdI w pv l) :
    Calls Tryd.prog 41 #[pv] w fun e w' => ∃ v, e = .returned v ∧ RdI w' v l ∧ Below w.heap.size w w' := by
  obtain ⟨pa, pc, rfl⟩ := rd_shape hr
  have heq := fun (a : Option Addr) (n c : Nat) w => sliceNil w a n c
  cases pa with
  | none =>
    have : l = [] ∧ pc = 0 := by
      rcases hr with ⟨h, h0⟩ | ⟨a, cap, h, _⟩
      · injection h with _ _ h3; exact ⟨h0, h3⟩
      · cases h
    obtain ⟨rfl, rfl⟩ := this
    go_enter Tryd.func41, Tryd.ntmps41
    go_wp2
    go_ret
    exact ⟨_, rfl, .inl ⟨rfl, rfl⟩, Below.refl _ _⟩
  | some a =>
    have HR := Lib.hid hr
    have hlI : (l.length : Int) ≤ 10000 := by omega
    obtain ⟨i, hi, hz, hsize, hby⟩ := info_parts (iv_info)
    clear hr
    go_enter Tryd.func41, Tryd.ntmps41
    have hown := World.ownsRow_lit (base := w.heap.size) (size := 6) (e := 61) w #[] 0 (Nat.le_refl _) (by simp [maxLen]) (by simp)
    have hba : Below w.heap.size w (w.alloc (.cells #[] 61)) := (Below.refl w.heap.size w).alloc (Nat.le_refl _) _
    have HNEW := Lib.hid (show ∀ j u, (rowI l)[j]? = some u → (w.alloc (.cells #[] 61)).cell? (a.add j) = some u from fun j u hu => (hba.cell (World.block_lt_of_cell? w _ (HR.out.row j u hu))).trans (HR.out.row j u hu))
    clear hba
    go_wp2_with (at_builtin
                 refine wpList_append_own _ rfl _ _ 23 rfl w.heap.size 61 i _ 6 64 Tryd.underlying23 hi hz hsize hby rfl (by omega) _ 0 [] rfl hown a l.length pc (rowI l) rfl (rowI_len l) HNEW.out rowI_one (by simp only [maxLen]; omega) (by omega) (by simp) ?_)
    intro v' w' ho' hg' _
    have HO := Lib.hid ho'
    have hb' : Below w.heap.size w w' := ((Below.refl w.heap.size w).alloc (Nat.le_refl _) _).grown hg' (by simp) (fun k hk => by cases hk; exact Nat.le_refl _)
    clear ho' hg'
    go_wp2
    go_ret
    exact ⟨v', rfl, RdI.of_own (by have := HO.out; simpa using this), hb'⟩
def MeetP (w : World) (h : Bool) (v : ByteArray) (l : List Iv) (e : Ending) (w' : World) : Prop :=
  ∃ pa pc, e = .returned (.agg #[.bool h, .string v, .slice pa l.length pc]) ∧ RdI w' (.slice pa l.length pc) l ∧ Below w.heap.size w w'
/-- what is written into a block of three cells changes no row of intervals -/
theorem RdI.put3 {w : World} {v : Value} {l : List Iv} {B : Nat} {x0 x1 x2 : Value} {t : TypeId} (h : RdI w v l) (hB : w.heap[B]? = some (.cells #[x0, x1, x2] t (0, 0))) (o : Nat) (u : Value) : RdI (w.setCell ⟨B, o, none⟩ u) v l := by
  rcases h with h | ⟨a, cap, h1, h2, h3, h5⟩
  · exact .inl h
  · refine .inr ⟨a, cap, h1, h2, h3, fun i p hp c x hx => ?_⟩
    have hab : ∀ k, (a.add k).block = a.block := fun k => by unfold Addr.add; split <;> rfl
    have hn : a.block ≠ B := fun hab' => by
      have h6 := h5 i p hp 5 (.bool p.hi.cl) rfl
      have he : a.add (i * 6 + 5) = ⟨B, a.off + (i * 6 + 5), none⟩ := by
        unfold Addr.add
        rw [if_neg (by omega), hab']
      rw [he, cell_of_row w B _ _ _ (0, 0) hB, Array.getElem?_eq_none (by simp; omega)] at h6
      cases h6
    rw [World.cell?_setCell_far _ _ _ _ (by simp only; rw [hab]; exact fun e => hn e.symm)]
    exact h5 i p hp c x hx
theorem RdI.put3s {w : World} {v : Value} {l : List Iv} {B : Nat} {x0 x1 x2 : Value} {t : TypeId} (h : RdI w v l) (hB : w.heap[B]? = some (.cells #[x0, x1, x2] t (0, 0))) (y0 y1 y2 : Value) : RdI (((w.setCell ⟨B, 0, none⟩ y0).setCell ⟨B, 1, none⟩ y1).setCell ⟨B, 2, none⟩ y2) v l := by
  have g1 := heap_setCell_same w B 0 #[x0, x1, x2] t y0 hB
  have g2 := heap_setCell_same _ B 1 _ t y1 g1
  exact ((h.put3 hB 0 y0).put3 (x0 := y0) (x1 := x1) (x2 := x2) (by simpa using g1) 1 y1).put3 (x0 := y0) (x1 := y1) (x2 := x2) (by simpa using g2) 2 y2
/-- what the loops of Meet keep: the variable X holds a range whose intervals are those that were met -/
def MR (w1 : World) (X : Nat) (acc : List Iv) (wx : World) : Prop :=
  ∃ (e0 : ByteArray) (v : Value), e0 = .empty ∧ wx.heap[X]? = some (.cells #[.bool true, .string e0, v] 25 (0, 0)) ∧ wx.ownsRow (X + 1) 61 6 v acc.length (rowI acc) ∧ Below X w1 wx
/-- likewise within the inner loop: B7 holds p -/
def MR2 (w1 : World) (X : Nat) (acc : List Iv) (B7 : Nat) (p : Iv) (wx : World) : Prop :=
  ∃ (e0 : ByteArray) (v : Value), e0 = .empty ∧ wx.heap[X]? = some (.cells #[.bool true, .string e0, v] 25 (0, 0)) ∧ wx.ownsRow (X + 1) 61 6 v acc.length (rowI acc) ∧ Below X w1 wx ∧
    wx.heap[B7]? = some (.cells (ivCells p).toArray 61 (0, 0)) ∧ v.ownBlock ≠ some B7 ∧ X < B7
theorem MR2.mr {w1 wx : World} {X B7 : Nat} {acc : List Iv} {p : Iv} (h : MR2 w1 X acc B7 p wx) : MR w1 X acc wx := by
  obtain ⟨e0, v, h1, h2, h3, h4, _⟩ := h
  exact ⟨e0, v, h1, h2, h3, h4⟩
theorem MR.start {w1 : World} : MR w1 w1.heap.size [] (w1.alloc (.cells #[.bool true, .string { data := #[] }, .slice none 0 0] 25)) :=
  ⟨_, _, rfl, heap_alloc_new w1 _, World.ownsRow_nil _ _ _ _, (Below.refl _ _).alloc (Nat.le_refl _) _⟩
theorem MR.inner {w1 wx : World} {X : Nat} {acc : List Iv} (h : MR w1 X acc wx) (p : Iv) : MR2 w1 X acc wx.heap.size p (wx.alloc (.cells (ivCells p).toArray 61)) := by
  obtain ⟨e0, v, h1, h2, h3, h4⟩ := h
  have hX := (Array.getElem?_eq_some_iff.1 h2).1
  refine ⟨e0, v, h1, (Below.heap_alloc _ _ _ hX).trans h2, h3.alloc _, h4.alloc (by have := h4.size; omega) _, heap_alloc_new wx _, fun he => ?_, hX⟩
  have := (h3.lt _ he).2
  omega
theorem MR2.below {w1 wx wy : World} {X B7 : Nat} {acc : List Iv} {p : Iv} (h : MR2 w1 X acc B7 p wx) (hb : Below wx.heap.size wx wy) : MR2 w1 X acc B7 p wy := by
  obtain ⟨e0, v, h1, h2, h3, h4, h5, h6, h7⟩ := h
  have hX := (Array.getElem?_eq_some_iff.1 h2).1
  exact ⟨e0, v, h1, (hb.block _ hX).trans h2, h3.kept (below_grown hb none) (by cases hc : v.ownBlock <;> simp), h4.trans (hb.mono (by omega)), (hb.block _ (Array.getElem?_eq_some_iff.1 h5).1).trans h5, h6, h7⟩
/-- six cells of a variable -/
theorem six_cells {w : World} {B : Nat} {p : Iv} (hb : w.heap[B]? = some (.cells (ivCells p).toArray 61 (0, 0))) : SixAt w B p := by
  refine ⟨?_, ?_, ?_, ?_, ?_, ?_⟩
  · rw [cell_of_row w _ 0 _ _ (0, 0) hb]; rfl
  · rw [cell_of_row w _ 1 _ _ (0, 0) hb]; rfl
  · rw [cell_of_row w _ 2 _ _ (0, 0) hb]; rfl
  · rw [cell_of_row w _ 3 _ _ (0, 0) hb]; rfl
  · rw [cell_of_row w _ 4 _ _ (0, 0) hb]; rfl
  · rw [cell_of_row w _ 5 _ _ (0, 0) hb]; rfl
theorem keep12 {w1 w2 W2 : World} {A0 A1 A2 A3 A4 A5 B0 B1 B2 B3 B4 B5 : Addr} {x0 x1 x2 x3 x4 x5 y0 y1 y2 y3 y4 y5 : Value} (h : w1.cell? A0 = some x0 ∧ w1.cell? A1 = some x1 ∧ w1.cell? A2 = some x2 ∧ w1.cell? A3 = some x3 ∧ w1.cell? A4 = some x4 ∧ w1.cell? A5 = some x5 ∧ w1.cell? B0 = some y0 ∧ w1.cell? B1 = some y1 ∧ w1.cell? B2 = some y2 ∧ w1.cell? B3 = some y3 ∧ w1.cell? B4 = some y4 ∧ w1.cell? B5 = some y5 ∧ Below W2.heap.size W2 w1) (hb : Below w1.heap.size w1 w2) :
    w2.cell? A0 = some x0 ∧ w2.cell? A1 = some x1 ∧ w2.cell? A2 = some x2 ∧ w2.cell? A3 = some x3 ∧ w2.cell? A4 = some x4 ∧ w2.cell? A5 = some x5 ∧ w2.cell? B0 = some y0 ∧ w2.cell? B1 = some y1 ∧ w2.cell? B2 = some y2 ∧ w2.cell? B3 = some y3 ∧ w2.cell? B4 = some y4 ∧ w2.cell? B5 = some y5 ∧ Below W2.heap.size W2 w2 := by
  obtain ⟨h0, h1, h2, h3, h4, h5, h6, h7, h8, h9, h10, h11, h12⟩ := h
  have hc : ∀ {A : Addr} {x : Value}, w1.cell? A = some x → w2.cell? A = some x := fun hx => (hb.cell (World.block_lt_of_cell? w1 _ hx)).trans hx
  exact ⟨hc h0, hc h1, hc h2, hc h3, hc h4, hc h5, hc h6, hc h7, hc h8, hc h9, hc h10, hc h11, h12.trans (hb.mono h12.size)⟩
theorem keep12d {w1 W2 : World} {A0 A1 A2 A3 A4 A5 B0 B1 B2 B3 B4 B5 : Addr} {x0 x1 x2 x3 x4 x5 y0 y1 y2 y3 y4 y5 : Value} (h : w1.cell? A0 = some x0 ∧ w1.cell? A1 = some x1 ∧ w1.cell? A2 = some x2 ∧ w1.cell? A3 = some x3 ∧ w1.cell? A4 = some x4 ∧ w1.cell? A5 = some x5 ∧ w1.cell? B0 = some y0 ∧ w1.cell? B1 = some y1 ∧ w1.cell? B2 = some y2 ∧ w1.cell? B3 = some y3 ∧ w1.cell? B4 = some y4 ∧ w1.cell? B5 = some y5 ∧ Below W2.heap.size W2 w1) :
    w1.drew.cell? A0 = some x0 ∧ w1.drew.cell? A1 = some x1 ∧ w1.drew.cell? A2 = some x2 ∧ w1.drew.cell? A3 = some x3 ∧ w1.drew.cell? A4 = some x4 ∧ w1.drew.cell? A5 = some x5 ∧ w1.drew.cell? B0 = some y0 ∧ w1.drew.cell? B1 = some y1 ∧ w1.drew.cell? B2 = some y2 ∧ w1.drew.cell? B3 = some y3 ∧ w1.drew.cell? B4 = some y4 ∧ w1.drew.cell? B5 = some y5 ∧ Below W2.heap.size W2 w1.drew := by
  obtain ⟨h0, h1, h2, h3, h4, h5, h6, h7, h8, h9, h10, h11, h12⟩ := h
  exact ⟨h0, h1, h2, h3, h4, h5, h6, h7, h8, h9, h10, h11, h12.drew⟩
theorem below12 {w1 W2 : World} {A0 A1 A2 A3 A4 A5 B0 B1 B2 B3 B4 B5 : Addr} {x0 x1 x2 x3 x4 x5 y0 y1 y2 y3 y4 y5 : Value} (h : w1.cell? A0 = some x0 ∧ w1.cell? A1 = some x1 ∧ w1.cell? A2 = some x2 ∧ w1.cell? A3 = some x3 ∧ w1.cell? A4 = some x4 ∧ w1.cell? A5 = some x5 ∧ w1.cell? B0 = some y0 ∧ w1.cell? B1 = some y1 ∧ w1.cell? B2 = some y2 ∧ w1.cell? B3 = some y3 ∧ w1.cell? B4 = some y4 ∧ w1.cell? B5 = some y5 ∧ Below W2.heap.size W2 w1) : Below W2.heap.size W2 w1 := h.2.2.2.2.2.2.2.2.2.2.2.2
/-- what `append(s, x)` of one element of six cells does, and where the row lies then -/
theorem app6d {P : Program} {ops : Array Oper} {rest : List Oper} {o : Oper} {a : Act} {Q : Exit → Act → World → Prop} {w0 : World} (p : Iv) (hgd : o.guard = none) (s x : Operand) (t e : TypeId)
    (ho : o.op = .call { callee := .builtin .append, args := #[s, x], argTypes := #[t, t] }) (z : Value) (bytes base n : Nat)
    (ht : P.underlying t = some (.slice e)) (hinfo : (P.info? e).map (fun i => (i.zero, i.size, i.bytes)) = some (some z, 6, bytes)) (hzs : z.cells.size = 6)
    (v : Value) (xs : List Value) (hs : a.eval s = v) (hown : w0.ownsRow base e 6 v n xs) (hx : a.eval x = .slice (some ⟨w0.heap.size, 0, none⟩) 1 1)
    (h63 : n + 1 ≤ 281474976710656) (hbytes : (n + 1) * bytes ≤ 140737488355328) (hbase : base ≤ w0.heap.size)
    (h : ∀ v' w', w'.ownsRow base e 6 v' (n + 1) (xs ++ ivCells p) → w0.grownBy w' v.ownBlock → (∀ k, k < w0.heap.size → v.ownBlock ≠ some k → v'.ownBlock ≠ some k) → wpList P ops Q rest (a.put o.dst v') w') :
    wpList P ops Q (o :: rest) a (w0.alloc (.cells #[.bool p.lo.has, .string p.lo.ver, .bool p.lo.cl, .bool p.hi.has, .string p.hi.ver, .bool p.hi.cl] e)) := by
  obtain ⟨i, hi, hz, hsize, hby⟩ := info_parts hinfo
  refine wpList_append_lies _ hgd s x t ho base e i z 6 bytes ht hi hz hsize hby hzs (by omega) v n xs hs (hown.alloc _) ⟨w0.heap.size, 0, none⟩ 1 1 (ivCells p) hx rfl ?_ (by simp [ivCells, Value.oneCell']) (by omega) (by simp only [maxLen]; omega) hbytes (by simp; omega) (w0.heap.size + 1) (by simp) ?_
  · intro j y hj
    have hadd : (⟨w0.heap.size, 0, none⟩ : Addr).add j = ⟨w0.heap.size, j, none⟩ := by unfold Addr.add; split <;> simp_all
    rw [hadd, cell_of_row _ w0.heap.size j _ e (0, 0) (heap_alloc_new w0 _)]
    have : (#[Value.bool p.lo.has, .string p.lo.ver, .bool p.lo.cl, .bool p.hi.has, .string p.hi.ver, .bool p.hi.cl] : Array Value) = (ivCells p).toArray := rfl
    rw [this]
    simpa using hj
  · intro g cap w' ho' hg hw _
    refine h _ w' ho' ⟨hg.os, hg.tape, hg.output, Nat.le_trans (by simp) hg.size, fun k hk hne => (hg.block k (by simp; omega) hne).trans (Below.heap_alloc _ _ _ hk)⟩ fun k hk hne => ?_
    have e1 : (Value.slice (some ⟨g, 0, none⟩) (n + 1) cap).ownBlock = some g := rfl
    rw [e1]
    intro h2
    cases h2
    rcases hw with hw | hw
    · exact hne hw
    · omega
theorem push_row {w1 w0 w' : World} {X : Nat} {v : Value} {n : Nat} {xs : List Value} {o : Obj} (hx : w0.heap[X]? = some o) (ho : w0.ownsRow (X + 1) 61 6 v n xs) (hg : w0.grownBy w' v.ownBlock) : w'.heap[X]? = some o :=
  (hg.block X (Array.getElem?_eq_some_iff.1 hx).1 (fun e => by have := (ho.lt X e.symm).1; omega)).trans hx
theorem push_mr {w1 w0 w' : World} {X B7 : Nat} {e0 : ByteArray} {v v' : Value} {R : List Iv} {p mi : Iv} (he0 : e0 = .empty) (hx : w0.heap[X]? = some (.cells #[.bool true, .string e0, v] 25 (0, 0))) (ho : w0.ownsRow (X + 1) 61 6 v R.length (rowI R)) (hb : Below X w1 w0)
    (h7 : w0.heap[B7]? = some (.cells (ivCells p).toArray 61 (0, 0))) (hne : v.ownBlock ≠ some B7) (hX : X < B7) (ho' : w'.ownsRow (X + 1) 61 6 v' (R.length + 1) (rowI R ++ ivCells mi)) (hg : w0.grownBy w' v.ownBlock) (hd : ∀ k, k < w0.heap.size → v.ownBlock ≠ some k → v'.ownBlock ≠ some k) :
    MR2 w1 X (R ++ [mi]) B7 p (w'.setCell ⟨X, 2, none⟩ v') := by
  have hx' := push_row (w1 := w1) hx ho hg
  have h7l := (Array.getElem?_eq_some_iff.1 h7).1
  refine ⟨e0, v', he0, ?_, ?_, ?_, ?_, hd B7 h7l hne, hX⟩
  · have := heap_setCell_same w' X 2 _ _ v' hx'
    simpa using this
  · have := ownsRow_setCell_below ho' (a := ⟨X, 2, none⟩) (by simp) v'
    rw [rowI_snoc, List.length_append]
    exact this
  · have hb' : Below X w1 w' := hb.grown hg (Nat.le_of_lt (Array.getElem?_eq_some_iff.1 hx).1) (fun k hk => by have := (ho.lt k hk).1; omega)
    exact hb'.setCell (Nat.le_refl _) _
  · rw [heap_setCell_other w' ⟨X, 2, none⟩ B7 v' (fun e => by simp only at e; omega)]
    exact (hg.block B7 h7l (fun e => hne e.symm)).trans h7
theorem row_b {w1 w2 : World} {B : Nat} {o : Obj} (hb : Below w1.heap.size w1 w2) (h : w1.heap[B]? = some o) : w2.heap[B]? = some o := (hb.block _ (Array.getElem?_eq_some_iff.1 h).1).trans h
def zI : Iv := ⟨⟨false, ⟨#[]⟩, false⟩, ⟨false, ⟨#[]⟩, false⟩⟩
theorem bcell {W w1 : World} (hb : Below W.heap.size W w1) : (∀ b o, b < W.heap.size → w1.cell? ⟨b, o, none⟩ = W.cell? ⟨b, o, none⟩) ∧ (∀ b o, b < W.heap.size → w1.frozen? ⟨b, o, none⟩ = W.frozen? ⟨b, o, none⟩) :=
  ⟨fun b o h => hb.cell (p := ⟨b, o, none⟩) h, fun b o h => hb.frozen (p := ⟨b, o, none⟩) h⟩
set_option maxRecDepth 100000 in
set_option maxHeartbeats 2000000 in
theorem Meet_at (h1 : Bool) (v1 : ByteArray) (p1 : Value) (l1 : List Iv) (h2 : Bool) (v2 : ByteArray) (p2 : Value) (l2 : List Iv) (hs1 : ∀ p ∈ l1, smallI p) (hs2 : ∀ p ∈ l2, smallI p) (hl1 : l1.length ≤ 100) (hl2 : l2.length ≤ 100) (w : World) (hr1 : RdI w p1 l1) (hr2 : RdI w p2 l2)
    (RH : Bool) (RV : ByteArray) (RL : List Iv) (hm : (RH, RV, RL) = meetR h1 v1 l1 h2 v2 l2) :
    Calls Tryd.prog 19 #[.agg #[.bool h1, .string v1, p1], .agg #[.bool h2, .string v2, p2]] w (MeetP w RH RV RL) := by
  obtain ⟨a1, c1, rfl⟩ := rd_shape hr1
  obtain ⟨a2, c2, rfl⟩ := rd_shape hr2
  obtain ⟨q1, q2, q3⟩ := three_rows w (.cells #[.bool h1, .string v1, .slice a1 l1.length c1] 25) (.cells #[.bool h2, .string v2, .slice a2 l2.length c2] 25) (.cells #[.bool false, .string { data := #[] }, .slice none 0 0] 25)
  have hb0 : Below w.heap.size w (((w.alloc (.cells #[.bool h1, .string v1, .slice a1 l1.length c1] 25)).alloc (.cells #[.bool h2, .string v2, .slice a2 l2.length c2] 25)).alloc (.cells #[.bool false, .string { data := #[] }, .slice none 0 0] 25)) := (((Below.refl w.heap.size w).alloc (Nat.le_refl _) _).alloc (by simp) _).alloc (by simp; omega) _
  have hz0 : w.heap.size + 3 ≤ (((w.alloc (.cells #[.bool h1, .string v1, .slice a1 l1.length c1] 25)).alloc (.cells #[.bool h2, .string v2, .slice a2 l2.length c2] 25)).alloc (.cells #[.bool false, .string { data := #[] }, .slice none 0 0] 25)).heap.size := by simp
  have HR1 := Lib.hid hr1
  have HR2 := Lib.hid hr2
  have HL1 := Lib.hid (show l1.length ≤ 10000 by omega)
  have HL2 := Lib.hid (show l2.length ≤ 10000 by omega)
  have HS1 := Lib.hid hs1
  have HS2 := Lib.hid hs2
  have HM := Lib.hid hm
  clear hr1 hr2 hs1 hs2 hm
  go_enter Tryd.func19, Tryd.ntmps19
  go_upto_region 1 with fail
  generalize (((w.alloc (.cells #[.bool h1, .string v1, .slice a1 l1.length c1] 25)).alloc (.cells #[.bool h2, .string v2, .slice a2 l2.length c2] 25)).alloc (.cells #[.bool false, .string { data := #[] }, .slice none 0 0] 25)) = w1 at q1 q2 q3 hb0 hz0 ⊢
  have HB0 := Lib.hid hb0
  have Q1 := Lib.hid q1
  have Q2 := Lib.hid q2
  have Q3 := Lib.hid q3
  obtain ⟨a0, a1', a2', ga2⟩ := row3_cells q1
  obtain ⟨b0, b1, b2, gb2⟩ := row3_cells q2
  have ga0 : w1.frozen? ⟨w.heap.size, 0, none⟩ = false := frozen_of_row w1 _ 0 _ _ q1
  have ga1 : w1.frozen? ⟨w.heap.size, 1, none⟩ = false := frozen_of_row w1 _ 1 _ _ q1
  have gb0 : w1.frozen? ⟨w.heap.size + 1, 0, none⟩ = false := frozen_of_row w1 _ 0 _ _ q2
  have gb1 : w1.frozen? ⟨w.heap.size + 1, 1, none⟩ = false := frozen_of_row w1 _ 1 _ _ q2
  clear hb0 q1 q2 q3
  cases h2
  · obtain ⟨rfl, rfl, rfl⟩ : RH = h1 ∧ RV = v1 ∧ RL = l1 := by
      have hm := HM.out
      unfold meetR at hm
      cases h1 <;> simpa using hm
    have T1 := Q1
    have T2 := Q2
    have T3 := Q3
    have TB := HB0
    clear Q1 Q2 Q3 HB0
    cases RH
    · go_upto_region 3 with fail
      clear a0 a1' a2' ga2 b0 b1 b2 gb2 ga0 ga1 gb0 gb1
      obtain ⟨a0, a1', a2', g2⟩ := row3_cells T1.out
      obtain ⟨b0, b1, b2, _⟩ := row3_cells T2.out
      have HCL := Lib.hid (fun w' (hb : Below w.heap.size w w') => Clone_at _ RL HL1.out w' (HR1.out.below hb (Nat.le_refl _)))
      go_wp2_with fail
      refine (HCL.out _ TB.out).mono ?_
      rintro e w3 ⟨v, rfl, hrv, hb3⟩
      have P1 := Lib.hid ((hb3.block _ (Array.getElem?_eq_some_iff.1 T1.out).1).trans T1.out)
      have P3 := Lib.hid ((hb3.block _ (Array.getElem?_eq_some_iff.1 T3.out).1).trans T3.out)
      have HB3 := Lib.hid (TB.out.trans (hb3.mono TB.out.size))
      obtain ⟨va, vc, rfl⟩ := rd_shape hrv
      have HRV := Lib.hid hrv
      clear hb3 hrv a0 a1' a2' g2 b0 b1 b2
      obtain ⟨a0, a1', a2', g2⟩ := row3_cells P1.out
      obtain ⟨r0, r1, r2, f2⟩ := row3_cells P3.out
      have f0 : w3.frozen? ⟨w.heap.size + 1 + 1, 0, none⟩ = false := frozen_of_row w3 _ 0 _ _ P3.out
      have f1 : w3.frozen? ⟨w.heap.size + 1 + 1, 1, none⟩ = false := frozen_of_row w3 _ 1 _ _ P3.out
      go_wp2
      have P3' := (heap_setCell_other w3 ⟨w.heap.size, 2, none⟩ (w.heap.size + 1 + 1) (.slice va RL.length vc) (fun e => by simp only at e; omega)).trans P3.out
      refine bodyPost_ret (results_cell_row (P := Tryd.prog) rfl _ _ (w.heap.size + 1 + 1) 25 _ (0, 0) _ rfl (row_set3 (.bool false) (.string RV) (.slice va RL.length vc) _ P3') Tryd.underlying25 rfl (by kernel_rfl)) rfl ?_
      exact ⟨va, vc, rfl, (HRV.out.put3 P1.out 2 _).put3s P3' _ _ _, below_set3 (HB3.out.setCell (Nat.le_refl _) _) (by omega) _ _ _⟩
    · go_upto_region 3 with fail
      clear a0 a1' a2' ga2 b0 b1 b2 gb2 ga0 ga1 gb0 gb1
      obtain ⟨a0, a1', a2', g2⟩ := row3_cells T1.out
      obtain ⟨b0, b1, b2, _⟩ := row3_cells T2.out
      have HCL := Lib.hid (fun w' (hb : Below w.heap.size w w') => Clone_at _ RL HL1.out w' (HR1.out.below hb (Nat.le_refl _)))
      go_wp2_with fail
      refine (HCL.out _ TB.out).mono ?_
      rintro e w3 ⟨v, rfl, hrv, hb3⟩
      have P1 := Lib.hid ((hb3.block _ (Array.getElem?_eq_some_iff.1 T1.out).1).trans T1.out)
      have P3 := Lib.hid ((hb3.block _ (Array.getElem?_eq_some_iff.1 T3.out).1).trans T3.out)
      have HB3 := Lib.hid (TB.out.trans (hb3.mono TB.out.size))
      obtain ⟨va, vc, rfl⟩ := rd_shape hrv
      have HRV := Lib.hid hrv
      clear hb3 hrv a0 a1' a2' g2 b0 b1 b2
      obtain ⟨a0, a1', a2', g2⟩ := row3_cells P1.out
      obtain ⟨r0, r1, r2, f2⟩ := row3_cells P3.out
      have f0 : w3.frozen? ⟨w.heap.size + 1 + 1, 0, none⟩ = false := frozen_of_row w3 _ 0 _ _ P3.out
      have f1 : w3.frozen? ⟨w.heap.size + 1 + 1, 1, none⟩ = false := frozen_of_row w3 _ 1 _ _ P3.out
      go_wp2
      have P3' := (heap_setCell_other w3 ⟨w.heap.size, 2, none⟩ (w.heap.size + 1 + 1) (.slice va RL.length vc) (fun e => by simp only at e; omega)).trans P3.out
      refine bodyPost_ret (results_cell_row (P := Tryd.prog) rfl _ _ (w.heap.size + 1 + 1) 25 _ (0, 0) _ rfl (row_set3 (.bool true) (.string RV) (.slice va RL.length vc) _ P3') Tryd.underlying25 rfl (by kernel_rfl)) rfl ?_
      exact ⟨va, vc, rfl, (HRV.out.put3 P1.out 2 _).put3s P3' _ _ _, below_set3 (HB3.out.setCell (Nat.le_refl _) _) (by omega) _ _ _⟩
  cases h1
  · obtain ⟨rfl, rfl, rfl⟩ : RH = true ∧ RV = v2 ∧ RL = l2 := by
      have hm := HM.out
      unfold meetR at hm
      simpa using hm
    go_upto_region 3 with fail
    have t1 := row_set3 (.bool true) (.string RV) (.slice a2 RL.length c2) _ Q1.out
    have hx1 : ∀ {wy : World} {B : Nat} {o : Obj}, wy.heap[B]? = some o → B ≠ w.heap.size → (((wy.setCell ⟨w.heap.size, 0, none⟩ (.bool true)).setCell ⟨w.heap.size, 1, none⟩ (.string RV)).setCell ⟨w.heap.size, 2, none⟩ (.slice a2 RL.length c2)).heap[B]? = some o := fun h hne => by
      rw [heap_setCell_other _ _ _ _ (fun e => hne (by simpa using e)), heap_setCell_other _ _ _ _ (fun e => hne (by simpa using e)), heap_setCell_other _ _ _ _ (fun e => hne (by simpa using e))]; exact h
    have hx2 : ∀ {wy : World} {B : Nat} {o : Obj}, wy.heap[B]? = some o → B ≠ w.heap.size + 1 → (((wy.setCell ⟨w.heap.size + 1, 0, none⟩ (.bool false)).setCell ⟨w.heap.size + 1, 1, none⟩ (.string v1)).setCell ⟨w.heap.size + 1, 2, none⟩ (.slice a1 l1.length c1)).heap[B]? = some o := fun h hne => by
      rw [heap_setCell_other _ _ _ _ (fun e => hne (by simpa using e)), heap_setCell_other _ _ _ _ (fun e => hne (by simpa using e)), heap_setCell_other _ _ _ _ (fun e => hne (by simpa using e))]; exact h
    have t2 := row_set3 (.bool false) (.string v1) (.slice a1 l1.length c1) _ (hx1 Q2.out (by omega))
    have t1' := hx2 t1 (by omega)
    have t3 := hx2 (hx1 Q3.out (by omega)) (by omega)
    have tb := below_set3 (below_set3 HB0.out (Nat.le_refl _) (.bool true) (.string RV) (.slice a2 RL.length c2)) (show w.heap.size ≤ w.heap.size + 1 by omega) (.bool false) (.string v1) (.slice a1 l1.length c1)
    clear a0 a1' a2' ga2 b0 b1 b2 gb2 ga0 ga1 gb0 gb1 t1 hx1 hx2
    generalize ((((((w1.setCell ⟨w.heap.size, 0, none⟩ (.bool true)).setCell ⟨w.heap.size, 1, none⟩ (.string RV)).setCell ⟨w.heap.size, 2, none⟩ (.slice a2 RL.length c2)).setCell ⟨w.heap.size + 1, 0, none⟩ (.bool false)).setCell ⟨w.heap.size + 1, 1, none⟩ (.string v1)).setCell ⟨w.heap.size + 1, 2, none⟩ (.slice a1 l1.length c1)) = w9 at t1' t2 t3 tb ⊢
    have T1 := Lib.hid t1'
    have T2 := Lib.hid t2
    have T3 := Lib.hid t3
    have TB := Lib.hid tb
    clear t1' t2 t3 tb
    obtain ⟨a0, a1', a2', g2⟩ := row3_cells T1.out
    obtain ⟨b0, b1, b2, _⟩ := row3_cells T2.out
    have HCL := Lib.hid (fun w' (hb : Below w.heap.size w w') => Clone_at _ RL HL2.out w' (HR2.out.below hb (Nat.le_refl _)))
    go_wp2_with fail
    refine (HCL.out _ TB.out).mono ?_
    rintro e w3 ⟨v, rfl, hrv, hb3⟩
    have P1 := Lib.hid ((hb3.block _ (Array.getElem?_eq_some_iff.1 T1.out).1).trans T1.out)
    have P3 := Lib.hid ((hb3.block _ (Array.getElem?_eq_some_iff.1 T3.out).1).trans T3.out)
    have HB3 := Lib.hid (TB.out.trans (hb3.mono TB.out.size))
    obtain ⟨va, vc, rfl⟩ := rd_shape hrv
    have HRV := Lib.hid hrv
    clear hb3 hrv a0 a1' a2' g2 b0 b1 b2
    obtain ⟨a0, a1', a2', g2⟩ := row3_cells P1.out
    obtain ⟨r0, r1, r2, f2⟩ := row3_cells P3.out
    have f0 : w3.frozen? ⟨w.heap.size + 1 + 1, 0, none⟩ = false := frozen_of_row w3 _ 0 _ _ P3.out
    have f1 : w3.frozen? ⟨w.heap.size + 1 + 1, 1, none⟩ = false := frozen_of_row w3 _ 1 _ _ P3.out
    go_wp2
    have P3' := (heap_setCell_other w3 ⟨w.heap.size, 2, none⟩ (w.heap.size + 1 + 1) (.slice va RL.length vc) (fun e => by simp only at e; omega)).trans P3.out
    refine bodyPost_ret (results_cell_row (P := Tryd.prog) rfl _ _ (w.heap.size + 1 + 1) 25 _ (0, 0) _ rfl (row_set3 (.bool true) (.string RV) (.slice va RL.length vc) _ P3') Tryd.underlying25 rfl (by kernel_rfl)) rfl ?_
    exact ⟨va, vc, rfl, (HRV.out.put3 P1.out 2 _).put3s P3' _ _ _, below_set3 (HB3.out.setCell (Nat.le_refl _) _) (by omega) _ _ _⟩
  · obtain ⟨rfl, rfl, rfl⟩ : RH = true ∧ RV = .empty ∧ RL = meetL l1 l2 := by
      have hm := HM.out
      unfold meetR at hm
      simpa using hm
    go_upto_region 7 with fail
    have t1 := (Below.heap_alloc w1 (.cells #[.bool true, .string { data := #[] }, .slice none 0 0] 25) w.heap.size (by omega)).trans Q1.out
    have t2 := (Below.heap_alloc w1 (.cells #[.bool true, .string { data := #[] }, .slice none 0 0] 25) (w.heap.size + 1) (by omega)).trans Q2.out
    have t3 := (Below.heap_alloc w1 (.cells #[.bool true, .string { data := #[] }, .slice none 0 0] 25) (w.heap.size + 1 + 1) (by omega)).trans Q3.out
    have hmr : MR w1 w1.heap.size [] (w1.alloc (.cells #[.bool true, .string { data := #[] }, .slice none 0 0] 25)) := MR.start
    clear a0 a1' a2' ga2 b0 b1 b2 gb2 ga0 ga1 gb0 gb1
    generalize (w1.alloc (.cells #[.bool true, .string { data := #[] }, .slice none 0 0] 25)) = w2 at t1 t2 t3 hmr ⊢
    have HMR := Lib.hid hmr
    have HQ2 := Lib.hid (show ∀ (wx : World), Below w1.heap.size w1 wx → wx.heap[w.heap.size]? = some (.cells #[.bool true, .string v1, .slice a1 l1.length c1] 25 (0, 0)) ∧ wx.heap[w.heap.size + 1]? = some (.cells #[.bool true, .string v2, .slice a2 l2.length c2] 25 (0, 0)) ∧ wx.heap[w.heap.size + 1 + 1]? = some (.cells #[.bool false, .string { data := #[] }, .slice none 0 0] 25 (0, 0)) ∧ Below w.heap.size w wx from fun wx hb =>
      ⟨(hb.block _ (Array.getElem?_eq_some_iff.1 Q1.out).1).trans Q1.out, (hb.block _ (Array.getElem?_eq_some_iff.1 Q2.out).1).trans Q2.out, (hb.block _ (Array.getElem?_eq_some_iff.1 Q3.out).1).trans Q3.out, HB0.out.trans (hb.mono HB0.out.size)⟩)
    obtain ⟨a0, a1', a2', _⟩ := row3_cells t1
    clear t1 t2 t3 hmr
    have hl1I : (l1.length : Int) ≤ 100 := by omega
    have hl2I : (l2.length : Int) ≤ 100 := by omega
    go_wp2_with fail
    clear a0 a1' a2'
    go_loopw [32] (fun i wr => ∃ k : Nat, k ≤ l1.length ∧ i = .int .i64 k ∧ MR w1 w1.heap.size (meetL (l1.take k) l2) wr) (fun i _ => l1.length - (intOf i).toNat)
    case atStart => exact ⟨0, by omega, rfl, HMR.out⟩
    case round =>
      obtain ⟨k, hk, rfl, hmr⟩ := hrel
      by_cases hlt : k < l1.length
      · obtain ⟨p, hp⟩ : ∃ p, l1[k]? = some p := ⟨_, List.getElem?_eq_getElem hlt⟩
        obtain ⟨b, cap, hpv, _, _, hc⟩ : ∃ b cap, Value.slice a1 l1.length c1 = .slice (some b) l1.length cap ∧ l1.length ≤ cap ∧ cap ≤ 9223372036854775807 ∧ ∀ (i : Nat) p, l1[i]? = some p → ∀ (c : Nat) u, (ivCells p)[c]? = some u → w.cell? (b.add (i * 6 + c)) = some u := by
          rcases HR1.out with ⟨_, h⟩ | h
          · subst h; simp at hlt
          · exact h
        cases hpv
        obtain ⟨_, _, _, _, _, hbm⟩ := id hmr
        obtain ⟨t1, t2, t3, tb⟩ := HQ2.out wr hbm
        obtain ⟨k0, k1, k2, k3, k4, k5⟩ := RdI.at hc hp tb (Nat.le_refl _)
        have hsp := HS1.out p (List.mem_of_getElem? hp)
        have HP := Lib.hid hp
        have HSP := Lib.hid hsp
        have hltI : (k : Int) < l1.length := by omega
        have hin := hmr.inner p
        have hba : Below w1.heap.size w1 (wr.alloc (.cells (ivCells p).toArray 61)) := hbm.alloc hbm.size _
        obtain ⟨_, u2, _, _⟩ := HQ2.out _ hba
        obtain ⟨b0, b1, b2, _⟩ := row3_cells u2
        have hX7 : w1.heap.size < wr.heap.size := by
          obtain ⟨_, _, _, hx, _⟩ := hmr
          exact (Array.getElem?_eq_some_iff.1 hx).1
        clear hc hp hsp hbm t1 t2 t3 tb u2 hba hmr
        unfold ivCells at hin b0 b1 b2
        go_upto_region 10 with fail
        generalize hw4 : (wr.alloc (.cells #[.bool p.lo.has, .string p.lo.ver, .bool p.lo.cl, .bool p.hi.has, .string p.hi.ver, .bool p.hi.cl] 61)) = w4 at hin b0 b1 b2 ⊢
        generalize hB7 : wr.heap.size = B7 at hin hX7 ⊢
        generalize hacc : meetL (l1.take k) l2 = acc at hin
        have HACC := Lib.hid hacc
        have HIN := Lib.hid hin
        clear hin hw4 hB7 hacc k0 k1 k2 k3 k4 k5
        go_wp2_with fail
        clear b0 b1 b2
        go_loopw [39] (fun j wr => ∃ m : Nat, m ≤ l2.length ∧ j = .int .i64 m ∧ MR2 w1 w1.heap.size (acc ++ meetRow p (l2.take m)) B7 p wr) (fun j _ => l2.length - (intOf j).toNat)
        case atStart => exact ⟨0, by omega, rfl, by simpa [meetRow] using HIN.out⟩
        case round =>
          obtain ⟨m, hm2, rfl, hmr⟩ := hrel
          by_cases hlt2 : m < l2.length
          · obtain ⟨q, hq⟩ : ∃ q, l2[m]? = some q := ⟨_, List.getElem?_eq_getElem hlt2⟩
            obtain ⟨b2, cap2, hpv, _, _, hc⟩ : ∃ b cap, Value.slice a2 l2.length c2 = .slice (some b) l2.length cap ∧ l2.length ≤ cap ∧ cap ≤ 9223372036854775807 ∧ ∀ (i : Nat) p, l2[i]? = some p → ∀ (c : Nat) u, (ivCells p)[c]? = some u → w.cell? (b.add (i * 6 + c)) = some u := by
              rcases HR2.out with ⟨_, h⟩ | h
              · subst h; simp at hlt2
              · exact h
            cases hpv
            have hbm := hmr.mr
            obtain ⟨_, _, _, _, _, hbm⟩ := hbm
            obtain ⟨_, _, _, tb⟩ := HQ2.out _ hbm
            obtain ⟨k0, k1, k2, k3, k4, k5⟩ := RdI.at hc hq tb (Nat.le_refl _)
            have HSQ := Lib.hid (HS2.out q (List.mem_of_getElem? hq))
            have HQ := Lib.hid hq
            have hltJ : (m : Int) < l2.length := by omega
            have HM2 := Lib.hid hmr
            clear hc hq hbm tb hmr
            go_upto_region 13 with fail
            have hg2 : MR2 w1 w1.heap.size (acc ++ meetRow p (l2.take m)) B7 p (wr.alloc (.cells #[.bool q.lo.has, .string q.lo.ver, .bool q.lo.cl, .bool q.hi.has, .string q.hi.ver, .bool q.hi.cl] 61)) := HM2.out.below ((Below.refl _ _).alloc (Nat.le_refl _) _)
            have hq9 : (wr.alloc (.cells #[.bool q.lo.has, .string q.lo.ver, .bool q.lo.cl, .bool q.hi.has, .string q.hi.ver, .bool q.hi.cl] 61)).heap[wr.heap.size]? = some (.cells (ivCells q).toArray 61 (0, 0)) := heap_alloc_new wr _
            have hp7 : (wr.alloc (.cells #[.bool q.lo.has, .string q.lo.ver, .bool q.lo.cl, .bool q.hi.has, .string q.hi.ver, .bool q.hi.cl] 61)).heap[B7]? = some (.cells (ivCells p).toArray 61 (0, 0)) := by
              obtain ⟨_, _, _, _, _, _, h, _, _⟩ := hg2
              exact h
            generalize (wr.alloc (.cells #[.bool q.lo.has, .string q.lo.ver, .bool q.lo.cl, .bool q.hi.has, .string q.hi.ver, .bool q.hi.cl] 61)) = wg at hg2 hq9 hp7 ⊢
            generalize wr.heap.size = B9 at hq9 ⊢
            have HG2 := Lib.hid hg2
            obtain ⟨x0, x1, x2, x3, x4, x5⟩ := six_cells hp7
            obtain ⟨y0, y1, y2, y3, y4, y5⟩ := six_cells hq9
            clear hg2 hq9 hp7 k0 k1 k2 k3 k4 k5
            have HT1 := Lib.hid (fun w => tighter_at p.lo q.lo HSP.out.1 HSQ.out.1 1 (.inl rfl) w)
            have HT2 := Lib.hid (fun w => tighter_at p.hi q.hi HSP.out.2 HSQ.out.2 (-1) (.inr rfl) w)
            unfold enV at HT1 HT2
            have hme : meetI p q = ⟨tightE p.lo q.lo 1, tightE p.hi q.hi (-1)⟩ := rfl
            generalize tightE p.lo q.lo 1 = tl at HT1 hme
            generalize tightE p.hi q.hi (-1) = th at HT2 hme
            have HME := Lib.hid hme
            clear hme
            have hwg := Below.refl wg.heap.size wg
            go_cut [10] from 43 to 77 (fun t wx => ∃ B10 : Nat, t = .pointer (some ⟨B10, 0, none⟩) ∧ wx.heap[B10]? = some (.cells (ivCells (meetI p q)).toArray 61 (0, 0)) ∧ wg.heap.size ≤ B10 ∧ Below wg.heap.size wg wx)
            case first =>
              have hS0 : (fun w' => w'.cell? ⟨B7, 0, none⟩ = some (.bool p.lo.has) ∧ w'.cell? ⟨B7, 1, none⟩ = some (.string p.lo.ver) ∧ w'.cell? ⟨B7, 2, none⟩ = some (.bool p.lo.cl) ∧ w'.cell? ⟨B7, 3, none⟩ = some (.bool p.hi.has) ∧ w'.cell? ⟨B7, 4, none⟩ = some (.string p.hi.ver) ∧ w'.cell? ⟨B7, 5, none⟩ = some (.bool p.hi.cl) ∧ w'.cell? ⟨B9, 0, none⟩ = some (.bool q.lo.has) ∧ w'.cell? ⟨B9, 1, none⟩ = some (.string q.lo.ver) ∧ w'.cell? ⟨B9, 2, none⟩ = some (.bool q.lo.cl) ∧ w'.cell? ⟨B9, 3, none⟩ = some (.bool q.hi.has) ∧ w'.cell? ⟨B9, 4, none⟩ = some (.string q.hi.ver) ∧ w'.cell? ⟨B9, 5, none⟩ = some (.bool q.hi.cl) ∧ Below wg.heap.size wg w') wg := ⟨x0, x1, x2, x3, x4, x5, y0, y1, y2, y3, y4, y5, hwg⟩
              dsimp only at hS0
              refine wp_region_noPanic ?_
              refine wp_region_held_drew (S := (fun w' => w'.cell? ⟨B7, 0, none⟩ = some (.bool p.lo.has) ∧ w'.cell? ⟨B7, 1, none⟩ = some (.string p.lo.ver) ∧ w'.cell? ⟨B7, 2, none⟩ = some (.bool p.lo.cl) ∧ w'.cell? ⟨B7, 3, none⟩ = some (.bool p.hi.has) ∧ w'.cell? ⟨B7, 4, none⟩ = some (.string p.hi.ver) ∧ w'.cell? ⟨B7, 5, none⟩ = some (.bool p.hi.cl) ∧ w'.cell? ⟨B9, 0, none⟩ = some (.bool q.lo.has) ∧ w'.cell? ⟨B9, 1, none⟩ = some (.string q.lo.ver) ∧ w'.cell? ⟨B9, 2, none⟩ = some (.bool q.lo.cl) ∧ w'.cell? ⟨B9, 3, none⟩ = some (.bool q.hi.has) ∧ w'.cell? ⟨B9, 4, none⟩ = some (.string q.hi.ver) ∧ w'.cell? ⟨B9, 5, none⟩ = some (.bool q.hi.cl) ∧ Below wg.heap.size wg w')) (by kernel_rfl) (keep12d hS0) (fun hh0 => ?_)
              refine wpAnyH_take (i := 0) (v := ?_) (by (simp only [List.getElem?_toArray, List.getElem?_cons_succ, List.getElem?_cons_zero]; rfl)) (by kernel_rfl) (by kernel_rfl) (by kernel_rfl) (by intro _ _ _ h; exact h) (Or.inl ⟨by rfl, ?_⟩) (by assumption) ?_
              rotate_left
              · (intro w hSw; (try dsimp only at hSw); go_simp; try (with_reducible rfl))
              simp only [Act.put, List.setIfInBounds_toArray, List.set_cons_zero, List.set_cons_succ]
              refine wpAnyH_take (i := 1) (v := ?_) (by (simp only [List.getElem?_toArray, List.getElem?_cons_succ, List.getElem?_cons_zero]; rfl)) (by kernel_rfl) (by kernel_rfl) (by kernel_rfl) (by intro _ _ _ h; exact h) (Or.inl ⟨by rfl, ?_⟩) (by assumption) ?_
              rotate_left
              · (intro w hSw; (try dsimp only at hSw); go_simp; try (with_reducible rfl))
              simp only [Act.put, List.setIfInBounds_toArray, List.set_cons_zero, List.set_cons_succ]
              refine wpAnyH_take (i := 2) (v := ?_) (by (simp only [List.getElem?_toArray, List.getElem?_cons_succ, List.getElem?_cons_zero]; rfl)) (by kernel_rfl) (by kernel_rfl) (by kernel_rfl) (by intro _ _ _ h; exact h) (Or.inl ⟨by rfl, ?_⟩) (by assumption) ?_
              rotate_left
              · (intro w hSw; (try dsimp only at hSw); go_simp; try (with_reducible rfl))
              simp only [Act.put, List.setIfInBounds_toArray, List.set_cons_zero, List.set_cons_succ]
              refine wpAnyH_take (i := 3) (v := ?_) (by (simp only [List.getElem?_toArray, List.getElem?_cons_succ, List.getElem?_cons_zero]; rfl)) (by kernel_rfl) (by kernel_rfl) (by kernel_rfl) (by intro _ _ _ h; exact h) (Or.inl ⟨by rfl, ?_⟩) (by assumption) ?_
              rotate_left
              · (intro w hSw; (try dsimp only at hSw); go_simp; try (with_reducible rfl))
              simp only [Act.put, List.setIfInBounds_toArray, List.set_cons_zero, List.set_cons_succ]
              refine wpAnyH_take (i := 5) (v := ?_) (by (simp only [List.getElem?_toArray, List.getElem?_cons_succ, List.getElem?_cons_zero]; rfl)) (by kernel_rfl) (by kernel_rfl) (by kernel_rfl) (by intro _ _ _ h; exact h) (Or.inl ⟨by rfl, ?_⟩) (by assumption) ?_
              rotate_left
              · (intro w hSw; (try dsimp only at hSw); go_simp; try (with_reducible rfl))
              simp only [Act.put, List.setIfInBounds_toArray, List.set_cons_zero, List.set_cons_succ]
              refine wpAnyH_take (i := 6) (v := ?_) (by (simp only [List.getElem?_toArray, List.getElem?_cons_succ, List.getElem?_cons_zero]; rfl)) (by kernel_rfl) (by kernel_rfl) (by kernel_rfl) (by intro _ _ _ h; exact h) (Or.inl ⟨by rfl, ?_⟩) (by assumption) ?_
              rotate_left
              · (intro w hSw; (try dsimp only at hSw); go_simp; try (with_reducible rfl))
              simp only [Act.put, List.setIfInBounds_toArray, List.set_cons_zero, List.set_cons_succ]
              refine wpAnyH_take (i := 7) (v := ?_) (by (simp only [List.getElem?_toArray, List.getElem?_cons_succ, List.getElem?_cons_zero]; rfl)) (by kernel_rfl) (by kernel_rfl) (by kernel_rfl) (by intro _ _ _ h; exact h) (Or.inl ⟨by rfl, ?_⟩) (by assumption) ?_
              rotate_left
              · (intro w hSw; (try dsimp only at hSw); go_simp; try (with_reducible rfl))
              simp only [Act.put, List.setIfInBounds_toArray, List.set_cons_zero, List.set_cons_succ]
              refine wpAnyH_take (i := 8) (v := ?_) (by (simp only [List.getElem?_toArray, List.getElem?_cons_succ, List.getElem?_cons_zero]; rfl)) (by kernel_rfl) (by kernel_rfl) (by kernel_rfl) (by intro _ _ _ h; exact h) (Or.inl ⟨by rfl, ?_⟩) (by assumption) ?_
              rotate_left
              · (intro w hSw; (try dsimp only at hSw); go_simp; try (with_reducible rfl))
              simp only [Act.put, List.setIfInBounds_toArray, List.set_cons_zero, List.set_cons_succ]
              refine wpAnyH_ready (rs := [4, 11]) (by kernel_rfl) (by simp) ?_
              refine AllReadyH.cons (by (simp only [List.getElem?_toArray, List.getElem?_cons_succ, List.getElem?_cons_zero]; rfl)) (fun K hK => ?_) (AllReadyH.cons (by (simp only [List.getElem?_toArray, List.getElem?_cons_succ, List.getElem?_cons_zero]; rfl)) (fun K hK => ?_) AllReadyH.nil)
              · skip
                go_simp
                go_at_call 42
                with_reducible refine (HT1.out _).mono ?_
                rintro e wq1 ⟨rfl, hbq1⟩
                go_wp2_with fail
                refine hK.out _ _ (keep12 hh0 hbq1) (fun hh1 => ?_)
                clear hK K
                try simp only [Act.put, List.setIfInBounds_toArray, List.set_cons_zero, List.set_cons_succ]
                refine wpAnyH_ready (rs := [9, 11]) (by kernel_rfl) (by simp) ?_
                refine AllReadyH.cons (by (simp only [List.getElem?_toArray, List.getElem?_cons_succ, List.getElem?_cons_zero]; rfl)) (fun K hK => ?_) (AllReadyH.cons (by (simp only [List.getElem?_toArray, List.getElem?_cons_succ, List.getElem?_cons_zero]; rfl)) (fun K hK => ?_) AllReadyH.nil)
                · skip
                  go_simp
                  go_at_call 42
                  with_reducible refine (HT2.out _).mono ?_
                  rintro e wq2 ⟨rfl, hbq2⟩
                  go_wp2_with fail
                  refine hK.out _ _ (keep12 hh1 hbq2) (fun hh2 => ?_)
                  clear hK K
                  try simp only [Act.put, List.setIfInBounds_toArray, List.set_cons_zero, List.set_cons_succ]
                  refine wpAnyH_take (i := 10) (v := ?_) (by (simp only [List.getElem?_toArray, List.getElem?_cons_succ, List.getElem?_cons_zero]; rfl)) (by kernel_rfl) (by kernel_rfl) (by kernel_rfl) (by intro _ _ _ h; exact h) (Or.inl ⟨by rfl, ?_⟩) (by assumption) ?_
                  rotate_left
                  · (intro w hSw; (try dsimp only at hSw); go_simp; try (with_reducible rfl))
                  simp only [Act.put, List.setIfInBounds_toArray, List.set_cons_zero, List.set_cons_succ]
                  refine wpAnyH_ready (rs := [11]) (by kernel_rfl) (by simp) ?_
                  refine AllReadyH.cons (by (simp only [List.getElem?_toArray, List.getElem?_cons_succ, List.getElem?_cons_zero]; rfl)) (fun K hK => ?_) AllReadyH.nil
                  go_simp
                  refine hK.out _ _ (keep12 hh2 ((Below.refl _ _).alloc (Nat.le_refl _) _)) (fun hh3 => ?_)
                  clear hK K
                  try simp only [Act.put, List.setIfInBounds_toArray, List.set_cons_zero, List.set_cons_succ]
                  have hz : (wq2.alloc (.cells #[.bool false, .string { data := #[] }, .bool false, .bool false, .string { data := #[] }, .bool false] 61)).heap[wq2.heap.size]? = some (.cells #[.bool false, .string { data := #[] }, .bool false, .bool false, .string { data := #[] }, .bool false] 61) := heap_alloc_new wq2 _
                  generalize (wq2.alloc (.cells #[.bool false, .string { data := #[] }, .bool false, .bool false, .string { data := #[] }, .bool false] 61)) = wz at hz hh3 ⊢
                  have hB : wg.heap.size ≤ wq2.heap.size := (below12 hh2).size
                  obtain ⟨z0, z1, z2, z3, z4, z5⟩ := six_cells (p := zI) hz
                  unfold zI at z0 z1 z2 z3 z4 z5
                  have f0 : wz.frozen? ⟨wq2.heap.size, 0, none⟩ = false := frozen_of_row wz _ 0 _ _ hz
                  have f1 : wz.frozen? ⟨wq2.heap.size, 1, none⟩ = false := frozen_of_row wz _ 1 _ _ hz
                  have f2 : wz.frozen? ⟨wq2.heap.size, 2, none⟩ = false := frozen_of_row wz _ 2 _ _ hz
                  have f3 : wz.frozen? ⟨wq2.heap.size, 3, none⟩ = false := frozen_of_row wz _ 3 _ _ hz
                  have f4 : wz.frozen? ⟨wq2.heap.size, 4, none⟩ = false := frozen_of_row wz _ 4 _ _ hz
                  have f5 : wz.frozen? ⟨wq2.heap.size, 5, none⟩ = false := frozen_of_row wz _ 5 _ _ hz
                  have HZ := Lib.hid hz
                  clear hz
                  refine wpAnyH_ready (rs := [12]) (by kernel_rfl) (by simp) ?_
                  refine AllReadyH.cons (by (simp only [List.getElem?_toArray, List.getElem?_cons_succ, List.getElem?_cons_zero]; rfl)) (fun K hK => ?_) AllReadyH.nil
                  go_simp
                  refine hK.out _ _ (keep12 hS0 (Below.setCell (Below.setCell (Below.setCell (Below.setCell (Below.setCell (Below.setCell (below12 hh3) hB _) hB _) hB _) hB _) hB _) hB _)) (fun _ => ?_)
                  clear hK K
                  try simp only [Act.put, List.setIfInBounds_toArray, List.set_cons_zero, List.set_cons_succ]
                  refine wpAnyH_done (by kernel_rfl) ?_ _
                  refine NoPanic.normal ?_
                  go_wp2_with fail
                  go_meet
                  exact ⟨wq2.heap.size, rfl, by rw [HME.out]; exact row_set6 _ _ _ _ _ _ _ HZ.out, hB, Below.setCell (Below.setCell (Below.setCell (Below.setCell (Below.setCell (Below.setCell (below12 hh3) hB _) hB _) hB _) hB _) hB _) hB _⟩
                · skip
                  go_simp
                  refine hK.out _ _ (keep12 hh1 ((Below.refl _ _).alloc (Nat.le_refl _) _)) (fun hh2 => ?_)
                  clear hK K
                  try simp only [Act.put, List.setIfInBounds_toArray, List.set_cons_zero, List.set_cons_succ]
                  have hz : (wq1.alloc (.cells #[.bool false, .string { data := #[] }, .bool false, .bool false, .string { data := #[] }, .bool false] 61)).heap[wq1.heap.size]? = some (.cells #[.bool false, .string { data := #[] }, .bool false, .bool false, .string { data := #[] }, .bool false] 61) := heap_alloc_new wq1 _
                  generalize (wq1.alloc (.cells #[.bool false, .string { data := #[] }, .bool false, .bool false, .string { data := #[] }, .bool false] 61)) = wz at hz hh2 ⊢
                  have hB : wg.heap.size ≤ wq1.heap.size := (below12 hh1).size
                  refine wpAnyH_ready (rs := [9]) (by kernel_rfl) (by simp) ?_
                  refine AllReadyH.cons (by (simp only [List.getElem?_toArray, List.getElem?_cons_succ, List.getElem?_cons_zero]; rfl)) (fun K hK => ?_) AllReadyH.nil
                  go_simp
                  go_at_call 42
                  with_reducible refine (HT2.out _).mono ?_
                  rintro e wq2 ⟨rfl, hbq2⟩
                  go_wp2_with fail
                  refine hK.out _ _ (keep12 hh2 hbq2) (fun hh3 => ?_)
                  clear hK K
                  try simp only [Act.put, List.setIfInBounds_toArray, List.set_cons_zero, List.set_cons_succ]
                  refine wpAnyH_take (i := 10) (v := ?_) (by (simp only [List.getElem?_toArray, List.getElem?_cons_succ, List.getElem?_cons_zero]; rfl)) (by kernel_rfl) (by kernel_rfl) (by kernel_rfl) (by intro _ _ _ h; exact h) (Or.inl ⟨by rfl, ?_⟩) (by assumption) ?_
                  rotate_left
                  · (intro w hSw; (try dsimp only at hSw); go_simp; try (with_reducible rfl))
                  simp only [Act.put, List.setIfInBounds_toArray, List.set_cons_zero, List.set_cons_succ]
                  have hz2 := row_b hbq2 hz
                  obtain ⟨z0, z1, z2, z3, z4, z5⟩ := six_cells (p := zI) hz2
                  unfold zI at z0 z1 z2 z3 z4 z5
                  have f0 : wq2.frozen? ⟨wq1.heap.size, 0, none⟩ = false := frozen_of_row wq2 _ 0 _ _ hz2
                  have f1 : wq2.frozen? ⟨wq1.heap.size, 1, none⟩ = false := frozen_of_row wq2 _ 1 _ _ hz2
                  have f2 : wq2.frozen? ⟨wq1.heap.size, 2, none⟩ = false := frozen_of_row wq2 _ 2 _ _ hz2
                  have f3 : wq2.frozen? ⟨wq1.heap.size, 3, none⟩ = false := frozen_of_row wq2 _ 3 _ _ hz2
                  have f4 : wq2.frozen? ⟨wq1.heap.size, 4, none⟩ = false := frozen_of_row wq2 _ 4 _ _ hz2
                  have f5 : wq2.frozen? ⟨wq1.heap.size, 5, none⟩ = false := frozen_of_row wq2 _ 5 _ _ hz2
                  have HZ := Lib.hid hz2
                  clear hz2
                  refine wpAnyH_ready (rs := [12]) (by kernel_rfl) (by simp) ?_
                  refine AllReadyH.cons (by (simp only [List.getElem?_toArray, List.getElem?_cons_succ, List.getElem?_cons_zero]; rfl)) (fun K hK => ?_) AllReadyH.nil
                  go_simp
                  refine hK.out _ _ (keep12 hS0 (Below.setCell (Below.setCell (Below.setCell (Below.setCell (Below.setCell (Below.setCell (below12 hh3) hB _) hB _) hB _) hB _) hB _) hB _)) (fun _ => ?_)
                  clear hK K
                  try simp only [Act.put, List.setIfInBounds_toArray, List.set_cons_zero, List.set_cons_succ]
                  refine wpAnyH_done (by kernel_rfl) ?_ _
                  refine NoPanic.normal ?_
                  go_wp2_with fail
                  go_meet
                  exact ⟨wq1.heap.size, rfl, by rw [HME.out]; exact row_set6 _ _ _ _ _ _ _ HZ.out, hB, Below.setCell (Below.setCell (Below.setCell (Below.setCell (Below.setCell (Below.setCell (below12 hh3) hB _) hB _) hB _) hB _) hB _) hB _⟩
              · skip
                go_simp
                refine hK.out _ _ (keep12 hh0 ((Below.refl _ _).alloc (Nat.le_refl _) _)) (fun hh1 => ?_)
                clear hK K
                try simp only [Act.put, List.setIfInBounds_toArray, List.set_cons_zero, List.set_cons_succ]
                have hz : (wg.alloc (.cells #[.bool false, .string { data := #[] }, .bool false, .bool false, .string { data := #[] }, .bool false] 61)).drew.heap[wg.heap.size]? = some (.cells #[.bool false, .string { data := #[] }, .bool false, .bool false, .string { data := #[] }, .bool false] 61) := heap_alloc_new wg _
                generalize (wg.alloc (.cells #[.bool false, .string { data := #[] }, .bool false, .bool false, .string { data := #[] }, .bool false] 61)).drew = wz at hz hh1 ⊢
                have hB : wg.heap.size ≤ wg.heap.size := Nat.le_refl _
                refine wpAnyH_ready (rs := [4]) (by kernel_rfl) (by simp) ?_
                refine AllReadyH.cons (by (simp only [List.getElem?_toArray, List.getElem?_cons_succ, List.getElem?_cons_zero]; rfl)) (fun K hK => ?_) AllReadyH.nil
                go_simp
                go_at_call 42
                with_reducible refine (HT1.out _).mono ?_
                rintro e wq1 ⟨rfl, hbq1⟩
                go_wp2_with fail
                refine hK.out _ _ (keep12 hh1 hbq1) (fun hh2 => ?_)
                clear hK K
                try simp only [Act.put, List.setIfInBounds_toArray, List.set_cons_zero, List.set_cons_succ]
                refine wpAnyH_ready (rs := [9]) (by kernel_rfl) (by simp) ?_
                refine AllReadyH.cons (by (simp only [List.getElem?_toArray, List.getElem?_cons_succ, List.getElem?_cons_zero]; rfl)) (fun K hK => ?_) AllReadyH.nil
                go_simp
                go_at_call 42
                with_reducible refine (HT2.out _).mono ?_
                rintro e wq2 ⟨rfl, hbq2⟩
                go_wp2_with fail
                refine hK.out _ _ (keep12 hh2 hbq2) (fun hh3 => ?_)
                clear hK K
                try simp only [Act.put, List.setIfInBounds_toArray, List.set_cons_zero, List.set_cons_succ]
                refine wpAnyH_take (i := 10) (v := ?_) (by (simp only [List.getElem?_toArray, List.getElem?_cons_succ, List.getElem?_cons_zero]; rfl)) (by kernel_rfl) (by kernel_rfl) (by kernel_rfl) (by intro _ _ _ h; exact h) (Or.inl ⟨by rfl, ?_⟩) (by assumption) ?_
                rotate_left
                · (intro w hSw; (try dsimp only at hSw); go_simp; try (with_reducible rfl))
                simp only [Act.put, List.setIfInBounds_toArray, List.set_cons_zero, List.set_cons_succ]
                have hz2 := row_b hbq2 (row_b hbq1 hz)
                obtain ⟨z0, z1, z2, z3, z4, z5⟩ := six_cells (p := zI) hz2
                unfold zI at z0 z1 z2 z3 z4 z5
                have f0 : wq2.frozen? ⟨wg.heap.size, 0, none⟩ = false := frozen_of_row wq2 _ 0 _ _ hz2
                have f1 : wq2.frozen? ⟨wg.heap.size, 1, none⟩ = false := frozen_of_row wq2 _ 1 _ _ hz2
                have f2 : wq2.frozen? ⟨wg.heap.size, 2, none⟩ = false := frozen_of_row wq2 _ 2 _ _ hz2
                have f3 : wq2.frozen? ⟨wg.heap.size, 3, none⟩ = false := frozen_of_row wq2 _ 3 _ _ hz2
                have f4 : wq2.frozen? ⟨wg.heap.size, 4, none⟩ = false := frozen_of_row wq2 _ 4 _ _ hz2
                have f5 : wq2.frozen? ⟨wg.heap.size, 5, none⟩ = false := frozen_of_row wq2 _ 5 _ _ hz2
                have HZ := Lib.hid hz2
                clear hz2
                refine wpAnyH_ready (rs := [12]) (by kernel_rfl) (by simp) ?_
                refine AllReadyH.cons (by (simp only [List.getElem?_toArray, List.getElem?_cons_succ, List.getElem?_cons_zero]; rfl)) (fun K hK => ?_) AllReadyH.nil
                go_simp
                refine hK.out _ _ (keep12 hS0 (Below.setCell (Below.setCell (Below.setCell (Below.setCell (Below.setCell (Below.setCell (below12 hh3) hB _) hB _) hB _) hB _) hB _) hB _)) (fun _ => ?_)
                clear hK K
                try simp only [Act.put, List.setIfInBounds_toArray, List.set_cons_zero, List.set_cons_succ]
                refine wpAnyH_done (by kernel_rfl) ?_ _
                refine NoPanic.normal ?_
                go_wp2_with fail
                go_meet
                exact ⟨wg.heap.size, rfl, by rw [HME.out]; exact row_set6 _ _ _ _ _ _ _ HZ.out, hB, Below.setCell (Below.setCell (Below.setCell (Below.setCell (Below.setCell (Below.setCell (below12 hh3) hB _) hB _) hB _) hB _) hB _) hB _⟩
            case rest =>
              obtain ⟨B10, rfl, hm10, hB10, hbw⟩ := hcut
              clear x0 x1 x2 x3 x4 x5 y0 y1 y2 y3 y4 y5 hwg HT1 HT2 HME
              have HGM := Lib.hid (HG2.out.below hbw)
              have HK := Lib.hid (rfl : keepI (meetI p q) = keepI (meetI p q))
              have hkeep : keepI (meetI p q) = (!(meetI p q).lo.has || !(meetI p q).hi.has || someB (meetI p q).lo (meetI p q).hi) := rfl
              have hsml : smallE (meetI p q).lo := by
                unfold meetI
                rcases tight_or p.lo q.lo 1 with h | h <;> simp only [h]
                · exact HSP.out.1
                · exact HSQ.out.1
              have hsmh : smallE (meetI p q).hi := by
                unfold meetI
                rcases tight_or p.hi q.hi (-1) with h | h <;> simp only [h]
                · exact HSP.out.2
                · exact HSQ.out.2
              have HSN := Lib.hid (show meetRow p (l2.take (m + 1)) = meetRow p (l2.take m) ++ (if keepI (meetI p q) then [meetI p q] else []) by rw [take_snoc _ m q HQ.out, meetRow_snoc])
              generalize meetI p q = mi at hm10 hkeep hsml hsmh HSN
              have HSB := Lib.hid (fun w => some_at5 mi.lo mi.hi hsml hsmh w)
              generalize someB mi.lo mi.hi = sb at HSB hkeep
              generalize keepI mi = kb at hkeep HSN
              have HKB := Lib.hid hkeep
              have HM10 := Lib.hid hm10
              obtain ⟨m0, m1, m2, m3, m4, m5⟩ := six_cells hm10
              obtain ⟨⟨mlh, mlv, mlc⟩, ⟨mhh, mhv, mhc⟩⟩ := mi
              unfold enV at HSB
              simp only at m0 m1 m2 m3 m4 m5 HSB
              clear hkeep hm10 hsml hsmh HG2 HM2
              go_upto_region 14 with fail
              go_cut [70] from 54 to 77 (fun t wx => t = .bool kb ∧ Below wc.heap.size wc wx)
              case first =>
                cases mlh
                · have hk : kb = true := by rw [HKB.out]; rfl
                  subst hk
                  go_wp2_with fail
                  go_meet
                  exact ⟨rfl, Below.refl _ _⟩
                cases mhh
                · have hk : kb = true := by rw [HKB.out]; rfl
                  subst hk
                  go_wp2_with fail
                  go_meet
                  exact ⟨rfl, Below.refl _ _⟩
                have hk : kb = sb := by rw [HKB.out]; rfl
                subst hk
                go_wp2_with fail
                refine (HSB.out _).mono ?_
                rintro e wq ⟨rfl, hbq⟩
                go_wp2_with fail
                go_meet
                exact ⟨rfl, hbq⟩
              case rest =>
                obtain ⟨rfl, hbx⟩ := hcut
                have HGX := Lib.hid (HGM.out.below hbx)
                have hx10 := row_b hbx HM10.out
                clear hbx hbw m0 m1 m2 m3 m4 m5
                cases kb
                · have HE := Lib.hid (show MR2 w1 w1.heap.size (acc ++ meetRow p (l2.take (m + 1))) B7 p _ by
                    rw [HSN.out]
                    simpa using HGX.out)
                  clear hx10
                  go_wp2
                  go_roundw
                  case rel => exact ⟨m + 1, by omega, by go_num, HE.out⟩
                  case measure => simp [intOf]; omega
                have hlen : (acc ++ meetRow p (l2.take m)).length ≤ 20000 := by
                  have e1 := meetL_len (l1.take k) l2
                  rw [HACC.out] at e1
                  have e2 := meetRow_len p (l2.take m)
                  have e3 := List.length_take_le m l2
                  have e4 := List.length_take_le k l1
                  have e5 : (l1.take k).length * l2.length ≤ 100 * 100 := Nat.mul_le_mul (by omega) (by omega)
                  rw [List.length_append]
                  omega
                have HSN2 := Lib.hid (show acc ++ meetRow p (l2.take (m + 1)) = (acc ++ meetRow p (l2.take m)) ++ [⟨⟨mlh, mlv, mlc⟩, ⟨mhh, mhv, mhc⟩⟩] by rw [HSN.out]; simp)
                obtain ⟨e0, v, he0, hx, ho, hb, h7, hne, hX7'⟩ := HGX.out
                obtain ⟨va, vc, rfl⟩ : ∃ a c, v = .slice a (acc ++ meetRow p (l2.take m)).length c := by
                  rcases ownsRow_forms ho with ⟨rfl, h0⟩ | ⟨g, cap, rfl⟩
                  · exact ⟨none, 0, by rw [h0]⟩
                  · exact ⟨_, _, rfl⟩
                generalize hR : acc ++ meetRow p (l2.take m) = R at hx ho hne hlen HSN2
                have HX := Lib.hid hx
                have H7 := Lib.hid h7
                have HO := Lib.hid ho
                have HB := Lib.hid hb
                have HNE := Lib.hid hne
                have HE0 := Lib.hid he0
                obtain ⟨x0, x1, x2, fx2⟩ := row3_cells hx
                obtain ⟨m0, m1, m2, m3, m4, m5⟩ := six_cells hx10
                have hzX : w1.heap.size + 1 ≤ _ := (Array.getElem?_eq_some_iff.1 hx).1
                simp only at m0 m1 m2 m3 m4 m5
                generalize hrl : R.length = rn at ho x2 hlen hx
                have HRL := Lib.hid hrl
                clear hx h7 hb hne he0 hrl hR hx10
                go_wp2_with (at_builtin
                             refine app6d ⟨⟨mlh, mlv, mlc⟩, ⟨mhh, mhv, mhc⟩⟩ rfl _ _ 23 61 rfl (.agg #[.bool false, .string .empty, .bool false, .bool false, .string .empty, .bool false]) 64 (w1.heap.size + 1) rn Tryd.underlying23 iv_info rfl (.slice va rn vc) _ rfl ho rfl (by omega) (by omega) hzX ?_)
                intro v' w5 ho' hg' hd'
                have hrl := HRL.out
                subst hrl
                obtain ⟨g9, c9, rfl⟩ := ownsRow_form ho' (by omega)
                have hx5 := push_row (w1 := w1) HX.out HO.out hg'
                have HE := Lib.hid (push_mr HE0.out HX.out HO.out HB.out H7.out HNE.out hX7 ho' hg' hd')
                obtain ⟨y0, y1, y2, fy2⟩ := row3_cells hx5
                clear ho' hg' hd' hx5 x0 x1 x2 fx2 m0 m1 m2 m3 m4 m5 ho
                go_wp2
                go_roundw
                case rel => exact ⟨m + 1, by omega, by go_num, by rw [HSN2.out]; exact HE.out⟩
                case measure => simp [intOf]; omega
          · have hml : m = l2.length := by omega
            have hltJ : (l2.length : Int) ≤ m := by omega
            have HE := Lib.hid (show MR w1 w1.heap.size (meetL (l1.take (k + 1)) l2) _ by
              have := hmr.mr
              rw [hml, List.take_length] at this
              rw [take_snoc _ k p HP.out, meetL_snoc, HACC.out]
              exact this)
            clear hmr hml
            go_wp2
            go_roundw
            case rel => exact ⟨k + 1, by omega, by go_num, HE.out⟩
            case measure => simp [intOf]; omega
      · have hkl : k = l1.length := by omega
        have hltI : (l1.length : Int) ≤ k := by omega
        rw [hkl, List.take_length] at hmr
        obtain ⟨e0, v, he0, hx, ho, hbm⟩ := hmr
        obtain ⟨t1, t2, t3, tb⟩ := HQ2.out wr hbm
        have hrv := RdI.of_own ho
        obtain ⟨va, vc, rfl⟩ := rd_shape hrv
        have HRV := Lib.hid hrv
        have T3 := Lib.hid t3
        have TB := Lib.hid tb
        subst he0
        obtain ⟨x0, x1, x2, _⟩ := row3_cells hx
        obtain ⟨r0, r1, r2, f2⟩ := row3_cells t3
        have f0 : wr.frozen? ⟨w.heap.size + 1 + 1, 0, none⟩ = false := frozen_of_row wr _ 0 _ _ t3
        have f1 : wr.frozen? ⟨w.heap.size + 1 + 1, 1, none⟩ = false := frozen_of_row wr _ 1 _ _ t3
        clear hrv t1 t2 t3 tb hx ho hbm hkl
        go_wp2
        refine bodyPost_ret (results_cell_row (P := Tryd.prog) rfl _ _ (w.heap.size + 1 + 1) 25 _ (0, 0) _ rfl (row_set3 (.bool true) (.string .empty) (.slice va (meetL l1 l2).length vc) _ T3.out) Tryd.underlying25 rfl (by kernel_rfl)) rfl ?_
        exact ⟨va, vc, rfl, HRV.out.put3s T3.out _ _ _, below_set3 TB.out (by omega) _ _ _⟩
end Go.Proofs.YtnghagikchffiaaDoor
