/-
  Layer 2: the contract of All. Own work.
-/
import Derived.Test.YtpbkidmdfibaoaaGreatDoorAll2
import Derived.Test.YtpbkidmdfibaoaaGreatDoorLen2
namespace Go.Proofs.YtpbkidmdfibaoaaGreatDoor
set_option linter.unusedVariables false
set_option linter.unusedSimpArgs false
open Go.RowKit

/-- what All leaves -/
def AllP (l : List UInt8) (w : World) (e : Ending) (w' : World) : Prop :=
  Below w.heap.size w w' ∧ match allM l with
  | .ok ts _ => ∃ v, e = .returned (.tuple #[v, .int .i64 0, .agg #[.int .i64 0, .int .i64 0, .int .i64 0]]) ∧ RdTs w' v (ts.map (Tk.mem l))
  | .bad c r => e = .returned (.tuple #[.slice none 0 0, .int .i64 c, .agg #[.int .i64 ((l.length - r.length : Nat) : Int), .int .i64 (lineS (preO l r)), .int .i64 (colS (preO l r))]])
theorem all_results (tmps : Array Value) (w : World) (L E P : Nat) (x y p0 p1 p2 : Value) (h2 : tmps.getD 2 undef = .pointer (some ⟨L, 0, none⟩)) (h3 : tmps.getD 3 undef = .pointer (some ⟨E, 0, none⟩)) (h4 : tmps.getD 4 undef = .pointer (some ⟨P, 0, none⟩))
    (h : Res2 w L E P x y p0 p1 p2) :
    (results Tryz.f19 tmps).run Tryz.prog w = .ok (.tuple #[x, y, .agg #[p0, p1, p2]]) w := by
  have h2' : tmps[2]?.getD undef = .pointer (some ⟨L, 0, none⟩) := by simpa using h2
  have h3' : tmps[3]?.getD undef = .pointer (some ⟨E, 0, none⟩) := by simpa using h3
  have h4' : tmps[4]?.getD undef = .pointer (some ⟨P, 0, none⟩) := by simpa using h4
  have l1 := run_loadVar_row w P 29 29 #[p0, p1, p2] (0, 0) _ h.p Tryz.underlying29 rfl (by kernel_rfl)
  have cl : w.cell? ⟨L, 0, none⟩ = some x := by rw [cell_of_row w L 0 _ _ (0, 0) h.l]; rfl
  have ce : w.cell? ⟨E, 0, none⟩ = some y := by rw [cell_of_row w E 0 _ _ (0, 0) h.e]; rfl
  have l2 : (loadVar 42 ⟨L, 0, none⟩).run Tryz.prog w = .ok x w := by
    simp [loadVar, isAgg, Sem.run_bind, run_underlying Tryz.underlying42, cl]
  have l3 : (loadVar 27 ⟨E, 0, none⟩).run Tryz.prog w = .ok y w := by
    simp [loadVar, isAgg, Sem.run_bind, run_underlying Tryz.underlying27, ce]
  simp [results, Tryz.results19, h2', h3', h4', asAddr, l1, l2, l3]
/-- on the way through a text -/
structure A2 (w : World) (L E P X : Nat) (l r : List UInt8) (acc : List (Tm × Value)) (v : Value) (wk : World) : Prop where
  rt : RT wk X l r
  b : Below w.heap.size w wk
  res : Res2 wk L E P v (.int .i64 0) (.int .i64 0) (.int .i64 0) (.int .i64 0)
  o : wk.ownsRow (X + 1) 51 7 v acc.length (rowTs acc)
  a : ∀ p ∈ acc, wk.ownsRow (X + 1) 68 2 p.2 p.1.ats.length (rowAs p.1.ats)
  n : (w.heap.size ≤ L ∧ w.heap.size ≤ E ∧ w.heap.size ≤ P) ∧ (L < X ∧ E < X ∧ P < X) ∧ L ≠ E ∧ L ≠ P ∧ E ≠ P
theorem Res2.kept {w w' : World} {L E P X : Nat} {x y p0 p1 p2 : Value} (h : Res2 w L E P x y p0 p1 p2) (hb : ∀ k, k < X → k < w.heap.size → w'.heap[k]? = w.heap[k]?) (hL : L < X) (hE : E < X) (hP : P < X) : Res2 w' L E P x y p0 p1 p2 :=
  ⟨(hb L hL (Array.getElem?_eq_some_iff.1 h.l).1).trans h.l, (hb E hE (Array.getElem?_eq_some_iff.1 h.e).1).trans h.e, (hb P hP (Array.getElem?_eq_some_iff.1 h.p).1).trans h.p⟩
theorem own_types {w : World} {B B' e e' size size' n n' : Nat} {v v' : Value} {xs xs' : List Value} (h : w.ownsRow B e size v n xs) (h' : w.ownsRow B' e' size' v' n' xs') (hne : e ≠ e') : v.ownBlock = none ∨ v.ownBlock ≠ v'.ownBlock := by
  rcases h.2 with ⟨rfl, _⟩ | ⟨g, cap, cur, rfl, _, hg, _⟩
  · exact .inl rfl
  · rcases h'.2 with ⟨rfl, _⟩ | ⟨g', cap', cur', rfl, _, hg', _⟩
    · exact .inr (by simp [Value.ownBlock])
    · refine .inr fun he => ?_
      simp only [Value.ownBlock, Option.some.injEq] at he
      subst he
      rw [hg] at hg'
      simp only [Option.some.injEq, Obj.cells.injEq] at hg'
      exact hne hg'.2.1
section
variable {w wk wk' : World} {L E P X : Nat} {l r r' : List UInt8} {acc : List (Tm × Value)} {v : Value}
theorem A2.mv (h : A2 w L E P X l r acc v wk) (hm : Mv X l r' wk wk') : A2 w L E P X l r' acc v wk' := by
  have hz := h.rt.lt
  have hn := h.n
  exact ⟨hm.1, h.b.trans ⟨hm.2.os, hm.2.tape, hm.2.output, hm.2.size, fun k hk => hm.2.block k (by have := h.b.size; omega) (by simp; omega)⟩,
    h.res.kept (X := X) (fun k hk hk2 => hm.2.block k hk2 (by simp; omega)) hn.2.1.1 hn.2.1.2.1 hn.2.1.2.2, own_x h.o hm.2 (by omega), fun p hp => own_x (h.a p hp) hm.2 (by omega), h.n⟩
theorem A2.below (h : A2 w L E P X l r acc v wk) (hb : Below wk.heap.size wk wk') : A2 w L E P X l r acc v wk' :=
  ⟨h.rt.below hb, h.b.trans (hb.mono h.b.size), h.res.kept (X := X) (fun k hk hk2 => hb.block k hk2) h.n.2.1.1 h.n.2.1.2.1 h.n.2.1.2.2, own_belowG h.o hb, fun p hp => own_belowG (h.a p hp) hb, h.n⟩
theorem A2.push {v' va : Value} {x : Tm} {wp : World} (h : A2 w L E P X l r acc v wk) (hva : wk.ownsRow (X + 1) 68 2 va x.ats.length (rowAs x.ats)) (ho : wk'.ownsRow (X + 1) 51 7 v' (acc.length + 1) (rowTs acc ++ tmL x va)) (hg : wk.grownBy wk' v.ownBlock) :
    A2 w L E P X l r (acc ++ [(x, va)]) v' (wk'.setCell ⟨L, 0, none⟩ v') := by
  have hn := h.n
  have hlt : ∀ q, v.ownBlock = some q → X + 1 ≤ q := fun q hq => (h.o.lt q hq).1
  have hX := h.rt.lt
  have hb : Below (X + 1) wk wk' := (Below.refl _ _).grown hg (by omega) hlt
  have hres : Res2 wk' L E P v (.int .i64 0) (.int .i64 0) (.int .i64 0) (.int .i64 0) := h.res.kept (X := X) (fun k hk _ => hb.block k (by omega)) hn.2.1.1 hn.2.1.2.1 hn.2.1.2.2
  refine ⟨⟨h.rt.1, ?_⟩, ?_, ⟨?_, ?_, ?_⟩, ?_, ?_, h.n⟩
  · rw [heap_setCell_other wk' ⟨L, 0, none⟩ X v' (fun e => by simp only at e; omega)]
    exact (hb.block X (by omega)).trans h.rt.2
  · exact (h.b.trans (hb.mono (by omega))).setCell hn.1.1 _
  · have := heap_setCell_same wk' L 0 _ _ v' hres.l
    simpa using this
  · rw [heap_setCell_other wk' ⟨L, 0, none⟩ E v' (fun e => by simp only at e; omega)]
    exact hres.e
  · rw [heap_setCell_other wk' ⟨L, 0, none⟩ P v' (fun e => by simp only at e; omega)]
    exact hres.p
  · rw [List.length_append, List.length_singleton, rowTs_snoc]
    exact ownsRow_setCell_below ho (a := ⟨L, 0, none⟩) (by simp; omega) v'
  · intro p hp
    refine ownsRow_setCell_below ?_ (a := ⟨L, 0, none⟩) (by simp; omega) v'
    rcases List.mem_append.1 hp with hp | hp
    · exact (h.a p hp).kept hg (own_types (h.a p hp) h.o (by decide))
    · rw [List.mem_singleton] at hp
      subst hp
      exact hva.kept hg (own_types hva h.o (by decide))
theorem A2.bad {c : Int} {r2 : List UInt8} {y : Value} {w9 : World} (hM : allM l = .bad c r2) (hb : Below w.heap.size w wk) (hn : w.heap.size ≤ L ∧ w.heap.size ≤ E ∧ w.heap.size ≤ P) (hfr : ∀ k, k < wk.heap.size → k ≠ L → k ≠ E → k ≠ P → w9.heap[k]? = wk.heap[k]?) (h1 : w9.os = wk.os) (h2 : w9.tape = wk.tape) (h3 : w9.output = wk.output) (h4 : wk.heap.size ≤ w9.heap.size) :
    AllP l w (.returned (.tuple #[.slice none 0 0, .int .i64 c, .agg #[.int .i64 ((l.length - r2.length : Nat) : Int), .int .i64 (lineS (preO l r2)), .int .i64 (colS (preO l r2))]])) w9 := by
  refine ⟨hb.trans ⟨h1, h2, h3, h4, fun k hk => hfr k (by have := hb.size; omega) (by omega) (by omega) (by omega)⟩, ?_⟩
  rw [hM]
end
theorem A2.done {w w4 : World} {L E P X : Nat} {l r : List UInt8} {acc : List (Tm × Value)} {v : Value} {ts : List Tk} (h : A2 w L E P X l r acc v w4) (hmap : acc.map (·.1) = ts.map (Tk.mem l)) (hM : allM l = .ok ts []) {w9 : World}
    (hw9 : w9 = ((((w4.setCell ⟨L, 0, none⟩ v).setCell ⟨E, 0, none⟩ (.int .i64 0)).setCell ⟨P, 0, none⟩ (.int .i64 0)).setCell ⟨P, 1, none⟩ (.int .i64 0)).setCell ⟨P, 2, none⟩ (.int .i64 0)) :
    Res2 w9 L E P v (.int .i64 0) (.int .i64 0) (.int .i64 0) (.int .i64 0) ∧ AllP l w (.returned (.tuple #[v, .int .i64 0, .agg #[.int .i64 0, .int .i64 0, .int .i64 0]])) w9 := by
  have hn := h.n
  have hres := h.res
  have o1 : ∀ (w : World) (v : Value) (k o : Nat), k ≠ L → (w.setCell ⟨L, o, none⟩ v).heap[k]? = w.heap[k]? := fun w v k o hk => heap_setCell_other w ⟨L, o, none⟩ k v hk
  have o2 : ∀ (w : World) (v : Value) (k o : Nat), k ≠ E → (w.setCell ⟨E, o, none⟩ v).heap[k]? = w.heap[k]? := fun w v k o hk => heap_setCell_other w ⟨E, o, none⟩ k v hk
  have o3 : ∀ (w : World) (v : Value) (k o : Nat), k ≠ P → (w.setCell ⟨P, o, none⟩ v).heap[k]? = w.heap[k]? := fun w v k o hk => heap_setCell_other w ⟨P, o, none⟩ k v hk
  have hLE := hn.2.2.1
  have hLP := hn.2.2.2.1
  have hEP := hn.2.2.2.2
  have own : ∀ {e size n : Nat} {u : Value} {xs : List Value}, w4.ownsRow (X + 1) e size u n xs → w9.ownsRow (X + 1) e size u n xs := by
    intro e size n u xs ho
    rw [hw9]
    exact ownsRow_setCell_below (ownsRow_setCell_below (ownsRow_setCell_below (ownsRow_setCell_below (ownsRow_setCell_below ho (a := ⟨L, 0, none⟩) (by simp; omega) _) (a := ⟨E, 0, none⟩) (by simp; omega) _) (a := ⟨P, 0, none⟩) (by simp; omega) _) (a := ⟨P, 1, none⟩) (by simp; omega) _) (a := ⟨P, 2, none⟩) (by simp; omega) _
  refine ⟨⟨?_, ?_, ?_⟩, ?_, ?_⟩
  · rw [hw9, o3 _ _ _ _ hLP, o3 _ _ _ _ hLP, o3 _ _ _ _ hLP, o2 _ _ _ _ hLE]
    have := heap_setCell_same w4 L 0 _ _ v hres.l
    simpa using this
  · rw [hw9, o3 _ _ _ _ hEP, o3 _ _ _ _ hEP, o3 _ _ _ _ hEP]
    have := heap_setCell_same (w4.setCell ⟨L, 0, none⟩ v) E 0 _ _ (.int .i64 0) ((o1 _ _ _ _ (Ne.symm hLE)).trans hres.e)
    simpa using this
  · have hp : ((w4.setCell ⟨L, 0, none⟩ v).setCell ⟨E, 0, none⟩ (.int .i64 0)).heap[P]? = _ := (o2 _ _ _ _ (Ne.symm hEP)).trans ((o1 _ _ _ _ (Ne.symm hLP)).trans hres.p)
    have r1 := heap_setCell_same _ P 0 _ _ (.int .i64 0) hp
    have r2 := heap_setCell_same _ P 1 _ _ (.int .i64 0) r1
    have r3 := heap_setCell_same _ P 2 _ _ (.int .i64 0) r2
    rw [hw9]
    simpa using r3
  · rw [hw9]
    exact ((((h.b.setCell (p := ⟨L, 0, none⟩) hn.1.1 _).setCell (p := ⟨E, 0, none⟩) hn.1.2.1 _).setCell (p := ⟨P, 0, none⟩) hn.1.2.2 _).setCell (p := ⟨P, 1, none⟩) hn.1.2.2 _).setCell (p := ⟨P, 2, none⟩) hn.1.2.2 _
  · rw [hM]
    refine ⟨v, rfl, ?_⟩
    rw [← hmap]
    exact RdTs.of_own (own h.o) (fun p hp => RdAs.of_own (own (h.a p hp)))
/-- a token behind a row of one's own -/
theorem stepT {P : Program} {w0 : World} {ops : Array Oper} {E : Prop} {o : Oper} {a : Act} {K : Act → World → Prop} {Q : Exit → Act → World → Prop} (p : Tm) (va : Value) (hva : va.oneCell' = true) (s x : Operand) (t e : TypeId) (hgd : o.guard = none)
    (ho : o.op = .call { callee := .builtin .append, args := #[s, x], argTypes := #[t, t] }) (z : Value) (bytes base n : Nat)
    (ht : P.underlying t = some (.slice e)) (hinfo : (P.info? e).map (fun i => (i.zero, i.size, i.bytes)) = some (some z, 7, bytes)) (hzs : z.cells.size = 7)
    (v : Value) (xs : List Value) (hs : a.eval s = v) (hown : w0.ownsRow base e 7 v n xs) (hx : a.eval x = .slice (some ⟨w0.heap.size, 0, none⟩) 1 1)
    (h63 : n + 1 ≤ 281474976710656) (hbytes : (n + 1) * bytes ≤ 140737488355328) (hbase : base ≤ w0.heap.size)
    (h : ∀ v' w', w'.ownsRow base e 7 v' (n + 1) (xs ++ tmL p va) → w0.grownBy w' v.ownBlock → K (a.put o.dst v') w') :
    if Region.wanted o (yielded ops a.tmps) = true then Oper.wp P o a (w0.alloc (.cells #[.int .i64 p.k, .string (str p.n), va, .string (str p.t), .int .i64 p.po, .int .i64 p.pl, .int .i64 p.pc] e)) K Q else E := by
  obtain ⟨i, hi, hz, hsize, hby⟩ := info_parts hinfo
  refine step_append_lies _ hgd s x t ho base e i z 7 bytes ht hi hz hsize hby hzs (by omega) v n xs hs (hown.alloc _) ⟨w0.heap.size, 0, none⟩ 1 1 (tmL p va) hx rfl ?_ ?_ (by omega) (by simp only [maxLen]; omega) hbytes (by simp; omega) (w0.heap.size + 1) (by simp) ?_
  · intro j y hj
    rw [add_off2, cell_of_row _ w0.heap.size j _ e (0, 0) (heap_alloc_new w0 _)]
    have : (#[Value.int .i64 p.k, .string (str p.n), va, .string (str p.t), .int .i64 p.po, .int .i64 p.pl, .int .i64 p.pc] : Array Value) = (tmL p va).toArray := rfl
    rw [this]
    simpa using hj
  · intro u hu
    simp only [tmL, List.mem_cons, List.not_mem_nil, or_false] at hu
    rcases hu with rfl | rfl | rfl | rfl | rfl | rfl | rfl <;> first | rfl | exact hva
  · intro g cap w' ho' hg _ _
    exact h _ w' ho' ⟨hg.os, hg.tape, hg.output, Nat.le_trans (by simp) hg.size, fun k hk hne => (hg.block k (by simp; omega) hne).trans (Below.heap_alloc _ _ _ hk)⟩
theorem tok_two {X : Nat} {l r : List UInt8} {w w' : World} {e : Ending} (h : TokQ X l r w e w') :
    (∃ e5 r5, pieceM (l.length - r.length) r = .bad e5 r5 ∧ e = bad2 e5 l r5 ∧ w.grownBy w' (some X)) ∨
      ∃ x r5 va, pieceM (l.length - r.length) r = .ok x r5 ∧ e = .returned (.agg (tmL (x.mem l) va).toArray) ∧ Mv X l r5 w w' ∧ w'.ownsRow w.heap.size 68 2 va x.ats.length (rowAs x.ats) := by
  unfold TokQ at h
  cases hM : pieceM (l.length - r.length) r with
  | bad e5 r5 => simp only [hM] at h; exact .inl ⟨e5, r5, rfl, h.1, h.2⟩
  | ok x r5 => simp only [hM] at h; obtain ⟨hm, va, rfl, ho⟩ := h; exact .inr ⟨x, r5, va, rfl, rfl, hm, ho⟩
set_option maxRecDepth 100000 in
set_option maxHeartbeats 8000000 in
theorem All_any (l : List UInt8) (hl : l.length ≤ 1000000) (w : World) :
    Calls Tryz.prog 19 #[.string (str l)] w (AllP l w) := by
  have hmf : ∀ (fn : Fn) (first cap : Array Value) (w : World), (Instr.makeFunc fn first cap).run Tryz.prog w = .ok (.func fn first cap) w := fun _ _ _ _ => rfl
  have HAT := Lib.hid (fun w => At_any (str l) (by rw [size_str]; omega) 0 0 (by rw [size_str]; omega) w)
  obtain ⟨w1, hw1⟩ : ∃ w1, w1 = ((w.alloc (.cells #[.slice none 0 0] 42)).alloc (.cells #[.int .i64 0] 27)).alloc (.cells #[.int .i64 0, .int .i64 0, .int .i64 0] 29) := ⟨_, rfl⟩
  have hz1 : w1.heap.size = w.heap.size + 3 := by rw [hw1]; simp
  have hb1 : Below w.heap.size w w1 := by rw [hw1]; exact (((Below.refl w.heap.size w).alloc (Nat.le_refl _) _).alloc (by simp) _).alloc (by simp; omega) _
  have hres1 : Res2 w1 w.heap.size (w.heap.size + 1) (w.heap.size + 1 + 1) (.slice none 0 0) (.int .i64 0) (.int .i64 0) (.int .i64 0) (.int .i64 0) := by
    rw [hw1]
    refine ⟨?_, ?_, ?_⟩
    · rw [Below.heap_alloc _ _ _ (by simp; omega), Below.heap_alloc _ _ _ (by simp)]; exact heap_alloc_new w _
    · rw [Below.heap_alloc _ _ _ (by simp)]; exact heap_alloc2_new w _ _
    · have := heap_alloc2_new (w.alloc (.cells #[.slice none 0 0] 42)) (.cells #[.int .i64 0] 27) (.cells #[.int .i64 0, .int .i64 0, .int .i64 0] 29)
      simpa using this
  have HW1 := Lib.hid hw1
  clear hw1
  go_enter_defers Tryz.func19, Tryz.ntmps19
  go_upto_region 2 with fail
  rw [← HW1.out]
  obtain ⟨P, hP⟩ : ∃ P, P = w.heap.size + 1 + 1 := ⟨_, rfl⟩
  obtain ⟨E, hE⟩ : ∃ E, E = w.heap.size + 1 := ⟨_, rfl⟩
  obtain ⟨L, hL⟩ : ∃ L, L = w.heap.size := ⟨_, rfl⟩
  rw [← hP, ← hE] at hres1 ⊢
  have hres2 : Res2 w1 L E P (.slice none 0 0) (.int .i64 0) (.int .i64 0) (.int .i64 0) (.int .i64 0) := by rw [hL]; exact hres1
  have hN : (w.heap.size ≤ L ∧ w.heap.size ≤ E ∧ w.heap.size ≤ P) ∧ (L < w1.heap.size ∧ E < w1.heap.size ∧ P < w1.heap.size) ∧ L ≠ E ∧ L ≠ P ∧ E ≠ P := by omega
  have HN := Lib.hid hN
  have HRES := Lib.hid hres2
  have HB1 := Lib.hid hb1
  have HL := Lib.hid hL
  simp only [← HL.out]
  clear hres1 hres2 hN hP hE hL hz1 hb1
  go_wp2_with fail
  refine (HAT.out w1).mono ?_
  rintro e w2 ⟨rfl, hb2⟩
  have hpl : placeV (str l).data.toList 0 = .agg #[.int .i64 0, .int .i64 1, .int .i64 1] := rfl
  rw [hpl]
  obtain ⟨w3, hw3⟩ : ∃ w3, w3 = w2.alloc (.cells #[.int .i64 0, .int .i64 1, .int .i64 1, .string (str l)] 76) := ⟨_, rfl⟩
  have hb3 : Below w2.heap.size w2 w3 := by rw [hw3]; exact (Below.refl _ _).alloc (Nat.le_refl _) _
  have hX3 : w3.heap[w2.heap.size]? = some (.cells #[.int .i64 0, .int .i64 1, .int .i64 1, .string (str l)] 76 (0, 0)) := by rw [hw3]; exact heap_alloc_new w2 _
  have hA : A2 w L E P w2.heap.size l l [] (.slice none 0 0) w3 := by
    have hz := hb2.size
    have hn := HN.out
    refine ⟨⟨List.suffix_refl _, ?_⟩, ?_, ?_, World.ownsRow_nil _ _ _ _, fun p hp => by simp at hp, hn.1, ⟨by omega, by omega, by omega⟩, hn.2.2⟩
    · rw [hX3, Nat.sub_self]
      have : preO l l = [] := by unfold preO; rw [Nat.sub_self]; rfl
      rw [this]; rfl
    · exact HB1.out.trans ((hb2.mono HB1.out.size).trans (hb3.mono (Nat.le_trans HB1.out.size hz)))
    · exact (HRES.out.kept (X := w1.heap.size) (fun k hk _ => hb2.block k hk) hn.2.1.1 hn.2.1.2.1 hn.2.1.2.2).kept (X := w2.heap.size) (fun k hk _ => hb3.block k hk) (by omega) (by omega) (by omega)
  have HA := Lib.hid hA
  have HW3 := Lib.hid hw3
  clear hw3 hb3 hX3 hA hb2 hpl
  go_upto_region 3 with fail
  rw [← HW3.out]
  generalize w2.heap.size = X at HA ⊢
  have hsz : ((str l).size : Int) = (l.length : Int) := by rw [size_str]
  by_cases hbig : 65536 < l.length
  · have hgt : (65536 : Int) < ((str l).size : Int) := by rw [size_str]; omega
    have HFL := Lib.hid (fail_at X l l 2 w3 HA.out.rt)
    have HM := Lib.hid (show allM l = .bad 2 l by unfold allM; rw [if_pos hbig])
    clear hsz
    go_wp2_with fail
    refine HFL.out.mono ?_
    rintro e w4 ⟨rfl, rfl⟩
    go_wp2
    refine leaves_cons (f := 37) (args := #[.pointer (some ⟨L, 0, none⟩), .pointer (some ⟨E, 0, none⟩), .pointer (some ⟨P, 0, none⟩)]) (by simp) (by simp [go_sem]) ?_
    refine (catch_bad L E P HN.out.2.2.1 HN.out.2.2.2.1 HN.out.2.2.2.2 _ _ _ _ _ HA.out.res).mono ?_
    rintro e u' w9 ⟨rfl, rfl, hres, hfr, h1, h2, h3, h4⟩
    have hbad := A2.bad (y := undef) HM.out HA.out.b HN.out.1 hfr h1 h2 h3 h4
    refine ⟨_, all_results _ _ L E P _ _ _ _ _ rfl rfl rfl hres, ?_⟩
    simpa using hbad
  have hle : ((str l).size : Int) ≤ 65536 := by rw [size_str]; omega
  have HMA := Lib.hid (show allM l = goM l (l.length + 1) [] l by unfold allM; rw [if_neg hbig])
  clear hsz hbig
  go_upto_region 5 with fail
  go_loopw [] (fun wr => ∃ (acc : List (Tm × Value)) (ts : List Tk) (v : Value) (r : List UInt8) (f : Nat), r.length < f ∧ goM l f ts r = allM l ∧ acc.map (·.1) = ts.map (Tk.mem l) ∧ acc.length + r.length ≤ l.length ∧ A2 w L E P X l r acc v wr) (fun wr => l.length - offW X wr)
  case atStart => exact ⟨[], [], _, l, l.length + 1, by omega, HMA.out.symm, rfl, by simp, HA.out⟩
  case round =>
    clear HA
    obtain ⟨acc, ts, v, r, f, hf, hmod, hmap, hlen, ha⟩ := hrel
    have HMOD := Lib.hid hmod
    have HMAP := Lib.hid hmap
    have HLEN := Lib.hid hlen
    have HA := Lib.hid ha
    obtain ⟨g, hg⟩ : ∃ g, f = g + 1 := ⟨f - 1, by omega⟩
    subst hg
    have HG := Lib.hid hf
    have HE := Lib.hid (ended_at X l r wr ha.rt)
    clear hmod hmap hlen ha hf
    cases r with
    | nil =>
      have HFIN := Lib.hid (show allM l = .ok ts [] by rw [← HMOD.out, goM, if_pos rfl])
      go_wp2_with fail
      refine HE.out.mono ?_
      rintro e w4 ⟨rfl, hm⟩
      have HA4 := Lib.hid (HA.out.mv hm)
      clear hm HE
      dsimp only [List.isEmpty]
      obtain ⟨va, vc, rfl⟩ := RdSl.shape (RdTs.of_own HA4.out.o (fun p hp => RdAs.of_own (HA4.out.a p hp)))
      have hres := HA4.out.res
      have c0 : w4.cell? ⟨L, 0, none⟩ = some (.slice va (acc.map (·.1)).length vc) := by rw [cell_of_row w4 L 0 _ _ (0, 0) hres.l]; rfl
      have c1 : w4.cell? ⟨E, 0, none⟩ = some (.int .i64 0) := by rw [cell_of_row w4 E 0 _ _ (0, 0) hres.e]; rfl
      have c2 : w4.cell? ⟨P, 0, none⟩ = some (.int .i64 0) := by rw [cell_of_row w4 P 0 _ _ (0, 0) hres.p]; rfl
      have c3 : w4.cell? ⟨P, 1, none⟩ = some (.int .i64 0) := by rw [cell_of_row w4 P 1 _ _ (0, 0) hres.p]; rfl
      have c4 : w4.cell? ⟨P, 2, none⟩ = some (.int .i64 0) := by rw [cell_of_row w4 P 2 _ _ (0, 0) hres.p]; rfl
      have f0 : w4.frozen? ⟨L, 0, none⟩ = false := frozen_of_row w4 _ 0 _ _ hres.l
      have f1 : w4.frozen? ⟨E, 0, none⟩ = false := frozen_of_row w4 _ 0 _ _ hres.e
      have f2 : w4.frozen? ⟨P, 0, none⟩ = false := frozen_of_row w4 _ 0 _ _ hres.p
      have f3 : w4.frozen? ⟨P, 1, none⟩ = false := frozen_of_row w4 _ 1 _ _ hres.p
      have f4 : w4.frozen? ⟨P, 2, none⟩ = false := frozen_of_row w4 _ 2 _ _ hres.p
      have n1 : ¬ L = E := HN.out.2.2.1
      have n2 : ¬ L = P := HN.out.2.2.2.1
      have n3 : ¬ E = P := HN.out.2.2.2.2
      have n4 : ¬ E = L := fun e => HN.out.2.2.1 e.symm
      have n5 : ¬ P = L := fun e => HN.out.2.2.2.1 e.symm
      have n6 : ¬ P = E := fun e => HN.out.2.2.2.2 e.symm
      clear hres
      go_wp2_with fail
      obtain ⟨w9, hw9⟩ : ∃ w9, w9 = ((((w4.setCell ⟨L, 0, none⟩ (.slice va (acc.map (·.1)).length vc)).setCell ⟨E, 0, none⟩ (.int .i64 0)).setCell ⟨P, 0, none⟩ (.int .i64 0)).setCell ⟨P, 1, none⟩ (.int .i64 0)).setCell ⟨P, 2, none⟩ (.int .i64 0) := ⟨_, rfl⟩
      obtain ⟨u1, u2⟩ := HA4.out.done HMAP.out HFIN.out hw9
      have hln : (acc.map (·.1)).length = acc.length := List.length_map _
      rw [hln] at hw9 u1 u2
      rw [← hw9]
      refine leaves_cons (f := 37) (args := #[.pointer (some ⟨L, 0, none⟩), .pointer (some ⟨E, 0, none⟩), .pointer (some ⟨P, 0, none⟩)]) (by simp) (by simp [go_sem]) ?_
      refine (catch_idle L E P _).mono ?_
      rintro e u' wz ⟨rfl, rfl, rfl⟩
      exact ⟨_, all_results _ _ L E P _ _ _ _ _ rfl rfl rfl u1, u2⟩
    | cons c r3 =>
      have HNX := Lib.hid (show allM l = (pieceM (l.length - (c :: r3).length) (c :: r3)).bind fun t r1 => goM l g (ts ++ [t]) r1 by rw [← HMOD.out, goM, if_neg (by simp)])
      go_wp2_with fail
      refine HE.out.mono ?_
      rintro e w4 ⟨rfl, hm⟩
      have HA4 := Lib.hid (HA.out.mv hm)
      clear hm HE
      dsimp only [List.isEmpty]
      have HT := Lib.hid ((token_at X l r3 c hl w4.drew (HA4.out.below (Below.refl _ _).drew).rt).mono (fun e w5 hq => tok_two (w := w4.drew) hq))
      obtain ⟨va, vc, hv⟩ := RdSl.shape (RdTs.of_own HA4.out.o (fun p hp => RdAs.of_own (HA4.out.a p hp)))
      rw [List.length_map] at hv
      subst hv
      have hres := HA4.out.res
      have c0 : w4.cell? ⟨L, 0, none⟩ = some (.slice va acc.length vc) := by rw [cell_of_row w4 L 0 _ _ (0, 0) hres.l]; rfl
      have HCL := Lib.hid (show acc.length + 1 ≤ 1000001 by have h1 := HLEN.out; omega)
      clear hres
      go_upto_region 6 with fail
      first | (go_region_law (first
        | (go_simp; go_at_call 41; refine HT.out.mono ?_; intro e w5 hq; obtain ⟨e5, r5, hM, rfl, hg⟩ | ⟨x, r5, ta, hM, rfl, hm, ho⟩ := hq; ((try dsimp only); have HFIN := Lib.hid (show allM l = .bad e5 r5 by rw [HNX.out, hM]; rfl); have HRS := Lib.hid (HA4.out.res.kept (w' := w5) (X := X) (fun k hk hk2 => hg.block k hk2 (by simp; omega)) HA4.out.n.2.1.1 HA4.out.n.2.1.2.1 HA4.out.n.2.1.2.2); have HBW := Lib.hid (show Below w.heap.size w w5 from HA4.out.b.trans ⟨hg.os, hg.tape, hg.output, hg.size, fun k hk => hg.block k (by have := HA4.out.b.size; show k < w4.heap.size; omega) (by have := HA4.out.n; simp; omega)⟩); clear hg hM c0; go_wp2; refine leaves_cons (f := 37) (args := #[.pointer (some ⟨L, 0, none⟩), .pointer (some ⟨E, 0, none⟩), .pointer (some ⟨P, 0, none⟩)]) (by simp) (by simp [go_sem]) ?_; refine (catch_bad L E P HN.out.2.2.1 HN.out.2.2.2.1 HN.out.2.2.2.2 _ _ _ _ _ HRS.out).mono ?_; rintro e u' w9 ⟨rfl, rfl, hres, hfr, h1, h2, h3, h4⟩; exact ⟨_, all_results _ _ L E P _ _ _ _ _ rfl rfl rfl hres, A2.bad (y := undef) HFIN.out HBW.out HN.out.1 hfr h1 h2 h3 h4⟩); (try dsimp only); have HM := Lib.hid hM; have HA5 := Lib.hid ((HA4.out.below (Below.refl _ _).drew).mv hm); have HTA := Lib.hid (own_mono2 ho (B' := X + 1) HA4.out.rt.lt); obtain ⟨tb, tc, rfl⟩ := RdSl.shape (RdAs.of_own ho); have y0 : w5.cell? ⟨L, 0, none⟩ = some (.slice va acc.length vc) := (by rw [cell_of_row w5 L 0 _ _ (0, 0) HA5.out.res.l]; rfl); have hT5 : L < w5.heap.size := (Array.getElem?_eq_some_iff.1 HA5.out.res.l).1; have hTx : tmL (x.mem l) (.slice tb x.ats.length tc) = [.int .i64 (x.mem l).k, .string (str (x.mem l).n), .slice tb x.ats.length tc, .string (str (x.mem l).t), .int .i64 (x.mem l).po, .int .i64 (x.mem l).pl, .int .i64 (x.mem l).pc] := rfl; rw [hTx]; clear hm hM ho hTx)
        | (refine stepT (w0 := w5) (x.mem l) (.slice tb x.ats.length tc) rfl (.tmp 20) (.tmp 23) 42 51 rfl rfl _ 88 (X + 1) acc.length Tryz.underlying42 token_info rfl (.slice va acc.length vc) _ (by simp [Act.eval, Act.put]) HA5.out.o (by simp [Act.eval, Act.put]) (by have := HCL.out; omega) (by have := HCL.out; omega) HA5.out.rt.lt ?_; intro v1 w7 o7 g7; obtain ⟨gb, gc, rfl, _, _⟩ := o7.form (by omega); have h7 : w7.heap[L]? = _ := (g7.block L hT5 (fun e => by have := (HA5.out.o.lt _ e.symm).1; have := HA5.out.n; omega)).trans HA5.out.res.l; have f7 : w7.frozen? ⟨L, 0, none⟩ = false := frozen_of_row w7 _ 0 _ _ h7; have x7 : w7.cell? ⟨L, 0, none⟩ = some (.slice va acc.length vc) := (by rw [cell_of_row w7 _ 0 _ _ (0, 0) h7]; rfl); clear h7))) | fail "the region"
      all_goals
        have HA7 := Lib.hid (A2.push (wp := w5) (x := x.mem l) HA5.out HTA.out o7 g7)
        have HNF := Lib.hid (show goM l g (ts ++ [x]) r5 = allM l by rw [HNX.out, HM.out]; rfl)
        have HLF := Lib.hid (show r5.length < g ∧ (acc ++ [(x.mem l, Value.slice tb x.ats.length tc)]).length + r5.length ≤ l.length by have h1 := piece_len HM.out; have h3 := HLEN.out; have h4 := HG.out; simp only [List.length_append, List.length_cons, List.length_nil] at h3 h4 ⊢; omega)
        have HMF := Lib.hid (show (acc ++ [(x.mem l, Value.slice tb x.ats.length tc)]).map (·.1) = (ts ++ [x]).map (Tk.mem l) by rw [List.map_append, List.map_append, HMAP.out]; rfl)
        have HOF := Lib.hid (show l.length - offW X (w7.setCell ⟨L, 0, none⟩ (.slice (some ⟨gb, 0, none⟩) (acc.length + 1) gc)) < l.length - offW X wr by
          rw [HA7.out.rt.off, HA.out.rt.off]
          have h1 := piece_len HM.out; have h3 := suf_len HA.out.rt.1; have h4 := suf_len HA7.out.rt.1
          simp only [List.length_cons] at h3 ⊢
          omega)
        clear f7 x7 o7 g7 y0 c0 hT5 HT
        go_wp2_with fail
        go_roundw
        case rel => exact ⟨_, ts ++ [x], _, r5, g, HLF.out.1, HNF.out, HMF.out, HLF.out.2, HA7.out⟩
        case measure => exact HOF.out
end Go.Proofs.YtpbkidmdfibaoaaGreatDoor
