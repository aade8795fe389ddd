/-
  Layer 25: a row that a captured variable holds, under closures that add to it; a store into a part of a variable. Own work.
-/
import Derived.Test.YtoibanffaebllaaBeside25
import Derived.Laws.CopyRow
namespace Go.Proofs.Ytoibanffaebllaa
set_option linter.unusedVariables false
set_option linter.unusedSimpArgs false
open Go.RowKit

/-- the variable in block L holds, in mk's place, a row of n elements with the cells xs; all below L is as it was in w0 -/
structure GI (L Bs : Nat) (mk : Value → Obj) (e s : Nat) (w0 : World) (n : Nat) (xs : List Value) (r : Option Nat) (w : World) : Prop where
  sz : w0.heap.size = L
  lt : L < Bs
  b : Below L w0 w
  bs : Bs ≤ w.heap.size
  row : ∃ v, w.heap[L]? = some (mk v) ∧ w.ownsRow Bs e s v n xs ∧ r = v.ownBlock
section
variable {L Bs : Nat} {mk : Value → Obj} {e s : Nat} {w0 w w' w1 w2 w3 : World} {n n' : Nat} {xs xs' : List Value} {r : Option Nat} {v v' : Value}
theorem own_same {base : Nat} (h : w.ownsRow base e s v n xs) (hs : ∀ g, v.ownBlock = some g → w'.heap[g]? = w.heap[g]?) : w'.ownsRow base e s v n xs := by
  refine ⟨h.1, ?_⟩
  rcases h.2 with hn | ⟨g, cap, cur, hv, hb, hg, rest⟩
  · exact .inl hn
  · exact .inr ⟨g, cap, cur, hv, hb, (hs g (by rw [hv]; rfl)).trans hg, rest⟩
theorem GI.stab (h : GI L Bs mk e s w0 n xs r w) (hf : Frm Bs r w w') : GI L Bs mk e s w0 n xs r w' := by
  obtain ⟨v, h1, h2, h3⟩ := h.row
  have hl := h.lt
  have hb := h.bs
  refine ⟨h.sz, h.lt, ⟨hf.os.trans h.b.os, hf.tape.trans h.b.tape, hf.output.trans h.b.output, Nat.le_trans h.b.size hf.size, fun k hk => (hf.block k (by omega) (.inl (by omega))).trans (h.b.block k hk)⟩, Nat.le_trans hb hf.size, v, ?_, ?_, h3⟩
  · exact (hf.block L (by omega) (.inl hl)).trans h1
  · exact own_same h2 fun g hg => hf.block g (h2.lt g hg).2 (.inr (h3.trans hg))
theorem GI.below (h : GI L Bs mk e s w0 n xs r w) (hb : Below w.heap.size w w') : GI L Bs mk e s w0 n xs r w' := h.stab (.of_below hb)
theorem Stp.refl (Bs : Nat) (r : Option Nat) (w : World) : Stp Bs r w r w := ⟨Nat.le_refl _, fun _ _ _ _ => rfl, fun _ _ h => h⟩
theorem Stp.of_below (hb : Below w.heap.size w w') : Stp Bs r w r w' := ⟨hb.size, fun x _ hx _ => hb.block x hx, fun _ _ h => h⟩
theorem Stp.trans {r1 r2 : Option Nat} (h : Stp Bs r w r1 w1) (k : Stp Bs r1 w1 r2 w2) : Stp Bs r w r2 w2 :=
  ⟨Nat.le_trans h.size k.size, fun x h1 h2 h3 => (k.block x h1 (Nat.lt_of_lt_of_le h2 h.size) (h.row x h2 h3)).trans (h.block x h1 h2 h3), fun x h1 h2 => k.row x (Nat.lt_of_lt_of_le h1 h.size) (h.row x h1 h2)⟩
/-- an element more -/
theorem GI.add (h : GI L Bs mk e s w0 n xs r w) (hv : w.heap[L]? = some (mk v)) (hr : r = v.ownBlock) (hown : w.ownsRow Bs e s v n xs) (hb : Below w.heap.size w w1) (ho : w2.ownsRow Bs e s v' n' xs') (hg : w1.grownBy w2 v.ownBlock)
    (hne : ∀ k, k < w1.heap.size → v.ownBlock ≠ some k → v'.ownBlock ≠ some k) (h3 : w2.grownBy w3 (some L)) (hL : w3.heap[L]? = some (mk v')) :
    GI L Bs mk e s w0 n' xs' v'.ownBlock w3 ∧ Stp Bs r w v'.ownBlock w3 := by
  have hl := h.lt
  have hbs := h.bs
  have hz1 := hb.size
  have hz2 := hg.size
  have hz3 := h3.size
  have hrow : ∀ k, v.ownBlock = some k → Bs ≤ k := fun k hk => (hown.lt k hk).1
  have hL' : v'.ownBlock = none ∨ v'.ownBlock ≠ some L := .inr fun e => by have := (ho.lt L e).1; omega
  have step : ∀ x, x ≠ L → x < w.heap.size → v.ownBlock ≠ some x → w3.heap[x]? = w.heap[x]? := fun x h1 h2 h4 =>
    ((h3.block x (by omega) (fun e => h1 (Option.some.inj e))).trans (hg.block x (by omega) (fun e => h4 e.symm))).trans (hb.block x h2)
  refine ⟨⟨h.sz, h.lt, ⟨h3.os.trans (hg.os.trans (hb.os.trans h.b.os)), h3.tape.trans (hg.tape.trans (hb.tape.trans h.b.tape)), h3.output.trans (hg.output.trans (hb.output.trans h.b.output)), by have := h.b.size; omega, fun k hk => ?_⟩, by omega, v', hL, ho.kept h3 hL', rfl⟩, ?_, ?_, ?_⟩
  · exact (step k (by omega) (by omega) (fun e => by have := hrow k e; omega)).trans (h.b.block k hk)
  · omega
  · intro x h1 h2 h4
    rw [hr] at h4
    exact step x (by omega) h2 h4
  · intro x h1 h2
    rw [hr] at h2
    exact hne x (by omega) h2
theorem below_setRow {B V : Nat} {cs : Array Value} (h : Below B w w') (hB : B ≤ V) : Below B w (w'.setRow V cs) :=
  ⟨h.os, h.tape, h.output, by simpa using h.size, fun k hk => (setRow_other w' V k cs (by omega)).trans (h.block k hk)⟩
end
/-- a store of several cells into a part of a variable -/
theorem wp_store_part {P : Program} {o : Oper} {a : Act} {w : World} {K : Act → World → Prop} {Q : Exit → Act → World → Prop} (ty : TypeId) (x y : Operand) (ho : o.op = .store ty x y)
    (V off : Nat) (val : Value) (vs : Array Value) (hval : val.cells = vs) (hx : a.eval x = .pointer (some ⟨V, off, none⟩)) (hy : a.eval y = val)
    (t : TypeId) (cur : Array Value) (hg : w.heap[V]? = some (.cells cur t (0, 0))) (hi : (P.info? ty).map (·.size) = some vs.size)
    (hl : off + vs.size ≤ cur.size) (h1 : vs.all (·.oneCell') = true) (res : Array Value) (hres : (cur.toList.take off ++ vs.toList ++ cur.toList.drop (off + vs.size)).toArray = res)
    (h : K (a.put o.dst undef) (w.setRow V res)) : o.wp P a w K Q := by
  subst hres
  have hst := run_storeCells_at P V off t vs.toList 0 cur w hg (by simpa using hl) (fun v hv => (Array.all_eq_true_iff_forall_mem.1 h1) v (by simpa using hv))
  have hsv : (storeVar ty ⟨V, off, none⟩ val).run P w = .ok () (w.setRow V (cur.toList.take off ++ vs.toList ++ cur.toList.drop (off + vs.size)).toArray) := by
    cases hq : P.info? ty with
    | none => simp [hq] at hi
    | some i =>
      have hs : vs.size = i.size := by simp [hq] at hi; omega
      simp only [Nat.add_zero, Array.length_toList] at hst
      simp [storeVar, sizeOf, typeInfo, hq, hval, ← hs, hst]
  unfold Oper.wp execOp
  simp only [ho, hx, hy, Instr.storeAt, Instr.sureAddr, Sem.run_bind, Sem.run_pure, Result.andThen_ok, hsv]
  exact h
theorem EdP.edR {w : World} {V : Nat} {e : Ed} (h : EdP w V e) : EdR w ⟨V, 0, none⟩ e := fun c u hu => by
  rw [add_off, cell_of_row w V c _ _ (0, 0) h]
  have : (#[Value.string e.key.g, .string e.key.a, .string e.key.t, .string e.key.c, .bool e.had, .bool e.has, .string e.old.g, .string e.old.a, .string e.old.t, .string e.old.c, .string e.old.v, .int .i64 e.old.sc, .string e.new.g, .string e.new.a, .string e.new.t, .string e.new.c, .string e.new.v, .int .i64 e.new.sc] : Array Value) = (edCells e).toArray := rfl
  rw [this]
  simpa using hu
theorem EdP.cells {w : World} {V : Nat} {e : Ed} (h : EdP w V e) : EdIn w V e := by
  have := h.edR
  have hc : ∀ (c : Nat) u, (edCells e)[c]? = some u → w.cell? ⟨V, c, none⟩ = some u := fun c u hu => by have := this c u hu; rwa [add_off] at this
  exact ⟨hc 0 _ rfl, hc 1 _ rfl, hc 2 _ rfl, hc 3 _ rfl, hc 4 _ rfl, hc 5 _ rfl, hc 6 _ rfl, hc 7 _ rfl, hc 8 _ rfl, hc 9 _ rfl, hc 10 _ rfl, hc 11 _ rfl, hc 12 _ rfl, hc 13 _ rfl, hc 14 _ rfl, hc 15 _ rfl, hc 16 _ rfl, hc 17 _ rfl⟩
/-- a pin at an address -/
def PinR (w : World) (a : Addr) (p : Pn) : Prop := ∀ (c : Nat) u, (pnCells p)[c]? = some u → w.cell? (a.add c) = some u
theorem PinR.keyR {w : World} {a : Addr} {p : Pn} (h : PinR w a p) : KeyR w a p.key := fun c u hu => h c u (by
  have h4 : c < 4 := by have := (List.getElem?_eq_some_iff.1 hu).1; simpa [keyCells] using this
  match c, h4 with
  | 0, _ => exact hu
  | 1, _ => exact hu
  | 2, _ => exact hu
  | 3, _ => exact hu)
theorem PinR.below {w w' : World} {a : Addr} {p : Pn} {B : Nat} (h : PinR w a p) (hb : Below B w w') (hB : w.heap.size ≤ B) : PinR w' a p :=
  fun c u hu => (hb.cell (Nat.lt_of_lt_of_le (World.block_lt_of_cell? w _ (h c u hu)) hB)).trans (h c u hu)
theorem RdN.atR {w w' : World} {a : Addr} {B : Nat} {l : List Pn} {i : Nat} {p : Pn} (h : ∀ (i : Nat) p, l[i]? = some p → ∀ (c : Nat) u, (pnCells p)[c]? = some u → w.cell? (a.add (i * 6 + c)) = some u) (hp : l[i]? = some p) (hb : Below B w w') (hB : w.heap.size ≤ B) :
    PinR w' (a.add (i * 6)) p := fun c u hu => by
  rw [Go.Deep.add_add]
  exact (hb.cell (Nat.lt_of_lt_of_le (World.block_lt_of_cell? w _ (h i p hp c u hu)) hB)).trans (h i p hp c u hu)
theorem ld_pin {a : Addr} {p : Pn} {w : World} (h : PinR w a p) : (Instr.loadAt 48 (.pointer (some a))).run Try.prog w = .ok (.agg #[.string p.g, .string p.a, .string p.t, .string p.c, .string p.v, .int .i64 p.sc]) w := by
  have hl : (loadCells a 6).run Try.prog w = .ok (pnCells p).toArray w := run_loadCells_list (P := Try.prog) w a (pnCells p) h
  have hi : (Try.prog.info? 48).map (·.size) = some 6 := by kernel_rfl
  cases hq : Try.prog.info? 48 with
  | none => simp [hq] at hi
  | some i =>
    have hs : i.size = 6 := by simpa [hq] using hi
    have hagg : (isAgg 48).run Try.prog w = .ok true w := by
      unfold isAgg
      rw [Sem.run_bind, run_underlying Try.underlying48 w]
      rfl
    simp only [Instr.loadAt, Instr.sureAddr, Sem.run_bind, Sem.run_pure, Result.andThen_ok]
    simp [loadVar, Sem.run_bind, hagg, sizeOf, typeInfo, hq, hs, hl, pnCells]
theorem yields_load_pin {ops : Array Oper} {S : World → Prop} {op : Oper} {a : Act} (hw : Region.wanted op (yielded ops a.tmps) = true) (x : Operand) (ho : op.op = .load 48 x) (b : Addr) (hx : a.eval x = .pointer (some b)) (p : Pn) (hS : ∀ w, S w → PinR w b p) :
    YieldsIf Try.prog ops S op (.agg #[.string p.g, .string p.a, .string p.t, .string p.c, .string p.v, .int .i64 p.sc]) a :=
  .inl ⟨hw, fun w hw' => by unfold execOp; simp only [ho, hx, Sem.run_bind, ld_pin (hS w hw'), Result.andThen_ok, Sem.run_pure]⟩
end Go.Proofs.Ytoibanffaebllaa
