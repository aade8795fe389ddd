/-
  Layer 25: edits in memory: slices that read as edits; append of an edit; an edit in a variable; pins and keys that are compared. Own work.
-/
import Derived.Test.YtoibanffaebllaaEd25
import Derived.Laws.StructEq
import Derived.Deep.WholeRow
import Derived.Deep.Quiet
import Derived.Deep.MidRow
namespace Go.Proofs.Ytoibanffaebllaa
set_option linter.unusedVariables false
set_option linter.unusedSimpArgs false
open Go.RowKit

def edCells (e : Ed) : List Value := [.string e.key.g, .string e.key.a, .string e.key.t, .string e.key.c, .bool e.had, .bool e.has, .string e.old.g, .string e.old.a, .string e.old.t, .string e.old.c, .string e.old.v, .int .i64 e.old.sc, .string e.new.g, .string e.new.a, .string e.new.t, .string e.new.c, .string e.new.v, .int .i64 e.new.sc]
def edV (e : Ed) : Value := .agg #[.string e.key.g, .string e.key.a, .string e.key.t, .string e.key.c, .bool e.had, .bool e.has, .string e.old.g, .string e.old.a, .string e.old.t, .string e.old.c, .string e.old.v, .int .i64 e.old.sc, .string e.new.g, .string e.new.a, .string e.new.t, .string e.new.c, .string e.new.v, .int .i64 e.new.sc]
def rowE (l : List Ed) : List Value := l.flatMap edCells
theorem rowE_snoc (l : List Ed) (e : Ed) : rowE (l ++ [e]) = rowE l ++ edCells e := by simp [rowE]
theorem rowE_len : ∀ l : List Ed, (rowE l).length = l.length * 18
  | [] => rfl
  | p :: l => by
    have := rowE_len l
    simp only [rowE, List.flatMap_cons, List.length_append, List.length_cons, edCells, List.length_nil] at this ⊢
    omega
theorem rowE_at : ∀ (l : List Ed) (i c : Nat) (p : Ed), l[i]? = some p → c < 18 → (rowE l)[i * 18 + c]? = (edCells p)[c]?
  | [], i, c, p, h, _ => by simp at h
  | q :: l, 0, c, p, h, hc => by
    simp only [List.getElem?_cons_zero, Option.some.injEq] at h
    subst h
    simp only [rowE, List.flatMap_cons]
    rw [List.getElem?_append_left (by simp [edCells]; omega)]
    simp
  | q :: l, i + 1, c, p, h, hc => by
    have := rowE_at l i c p (by simpa using h) hc
    simp only [rowE, List.flatMap_cons] at this ⊢
    rw [List.getElem?_append_right (by simp [edCells]; omega), ← this]
    congr 1
    simp [edCells]; omega
/-- the slice v reads in w as these edits -/
def RdE (w : World) (v : Value) (l : List Ed) : Prop :=
  (v = .slice none 0 0 ∧ l = []) ∨ ∃ a cap, v = .slice (some a) l.length cap ∧ l.length ≤ cap ∧ cap ≤ 9223372036854775807 ∧
    ∀ (i : Nat) p, l[i]? = some p → ∀ (c : Nat) u, (edCells p)[c]? = some u → w.cell? (a.add (i * 18 + c)) = some u
theorem RdE.below {w w' : World} {v : Value} {l : List Ed} {B : Nat} (h : RdE w v l) (hb : Below B w w') (hB : w.heap.size ≤ B) : RdE w' v l := by
  rcases h with h | ⟨a, cap, h1, h2, h3, h5⟩
  · exact .inl h
  · exact .inr ⟨a, cap, h1, h2, h3, fun i p hp c u hu => (hb.cell (Nat.lt_of_lt_of_le (World.block_lt_of_cell? w _ (h5 i p hp c u hu)) hB)).trans (h5 i p hp c u hu)⟩
theorem RdE.shape {w : World} {v : Value} {l : List Ed} (h : RdE w v l) : ∃ a c, v = .slice a l.length c := by
  rcases h with ⟨rfl, rfl⟩ | ⟨a, cap, rfl, _⟩
  · exact ⟨none, 0, rfl⟩
  · exact ⟨some a, cap, rfl⟩
theorem RdE.nil {w : World} {a : Option Addr} {n c : Nat} (h : RdE w (.slice a n c) []) : n = 0 := by
  rcases h with ⟨h, _⟩ | ⟨a, cap, h, _⟩
  · cases h; rfl
  · cases h; rfl
/-- an element's cells, in the forms in which a load asks for them -/
def EdAt (w : World) (a : Addr) (e : Ed) : Prop :=
  w.cell? a = some (.string e.key.g) ∧ w.cell? ⟨a.block, a.off + 1, none⟩ = some (.string e.key.a) ∧ w.cell? ⟨a.block, a.off + 2, none⟩ = some (.string e.key.t) ∧ w.cell? ⟨a.block, a.off + 3, none⟩ = some (.string e.key.c) ∧ w.cell? ⟨a.block, a.off + 4, none⟩ = some (.bool e.had) ∧ w.cell? ⟨a.block, a.off + 5, none⟩ = some (.bool e.has) ∧ w.cell? ⟨a.block, a.off + 6, none⟩ = some (.string e.old.g) ∧ w.cell? ⟨a.block, a.off + 7, none⟩ = some (.string e.old.a) ∧ w.cell? ⟨a.block, a.off + 8, none⟩ = some (.string e.old.t) ∧ w.cell? ⟨a.block, a.off + 9, none⟩ = some (.string e.old.c) ∧ w.cell? ⟨a.block, a.off + 10, none⟩ = some (.string e.old.v) ∧ w.cell? ⟨a.block, a.off + 11, none⟩ = some (.int .i64 e.old.sc) ∧ w.cell? ⟨a.block, a.off + 12, none⟩ = some (.string e.new.g) ∧ w.cell? ⟨a.block, a.off + 13, none⟩ = some (.string e.new.a) ∧ w.cell? ⟨a.block, a.off + 14, none⟩ = some (.string e.new.t) ∧ w.cell? ⟨a.block, a.off + 15, none⟩ = some (.string e.new.c) ∧ w.cell? ⟨a.block, a.off + 16, none⟩ = some (.string e.new.v) ∧ w.cell? ⟨a.block, a.off + 17, none⟩ = some (.int .i64 e.new.sc)
theorem RdE.at {w w' : World} {a : Addr} {B : Nat} {l : List Ed} {i : Nat} {p : Ed} (h : ∀ (i : Nat) p, l[i]? = some p → ∀ (c : Nat) u, (edCells p)[c]? = some u → w.cell? (a.add (i * 18 + c)) = some u) (hp : l[i]? = some p) (hb : Below B w w') (hB : w.heap.size ≤ B) :
    EdAt w' (a.add (i * 18)) p := by
  have hc := fun c u hu => (hb.cell (Nat.lt_of_lt_of_le (World.block_lt_of_cell? w _ (h i p hp c u hu)) hB)).trans (h i p hp c u hu)
  have hd : ∀ (c : Nat) u, (edCells p)[c + 1]? = some u → w'.cell? ⟨(a.add (i * 18)).block, (a.add (i * 18)).off + (c + 1), none⟩ = some u := fun c u hu => by
    have h1 := hc (c + 1) u hu
    rw [← Go.Deep.add_add] at h1
    exact h1
  exact ⟨hc 0 _ rfl, hd 0 _ rfl, hd 1 _ rfl, hd 2 _ rfl, hd 3 _ rfl, hd 4 _ rfl, hd 5 _ rfl, hd 6 _ rfl, hd 7 _ rfl, hd 8 _ rfl, hd 9 _ rfl, hd 10 _ rfl, hd 11 _ rfl, hd 12 _ rfl, hd 13 _ rfl, hd 14 _ rfl, hd 15 _ rfl, hd 16 _ rfl⟩
/-- the slice that has an element -/
theorem RdE.elem {w : World} {a : Option Addr} {n c : Nat} {l : List Ed} {i : Nat} {p : Ed} (h : RdE w (.slice a n c) l) (hp : l[i]? = some p) :
    ∃ b, a = some b ∧ n = l.length ∧ l.length ≤ c ∧ c ≤ 9223372036854775807 ∧ ∀ (i : Nat) p, l[i]? = some p → ∀ (c : Nat) u, (edCells p)[c]? = some u → w.cell? (b.add (i * 18 + c)) = some u := by
  rcases h with ⟨_, rfl⟩ | ⟨b, cap, h, h1, h2, h3⟩
  · simp at hp
  · cases h
    exact ⟨b, rfl, rfl, h1, h2, h3⟩
theorem RdE.of_own {w : World} {v : Value} {l : List Ed} {base e : Nat} (h : w.ownsRow base e 18 v l.length (rowE l)) : RdE w v l := by
  have h0 := h
  obtain ⟨_, hc⟩ := h
  rcases hc with ⟨rfl, hn⟩ | ⟨g, cap, cur, rfl, _, hg, hn, hcm, _, _⟩
  · exact .inl ⟨rfl, List.eq_nil_of_length_eq_zero hn⟩
  · refine .inr ⟨⟨g, 0, none⟩, cap, rfl, hn, by unfold maxLen at hcm; exact hcm, fun i p hp c u hu => ?_⟩
    have hc6 : c < 18 := by have := (List.getElem?_eq_some_iff.1 hu).1; simpa [edCells] using this
    exact h0.cells (g := g) rfl _ u ((rowE_at l i c p hp hc6).trans hu)
theorem ed_info : (Try.prog.info? 50).map (fun i => (i.zero, i.size, i.bytes)) = some (some (.agg #[.string .empty, .string .empty, .string .empty, .string .empty, .bool false, .bool false, .string .empty, .string .empty, .string .empty, .string .empty, .string .empty, .int .i64 0, .string .empty, .string .empty, .string .empty, .string .empty, .string .empty, .int .i64 0]), 18, 248) := by kernel_rfl
/-- what `append(s, x)` of one edit does, and where the row lies then -/
theorem app18e {P : Program} {ops : Array Oper} {rest : List Oper} {o : Oper} {a : Act} {Q : Exit → Act → World → Prop} {w0 : World} (e : Ed) (hgd : o.guard = none) (s x : Operand) (t te : TypeId)
    (ho : o.op = .call { callee := .builtin .append, args := #[s, x], argTypes := #[t, t] }) (z : Value) (bytes base n : Nat)
    (ht : P.underlying t = some (.slice te)) (hinfo : (P.info? te).map (fun i => (i.zero, i.size, i.bytes)) = some (some z, 18, bytes)) (hzs : z.cells.size = 18)
    (v : Value) (xs : List Value) (hs : a.eval s = v) (hown : w0.ownsRow base te 18 v n xs) (hx : a.eval x = .slice (some ⟨w0.heap.size, 0, none⟩) 1 1)
    (h63 : n + 1 ≤ 281474976710656) (hbytes : (n + 1) * bytes ≤ 140737488355328) (hbase : base ≤ w0.heap.size)
    (h : ∀ v' w', w'.ownsRow base te 18 v' (n + 1) (xs ++ edCells e) → w0.grownBy w' v.ownBlock → (∀ k, k < w0.heap.size → v.ownBlock ≠ some k → v'.ownBlock ≠ some k) → wpList P ops Q rest (a.put o.dst v') w') :
    wpList P ops Q (o :: rest) a (w0.alloc (.cells #[.string e.key.g, .string e.key.a, .string e.key.t, .string e.key.c, .bool e.had, .bool e.has, .string e.old.g, .string e.old.a, .string e.old.t, .string e.old.c, .string e.old.v, .int .i64 e.old.sc, .string e.new.g, .string e.new.a, .string e.new.t, .string e.new.c, .string e.new.v, .int .i64 e.new.sc] te)) := by
  obtain ⟨i, hi, hz, hsize, hby⟩ := info_parts hinfo
  refine wpList_append_lies _ hgd s x t ho base te i z 18 bytes ht hi hz hsize hby hzs (by omega) v n xs hs (hown.alloc _) ⟨w0.heap.size, 0, none⟩ 1 1 (edCells e) hx rfl ?_ (by simp [edCells, Value.oneCell']) (by omega) (by simp only [maxLen]; omega) hbytes (by simp; omega) (w0.heap.size + 1) (by simp) ?_
  · intro j y hj
    rw [add_off, cell_of_row _ w0.heap.size j _ te (0, 0) (heap_alloc_new w0 _)]
    have : (#[Value.string e.key.g, .string e.key.a, .string e.key.t, .string e.key.c, .bool e.had, .bool e.has, .string e.old.g, .string e.old.a, .string e.old.t, .string e.old.c, .string e.old.v, .int .i64 e.old.sc, .string e.new.g, .string e.new.a, .string e.new.t, .string e.new.c, .string e.new.v, .int .i64 e.new.sc] : Array Value) = (edCells e).toArray := rfl
    rw [this]
    simpa using hj
  · intro g cap w' ho' hg hw _
    refine h _ w' ho' ⟨hg.os, hg.tape, hg.output, Nat.le_trans (by simp) hg.size, fun k hk hne => (hg.block k (by simp; omega) hne).trans (Below.heap_alloc _ _ _ hk)⟩ fun k hk hne => ?_
    have e1 : (Value.slice (some ⟨g, 0, none⟩) (n + 1) cap).ownBlock = some g := rfl
    rw [e1]
    intro h2
    cases h2
    rcases hw with hw | hw
    · exact hne hw
    · omega
/-- an edit in a variable of its own -/
def EdIn (w : World) (b : Nat) (e : Ed) : Prop :=
  w.cell? ⟨b, 0, none⟩ = some (.string e.key.g) ∧ w.cell? ⟨b, 1, none⟩ = some (.string e.key.a) ∧ w.cell? ⟨b, 2, none⟩ = some (.string e.key.t) ∧ w.cell? ⟨b, 3, none⟩ = some (.string e.key.c) ∧ w.cell? ⟨b, 4, none⟩ = some (.bool e.had) ∧ w.cell? ⟨b, 5, none⟩ = some (.bool e.has) ∧ w.cell? ⟨b, 6, none⟩ = some (.string e.old.g) ∧ w.cell? ⟨b, 7, none⟩ = some (.string e.old.a) ∧ w.cell? ⟨b, 8, none⟩ = some (.string e.old.t) ∧ w.cell? ⟨b, 9, none⟩ = some (.string e.old.c) ∧ w.cell? ⟨b, 10, none⟩ = some (.string e.old.v) ∧ w.cell? ⟨b, 11, none⟩ = some (.int .i64 e.old.sc) ∧ w.cell? ⟨b, 12, none⟩ = some (.string e.new.g) ∧ w.cell? ⟨b, 13, none⟩ = some (.string e.new.a) ∧ w.cell? ⟨b, 14, none⟩ = some (.string e.new.t) ∧ w.cell? ⟨b, 15, none⟩ = some (.string e.new.c) ∧ w.cell? ⟨b, 16, none⟩ = some (.string e.new.v) ∧ w.cell? ⟨b, 17, none⟩ = some (.int .i64 e.new.sc)
theorem EdIn.new (w : World) (e : Ed) : EdIn (w.alloc (.cells #[.string e.key.g, .string e.key.a, .string e.key.t, .string e.key.c, .bool e.had, .bool e.has, .string e.old.g, .string e.old.a, .string e.old.t, .string e.old.c, .string e.old.v, .int .i64 e.old.sc, .string e.new.g, .string e.new.a, .string e.new.t, .string e.new.c, .string e.new.v, .int .i64 e.new.sc] 50)) w.heap.size e := by
  refine ⟨?_, ?_, ?_, ?_, ?_, ?_, ?_, ?_, ?_, ?_, ?_, ?_, ?_, ?_, ?_, ?_, ?_, ?_⟩ <;> simp [go_sem]
theorem EdIn.below {w w' : World} {b B : Nat} {e : Ed} (h : EdIn w b e) (hb : Below B w w') (hB : w.heap.size ≤ B) : EdIn w' b e := by
  obtain ⟨h0, h1, h2, h3, h4, h5, h6, h7, h8, h9, h10, h11, h12, h13, h14, h15, h16, h17⟩ := h
  have hc : ∀ {A : Addr} {x : Value}, w.cell? A = some x → w'.cell? A = some x := fun hx => (hb.cell (Nat.lt_of_lt_of_le (World.block_lt_of_cell? w _ hx) hB)).trans hx
  exact ⟨hc h0, hc h1, hc h2, hc h3, hc h4, hc h5, hc h6, hc h7, hc h8, hc h9, hc h10, hc h11, hc h12, hc h13, hc h14, hc h15, hc h16, hc h17⟩
def EdP (w : World) (b : Nat) (e : Ed) : Prop := w.heap[b]? = some (.cells #[.string e.key.g, .string e.key.a, .string e.key.t, .string e.key.c, .bool e.had, .bool e.has, .string e.old.g, .string e.old.a, .string e.old.t, .string e.old.c, .string e.old.v, .int .i64 e.old.sc, .string e.new.g, .string e.new.a, .string e.new.t, .string e.new.c, .string e.new.v, .int .i64 e.new.sc] 50 (0, 0))
/-! comparing -/
theorem eqI_key (x y : K4) (d : Nat) (w : World) : (Op.equalIn (d + 2) 46 (.agg #[.string x.g, .string x.a, .string x.t, .string x.c]) (.agg #[.string y.g, .string y.a, .string y.t, .string y.c])).run Try.prog w = .ok (sameK x y) w := by
  have u3 := Try.underlying9
  have a3 := Try.isAgg9
  have z3 := Try.sizeOf9
  have hS : Try.prog.underlying 46 = some (.struct (Try.prog.fieldsOf 46)) := by kernel_rfl
  have hp : Try.prog.stoodInHeld 46 = false := by kernel_rfl
  rw [run_equalIn_agg w (d + 1) 46 _ _ hS hp]
  simp only [Program.fieldsOf, Try.underlying46]
  go_simp
  unfold sameK
  by_cases h1 : x.g.toList = y.g.toList <;> by_cases h2 : x.a.toList = y.a.toList <;> by_cases h3 : x.t.toList = y.t.toList <;> by_cases h4 : x.c.toList = y.c.toList <;> simp [h1, h2, h3, h4]
theorem eq_key (x y : K4) (w : World) : (binOp .eql 46 (.agg #[.string x.g, .string x.a, .string x.t, .string x.c]) (.agg #[.string y.g, .string y.a, .string y.t, .string y.c])).run Try.prog w = .ok (.bool (sameK x y)) w := by
  rw [run_eql_struct, show (10000 : Nat) = 9998 + 2 from rfl, eqI_key]; rfl
theorem eqI_pin (p q : Pn) (d : Nat) (w : World) : (Op.equalIn (d + 3) 48 (.agg #[.string p.g, .string p.a, .string p.t, .string p.c, .string p.v, .int .i64 p.sc]) (.agg #[.string q.g, .string q.a, .string q.t, .string q.c, .string q.v, .int .i64 q.sc])).run Try.prog w = .ok (sameP p q) w := by
  have u3 := Try.underlying9
  have a3 := Try.isAgg9
  have z3 := Try.sizeOf9
  have ui := Try.underlying3
  have ai := Try.isAgg3
  have zi := Try.sizeOf3
  have ak := Try.isAgg46
  have zk := Try.sizeOf46
  have hS : Try.prog.underlying 48 = some (.struct (Try.prog.fieldsOf 48)) := by kernel_rfl
  have hp : Try.prog.stoodInHeld 48 = false := by kernel_rfl
  have hk := fun d w => eqI_key p.key q.key d w
  unfold Pn.key at hk
  have hs : sameP p q = (sameK ⟨p.g, p.a, p.t, p.c⟩ ⟨q.g, q.a, q.t, q.c⟩ && ((p.v.toList == q.v.toList) && (p.sc == q.sc))) := by unfold sameP sameK; simp only [Bool.and_assoc]
  rw [hs]
  generalize sameK ⟨p.g, p.a, p.t, p.c⟩ ⟨q.g, q.a, q.t, q.c⟩ = b at hk
  simp only at hk
  rw [run_equalIn_agg w (d + 2) 48 _ _ hS hp]
  simp only [Program.fieldsOf, Try.underlying48]
  go_simp
  cases b <;> by_cases h1 : p.v.toList = q.v.toList <;> by_cases h2 : p.sc = q.sc <;> simp [h1, h2]
theorem eq_pin (p q : Pn) (w : World) : (binOp .eql 48 (.agg #[.string p.g, .string p.a, .string p.t, .string p.c, .string p.v, .int .i64 p.sc]) (.agg #[.string q.g, .string q.a, .string q.t, .string q.c, .string q.v, .int .i64 q.sc])).run Try.prog w = .ok (.bool (sameP p q)) w := by
  rw [run_eql_struct, show (10000 : Nat) = 9997 + 3 from rfl, eqI_pin]; rfl
theorem neq_pin (p q : Pn) (w : World) : (binOp .neq 48 (.agg #[.string p.g, .string p.a, .string p.t, .string p.c, .string p.v, .int .i64 p.sc]) (.agg #[.string q.g, .string q.a, .string q.t, .string q.c, .string q.v, .int .i64 q.sc])).run Try.prog w = .ok (.bool (!(sameP p q))) w := by
  rw [run_neq_struct, show (10000 : Nat) = 9997 + 3 from rfl, eqI_pin]; rfl
theorem neq_ed (e : Ed) (w : World) : (binOp .neq 50 (.agg #[.string e.key.g, .string e.key.a, .string e.key.t, .string e.key.c, .bool e.had, .bool e.has, .string e.old.g, .string e.old.a, .string e.old.t, .string e.old.c, .string e.old.v, .int .i64 e.old.sc, .string e.new.g, .string e.new.a, .string e.new.t, .string e.new.c, .string e.new.v, .int .i64 e.new.sc]) (.agg #[.string e.key.g, .string e.key.a, .string e.key.t, .string e.key.c, .bool e.had, .bool e.has, .string e.old.g, .string e.old.a, .string e.old.t, .string e.old.c, .string e.old.v, .int .i64 e.old.sc, .string e.new.g, .string e.new.a, .string e.new.t, .string e.new.c, .string e.new.v, .int .i64 e.new.sc])).run Try.prog w = .ok (.bool false) w := by
  have ab := Try.isAgg4
  have zb := Try.sizeOf4
  have ub := Try.underlying4
  have ak := Try.isAgg46
  have zk := Try.sizeOf46
  have ap := Try.isAgg48
  have zp := Try.sizeOf48
  have hS : Try.prog.underlying 50 = some (.struct (Try.prog.fieldsOf 50)) := by kernel_rfl
  have hp : Try.prog.stoodInHeld 50 = false := by kernel_rfl
  have hk := fun d w => eqI_key e.key e.key d w
  rw [sameK_eq.2 rfl] at hk
  have ho := fun d w => eqI_pin e.old e.old d w
  rw [sameP_self] at ho
  have hn := fun d w => eqI_pin e.new e.new d w
  rw [sameP_self] at hn
  rw [run_neq_struct, show (10000 : Nat) = 9999 + 1 from rfl, run_equalIn_agg w 9999 50 _ _ hS hp, show (9999 : Nat) = 9996 + 3 from rfl]
  simp only [Program.fieldsOf, Try.underlying50]
  go_simp
  try simp
/-! an edit, loaded and stored whole -/
/-- at an address -/
def EdR (w : World) (a : Addr) (e : Ed) : Prop := ∀ (c : Nat) u, (edCells e)[c]? = some u → w.cell? (a.add c) = some u
theorem RdE.atR {w w' : World} {a : Addr} {B : Nat} {l : List Ed} {i : Nat} {p : Ed} (h : ∀ (i : Nat) p, l[i]? = some p → ∀ (c : Nat) u, (edCells p)[c]? = some u → w.cell? (a.add (i * 18 + c)) = some u) (hp : l[i]? = some p) (hb : Below B w w') (hB : w.heap.size ≤ B) :
    EdR w' (a.add (i * 18)) p := fun c u hu => by
  rw [Go.Deep.add_add]
  exact (hb.cell (Nat.lt_of_lt_of_le (World.block_lt_of_cell? w _ (h i p hp c u hu)) hB)).trans (h i p hp c u hu)
theorem ld_ed {a : Addr} {e : Ed} {w : World} (h : EdR w a e) : (Instr.loadAt 50 (.pointer (some a))).run Try.prog w = .ok (.agg #[.string e.key.g, .string e.key.a, .string e.key.t, .string e.key.c, .bool e.had, .bool e.has, .string e.old.g, .string e.old.a, .string e.old.t, .string e.old.c, .string e.old.v, .int .i64 e.old.sc, .string e.new.g, .string e.new.a, .string e.new.t, .string e.new.c, .string e.new.v, .int .i64 e.new.sc]) w := by
  have hl : (loadCells a 18).run Try.prog w = .ok (edCells e).toArray w := run_loadCells_list (P := Try.prog) w a (edCells e) h
  have hi := ed_info
  cases hq : Try.prog.info? 50 with
  | none => simp [hq] at hi
  | some i =>
    have hs : i.size = 18 := by simp [hq] at hi; exact hi.2.1
    have hagg : (isAgg 50).run Try.prog w = .ok true w := by
      unfold isAgg
      rw [Sem.run_bind, run_underlying Try.underlying50 w]
      rfl
    simp only [Instr.loadAt, Instr.sureAddr, Sem.run_bind, Sem.run_pure, Result.andThen_ok]
    simp [loadVar, Sem.run_bind, hagg, sizeOf, typeInfo, hq, hs, hl, edCells]
theorem wpList_load_ed {ops : Array Oper} {rest : List Oper} {o : Oper} {a : Act} {w : World} {Q : Exit → Act → World → Prop} (hgd : o.guard = none) (x : Operand) (ho : o.op = .load 50 x)
    (p : Addr) (hx : a.eval x = .pointer (some p)) (e : Ed) (he : EdR w p e)
    (h : wpList Try.prog ops Q rest (a.put o.dst (.agg #[.string e.key.g, .string e.key.a, .string e.key.t, .string e.key.c, .bool e.had, .bool e.has, .string e.old.g, .string e.old.a, .string e.old.t, .string e.old.c, .string e.old.v, .int .i64 e.old.sc, .string e.new.g, .string e.new.a, .string e.new.t, .string e.new.c, .string e.new.v, .int .i64 e.new.sc])) w) : wpList Try.prog ops Q (o :: rest) a w :=
  wpList_plain hgd fun _ hK => by
    unfold Oper.wp execOp
    simp only [ho, hx, Sem.run_bind, ld_ed he, Result.andThen_ok, Sem.run_pure]
    exact hK _ _ h
theorem wpList_store_ed {ops : Array Oper} {rest : List Oper} {o : Oper} {a : Act} {w : World} {Q : Exit → Act → World → Prop} (hgd : o.guard = none) (x y : Operand) (ho : o.op = .store 50 x y)
    (c : Array Value) (hc : c.size = 18) (hx : a.eval x = .pointer (some ⟨w.heap.size, 0, none⟩)) (e : Ed) (hy : a.eval y = .agg #[.string e.key.g, .string e.key.a, .string e.key.t, .string e.key.c, .bool e.had, .bool e.has, .string e.old.g, .string e.old.a, .string e.old.t, .string e.old.c, .string e.old.v, .int .i64 e.old.sc, .string e.new.g, .string e.new.a, .string e.new.t, .string e.new.c, .string e.new.v, .int .i64 e.new.sc])
    (h : wpList Try.prog ops Q rest (a.put o.dst undef) (w.alloc (.cells #[.string e.key.g, .string e.key.a, .string e.key.t, .string e.key.c, .bool e.had, .bool e.has, .string e.old.g, .string e.old.a, .string e.old.t, .string e.old.c, .string e.old.v, .int .i64 e.old.sc, .string e.new.g, .string e.new.a, .string e.new.t, .string e.new.c, .string e.new.v, .int .i64 e.new.sc] 50))) : wpList Try.prog ops Q (o :: rest) a (w.alloc (.cells c 50)) := by
  refine wpList_store_row hgd 50 x y ho w.heap.size _ hx hy 50 c (heap_alloc_new w _) (by kernel_rfl) hc (by simp [Value.oneCell']) ?_
  rw [World.setRow_alloc_new]
  exact h
theorem quiet_load_ed {C : World → Prop} {K : Act → Prop} {o : Oper} {a : Act} (x : Operand) (ho : o.op = .load 50 x) (p : Addr) (hx : a.eval x = .pointer (some p)) (e : Ed) (he : ∀ w, C w → EdR w p e)
    (hk : K (a.put o.dst (.agg #[.string e.key.g, .string e.key.a, .string e.key.t, .string e.key.c, .bool e.had, .bool e.has, .string e.old.g, .string e.old.a, .string e.old.t, .string e.old.c, .string e.old.v, .int .i64 e.old.sc, .string e.new.g, .string e.new.a, .string e.new.t, .string e.new.c, .string e.new.v, .int .i64 e.new.sc]))) : o.quiet Try.prog a C K :=
  ⟨_, fun w hw => by unfold Oper.quietAt execOp; simp only [ho, hx, Sem.run_bind, ld_ed (he w hw), Result.andThen_ok, Sem.run_pure]; exact ⟨rfl, rfl⟩, hk⟩
theorem quiet_bin {P : Program} {C : World → Prop} {K : Act → Prop} {o : Oper} {a : Act} (b : BinOp) (t rt : TypeId) (x y : Operand) (ho : o.op = .binOp b t x y rt) (v : Value) (hv : ∀ w, (binOp b t (a.eval x) (a.eval y)).run P w = .ok v w) (hg : ∀ w, (eqGuard b t x y (a.eval x) (a.eval y)).run P w = .ok () w)
    (hk : K (a.put o.dst v)) : o.quiet P a C K := by
  refine ⟨v, fun w hw => ?_, hk⟩
  unfold Oper.quietAt execOp
  simp only [ho, Sem.run_bind, hg, hv, Result.andThen_ok, Sem.run_pure]
  exact ⟨rfl, rfl⟩
/-- a key at an address -/
def keyCells (k : K4) : List Value := [.string k.g, .string k.a, .string k.t, .string k.c]
def KeyR (w : World) (a : Addr) (k : K4) : Prop := ∀ (c : Nat) u, (keyCells k)[c]? = some u → w.cell? (a.add c) = some u
theorem EdR.keyR {w : World} {a : Addr} {e : Ed} (h : EdR w a e) : KeyR w a e.key := fun c u hu => h c u (by
  have h4 : c < 4 := by have := (List.getElem?_eq_some_iff.1 hu).1; simpa [keyCells] using this
  match c, h4 with
  | 0, _ => exact hu
  | 1, _ => exact hu
  | 2, _ => exact hu
  | 3, _ => exact hu)
theorem EdR.below {w w' : World} {a : Addr} {e : Ed} {B : Nat} (h : EdR w a e) (hb : Below B w w') (hB : w.heap.size ≤ B) : EdR w' a e :=
  fun c u hu => (hb.cell (Nat.lt_of_lt_of_le (World.block_lt_of_cell? w _ (h c u hu)) hB)).trans (h c u hu)
theorem KeyR.below {w w' : World} {a : Addr} {k : K4} {B : Nat} (h : KeyR w a k) (hb : Below B w w') (hB : w.heap.size ≤ B) : KeyR w' a k :=
  fun c u hu => (hb.cell (Nat.lt_of_lt_of_le (World.block_lt_of_cell? w _ (h c u hu)) hB)).trans (h c u hu)
theorem EdR.new (w : World) (e : Ed) : EdR (w.alloc (.cells #[.string e.key.g, .string e.key.a, .string e.key.t, .string e.key.c, .bool e.had, .bool e.has, .string e.old.g, .string e.old.a, .string e.old.t, .string e.old.c, .string e.old.v, .int .i64 e.old.sc, .string e.new.g, .string e.new.a, .string e.new.t, .string e.new.c, .string e.new.v, .int .i64 e.new.sc] 50)) ⟨w.heap.size, 0, none⟩ e := fun c u hu => by
  rw [add_off, cell_of_row _ w.heap.size c _ _ (0, 0) (heap_alloc_new w _)]
  have : (#[Value.string e.key.g, .string e.key.a, .string e.key.t, .string e.key.c, .bool e.had, .bool e.has, .string e.old.g, .string e.old.a, .string e.old.t, .string e.old.c, .string e.old.v, .int .i64 e.old.sc, .string e.new.g, .string e.new.a, .string e.new.t, .string e.new.c, .string e.new.v, .int .i64 e.new.sc] : Array Value) = (edCells e).toArray := rfl
  rw [this]
  simpa using hu
theorem ld_key {a : Addr} {k : K4} {w : World} (h : KeyR w a k) : (Instr.loadAt 46 (.pointer (some a))).run Try.prog w = .ok (.agg #[.string k.g, .string k.a, .string k.t, .string k.c]) w := by
  have hl : (loadCells a 4).run Try.prog w = .ok (keyCells k).toArray w := run_loadCells_list (P := Try.prog) w a (keyCells k) h
  have hi : (Try.prog.info? 46).map (·.size) = some 4 := by kernel_rfl
  cases hq : Try.prog.info? 46 with
  | none => simp [hq] at hi
  | some i =>
    have hs : i.size = 4 := by simpa [hq] using hi
    have hagg : (isAgg 46).run Try.prog w = .ok true w := by
      unfold isAgg
      rw [Sem.run_bind, run_underlying Try.underlying46 w]
      rfl
    simp only [Instr.loadAt, Instr.sureAddr, Sem.run_bind, Sem.run_pure, Result.andThen_ok]
    simp [loadVar, Sem.run_bind, hagg, sizeOf, typeInfo, hq, hs, hl, keyCells]
theorem yields_load_ed {ops : Array Oper} {S : World → Prop} {op : Oper} {a : Act} (hw : Region.wanted op (yielded ops a.tmps) = true) (x : Operand) (ho : op.op = .load 50 x) (p : Addr) (hx : a.eval x = .pointer (some p)) (e : Ed) (hS : ∀ w, S w → EdR w p e) :
    YieldsIf Try.prog ops S op (.agg #[.string e.key.g, .string e.key.a, .string e.key.t, .string e.key.c, .bool e.had, .bool e.has, .string e.old.g, .string e.old.a, .string e.old.t, .string e.old.c, .string e.old.v, .int .i64 e.old.sc, .string e.new.g, .string e.new.a, .string e.new.t, .string e.new.c, .string e.new.v, .int .i64 e.new.sc]) a :=
  .inl ⟨hw, fun w hw' => by unfold execOp; simp only [ho, hx, Sem.run_bind, ld_ed (hS w hw'), Result.andThen_ok, Sem.run_pure]⟩
theorem yields_load_key {ops : Array Oper} {S : World → Prop} {op : Oper} {a : Act} (hw : Region.wanted op (yielded ops a.tmps) = true) (x : Operand) (ho : op.op = .load 46 x) (p : Addr) (hx : a.eval x = .pointer (some p)) (k : K4) (hS : ∀ w, S w → KeyR w p k) :
    YieldsIf Try.prog ops S op (.agg #[.string k.g, .string k.a, .string k.t, .string k.c]) a :=
  .inl ⟨hw, fun w hw' => by unfold execOp; simp only [ho, hx, Sem.run_bind, ld_key (hS w hw'), Result.andThen_ok, Sem.run_pure]⟩
end Go.Proofs.Ytoibanffaebllaa
