/-
  Layer 16: an array of two rows of rows, rows behind rows: for ProofMore. Own work.
-/
import Derived.Test.YtmiiclhhenepiaaSd16
namespace Go.Proofs.Ytmiiclhhenepiaa
set_option linter.unusedVariables false
set_option linter.unusedSimpArgs false
open Go.ChangeShapes Go.WideShapes Go.ChangeAt Go.RowKit

section
variable {H : Type} {enc : TypeId × Value → H} {W : World} {b0 base : Nat} {v : Value} {d : DataW H} {p : List MemPlace}
set_option maxRecDepth 100000 in
theorem open_two (hv : Value.okWide Try.prog W .any b0 37 v) (h : DataW.Trod enc Try.prog W base (fun _ => true) true 37 v d p) :
    ∃ u1 u2 l1 l2, v = .agg #[u1, u2] ∧ Reads2 W u1 l1 ∧ Fit64 l1 ∧ Reads2 W u2 l2 ∧ Fit64 l2 := by
  have hu := Try.underlying37
  simp only [Value.okWide, hu] at hv
  obtain ⟨cs, rfl, hsz, _⟩ := hv
  have h2 : cs.size = 2 := hsz.trans (by kernel_rfl)
  obtain ⟨l⟩ := cs
  match l, h2 with
  | [a0, a1], _ =>
    obtain ⟨fuel, hf⟩ := h
    obtain ⟨xs, m, _, _, _, hlen, hg⟩ := DataW.trod_array hu hf
    have hk : Try.prog.cellsOf 22 = 1 := by kernel_rfl
    match xs, hlen with
    | [y0, y1], _ =>
      have g0 := hg 0 (by omega)
      have g1 := hg 1 (by omega)
      simp [hk, Value.cells] at g0 g1
      obtain ⟨l1, r1, f1⟩ := rows_in g0
      obtain ⟨l2, r2, f2⟩ := rows_in g1
      exact ⟨a0, a1, l1, l2, rfl, r1, f1, r2, f2⟩
end
/-- rows behind rows of one's own -/
theorem appMore16 {ops : Array Oper} {rest : List Oper} {o : Oper} {a : Act} {Q : Exit → Act → World → Prop} {w0 w : World} (hgd : o.guard = none) (s x : Operand)
    (ho : o.op = .call { callee := .builtin .append, args := #[s, x], argTypes := #[22, 22] }) {A cs : List (List Int)} {v : Value} {rows0 : List Value} {ca : Option Addr} {cp : Nat} (hall : AllR w0 v A w rows0) (hs : a.eval s = v) (hx : a.eval x = .slice ca cs.length cp)
    (hc : Reads2 w0 (.slice ca cs.length cp) cs) (hn : A.length + cs.length ≤ 1000000)
    (hK : ∀ v' w' rows, AllR w0 v' (A ++ cs) w' rows → wpList Try.prog ops Q rest (a.put o.dst v') w') :
    wpList Try.prog ops Q (o :: rest) a w := by
  obtain ⟨_, rows, hrl, h1c, hcells, hel⟩ := rows_of16 hc
  have hr0 : rows0.length = A.length := by have := hall.own.1; omega
  have hel2 : ∀ (j : Nat) d, (A ++ cs)[j]? = some d → ∃ r, (rows0 ++ rows)[j]? = some r ∧ Reads w0 iV r d := fun j d hj => by
    by_cases hl : j < A.length
    · rw [List.getElem?_append_left hl] at hj
      rw [List.getElem?_append_left (by omega)]
      exact hall.el j d hj
    · rw [List.getElem?_append_right (by omega)] at hj
      rw [List.getElem?_append_right (by omega), hr0]
      exact hel _ d hj
  obtain ⟨i, hi, hz, hsize, hby⟩ := info_parts row16_info
  cases ca with
  | none =>
    have hcs : cs = [] := by
      cases cs with
      | nil => rfl
      | cons d cs =>
        have hl : rows.length = cs.length + 1 := by simpa using hrl
        obtain ⟨b, e, _⟩ := hcells 0 rows[0] (List.getElem?_eq_getElem (by omega))
        cases e
    subst hcs
    obtain ⟨va, vc, rfl⟩ := hall.shape
    refine wpList_plain hgd fun K' hK' => ?_
    have hr : (Builtin.append_ #[22, 22] o.type #[.slice va A.length vc, .slice none 0 cp]).run Try.prog w = .ok (.slice va A.length vc) w := by
      rcases hall.own.2 with ⟨e, e0⟩ | ⟨g, c, cur, e, _, _, h1, h2, _⟩
      · injection e with e1 e2 e3
        subst e1 e3
        rw [e2]
        simp [Builtin.append_, run_underlying Try.underlying22, sizeOf, typeInfo, hi, Builtin.lenOf, Builtin.firstCells, storeCells]
      · cases e
        simp [Builtin.append_, run_underlying Try.underlying22, sizeOf, typeInfo, hi, Builtin.lenOf, Builtin.firstCells, h1, storeCells]
    have hx' : a.eval x = .slice none 0 cp := hx
    unfold Oper.wp execOp
    simp only [ho, resolve, invoke, builtin, Sem.run_bind, Sem.run_pure, Result.andThen_ok, List.map_toArray, List.map_cons, List.map_nil, hs, hx', hr]
    exact hK' _ _ (hK _ _ rows0 (by rw [List.append_nil]; exact hall))
  | some b =>
    refine wpList_append_own_at _ hgd s x 22 ho w0.heap.size 31 i _ 1 24 Try.underlying22 hi hz hsize hby rfl (by omega) _ A.length rows0 hs hall.own b cs.length cp rows hx (by rw [hrl, Nat.mul_one]) (fun j u hj => ?_) h1c (by unfold maxLen; omega) (by omega) hall.b.size ?_
    · obtain ⟨b', e, h2⟩ := hcells j u hj
      cases e
      exact (World.cell?_of_block (hall.b.block _ (World.block_lt_of_cell? w0 _ h2))).trans h2
    · intro v' w' h2 h3 _ _
      refine hK v' w' (rows0 ++ rows) ⟨by rw [List.length_append]; exact h2, hel2, ?_⟩
      exact ⟨h3.os.trans hall.b.os, h3.tape.trans hall.b.tape, h3.output.trans hall.b.output, Nat.le_trans hall.b.size h3.size, fun k hk => (h3.block k (Nat.lt_of_lt_of_le hk hall.b.size) (fun e => by have := (hall.own.lt k e.symm).1; omega)).trans (hall.b.block k hk)⟩
/-- numbers behind an empty row of one's own -/
theorem appInts16 {ops : Array Oper} {rest : List Oper} {o : Oper} {a : Act} {Q : Exit → Act → World → Prop} {w0 w : World} (hgd : o.guard = none) (s x : Operand)
    (ho : o.op = .call { callee := .builtin .append, args := #[s, x], argTypes := #[31, 31] }) {c : List Int} {ca : Option Addr} {cp : Nat} (hs : a.eval s = .slice (some ⟨w.heap.size, 0, none⟩) 0 0) (hx : a.eval x = .slice ca c.length cp)
    (hb : Below w0.heap.size w0 w) (hc : Reads w0 iV (.slice ca c.length cp) c) (hn : c.length ≤ 1000000)
    (hK : ∀ v' w', Yr w0 v' c w' → wpList Try.prog ops Q rest (a.put o.dst v') w') :
    wpList Try.prog ops Q (o :: rest) a (w.alloc (.cells #[] 3)) := by
  have hown := World.ownsRow_lit (base := w0.heap.size) (e := 3) (size := 1) w #[] 0 hb.size (by decide) (by simp)
  have hb2 : Below w0.heap.size w0 (w.alloc (.cells #[] 3)) := hb.alloc hb.size _
  obtain ⟨i, hi, hz, hsize, hby⟩ := info_parts int16_info
  rcases hc with ⟨e, rfl⟩ | ⟨b, cap, e, h1, h2, h3⟩
  · cases e
    refine wpList_plain hgd fun K' hK' => ?_
    have hr : (Builtin.append_ #[31, 31] o.type #[.slice (some ⟨w.heap.size, 0, none⟩) 0 0, .slice none 0 0]).run Try.prog (w.alloc (.cells #[] 3)) = .ok (.slice (some ⟨w.heap.size, 0, none⟩) 0 0) (w.alloc (.cells #[] 3)) := by
      simp [Builtin.append_, run_underlying Try.underlying31, sizeOf, typeInfo, hi, Builtin.lenOf, Builtin.firstCells, storeCells]
    have hx' : a.eval x = .slice none 0 0 := hx
    unfold Oper.wp execOp
    simp only [ho, resolve, invoke, builtin, Sem.run_bind, Sem.run_pure, Result.andThen_ok, List.map_toArray, List.map_cons, List.map_nil, hs, hx', hr]
    exact hK' _ _ (hK _ _ ⟨hown, hb2⟩)
  · cases e
    refine wpList_append_own_at _ hgd s x 31 ho w0.heap.size 3 i _ 1 8 Try.underlying31 hi hz hsize hby rfl (by omega) _ 0 [] hs hown b c.length cp (c.map iV) hx (by simp) (fun j u hj => ?_) (fun u hu => ?_) (by unfold maxLen; omega) (by omega) hb2.size ?_
    · rw [List.getElem?_map] at hj
      cases hq : c[j]? with
      | none => rw [hq] at hj; simp at hj
      | some n =>
        rw [hq] at hj
        simp only [Option.map_some, Option.some.injEq] at hj
        rw [← hj]
        have := h3 j n hq
        exact (World.cell?_of_block (hb2.block _ (World.block_lt_of_cell? w0 _ this))).trans this
    · obtain ⟨n, _, rfl⟩ := List.mem_map.1 hu
      rfl
    · intro v' w' k2 k3 _ _
      refine hK v' w' ⟨by have := k2; rw [Nat.zero_add, List.nil_append] at this; exact this, ?_⟩
      exact ⟨k3.os.trans hb2.os, k3.tape.trans hb2.tape, k3.output.trans hb2.output, Nat.le_trans hb2.size k3.size, fun k hk => (k3.block k (Nat.lt_of_lt_of_le hk hb2.size) (fun e => by have := hb.size; have := Option.some.inj e; simp at this; omega)).trans (hb2.block k hk)⟩
/-- one number more, at an operation that is guarded -/
theorem appZg {ops : Array Oper} {rest : List Oper} {o : Oper} {a : Act} {Q : Exit → Act → World → Prop} (hw : Region.wanted o (yielded ops a.tmps) = true) (s x : Operand)
    (ho : o.op = .call { callee := .builtin .append, args := #[s, x], argTypes := #[31, 31] }) (w2 : World) (u : Int) {base n : Nat} {v : Value} {xs : List Value} (hsv : a.eval s = v) (hx : a.eval x = .slice (some ⟨w2.heap.size, 0, none⟩) 1 1)
    (hown : w2.ownsRow base 3 1 v n xs) (hn : n ≤ 1000000) (hbase : base ≤ w2.heap.size)
    (hK : ∀ g cap w', w'.ownsRow base 3 1 (.slice (some ⟨g, 0, none⟩) (n + 1) cap) (n + 1) (xs ++ [iV u]) → w2.grownBy w' v.ownBlock → wpList Try.prog ops Q rest (a.put o.dst (.slice (some ⟨g, 0, none⟩) (n + 1) cap)) w') :
    wpList Try.prog ops Q (o :: rest) a (w2.alloc (.cells #[.int .i64 u] 3)) := by
  obtain ⟨i, hi, hz, hsize, hby⟩ := info_parts int16_info
  unfold wpList
  rw [if_pos hw]
  refine .inl ?_
  refine wp_append_lies _ s x 31 ho base 3 i _ 1 8 Try.underlying31 hi hz hsize hby rfl (by omega) v n xs hsv (hown.alloc _) ⟨w2.heap.size, 0, none⟩ 1 1 [iV u] hx rfl (cell_one_new w2 _ _) (by simp [Value.oneCell', iV]) (by omega) (by simp only [maxLen]; omega) (by omega) (by simp; omega) _ rfl ?_
  intro g cap w' h2 h3 h4 h5
  exact hK g cap w' h2 ⟨h3.os, h3.tape, h3.output, Nat.le_trans (by simp) h3.size, fun k hk hne => (h3.block k (by simp; omega) hne).trans (Below.heap_alloc _ _ _ hk)⟩
theorem two_rows16 (w : World) (r : Value) (c : List Int) (n : Int) (h : Reads w iV r c) : Reads2 ((w.alloc (.cells #[.int .i64 n] 3)).alloc (.cells #[r, .slice (some ⟨w.heap.size, 0, none⟩) 1 1] 31)) (.slice (some ⟨w.heap.size + 1, 0, none⟩) 2 2) [c, [n]] := by
  have hb : Below w.heap.size w ((w.alloc (.cells #[.int .i64 n] 3)).alloc (.cells #[r, .slice (some ⟨w.heap.size, 0, none⟩) 1 1] 31)) := ((Below.refl _ _).alloc (Nat.le_refl _) _).alloc (by simp) _
  have g0 : ((w.alloc (.cells #[.int .i64 n] 3)).alloc (.cells #[r, .slice (some ⟨w.heap.size, 0, none⟩) 1 1] 31)).heap[w.heap.size]? = some (.cells #[.int .i64 n] 3 (0, 0)) := allocs_get [.cells #[.int .i64 n] 3, .cells #[r, .slice (some ⟨w.heap.size, 0, none⟩) 1 1] 31] w 0 _ rfl
  have g1 : ((w.alloc (.cells #[.int .i64 n] 3)).alloc (.cells #[r, .slice (some ⟨w.heap.size, 0, none⟩) 1 1] 31)).heap[w.heap.size + 1]? = some (.cells #[r, .slice (some ⟨w.heap.size, 0, none⟩) 1 1] 31 (0, 0)) := allocs_get [.cells #[.int .i64 n] 3, .cells #[r, .slice (some ⟨w.heap.size, 0, none⟩) 1 1] 31] w 1 _ rfl
  refine lit_reads2 (cs := [c, [n]]) (rows := [_, _]) g1 (by simp) (fun j d hj => ?_)
  match j, hj with
  | 0, hj => cases hj; exact ⟨_, rfl, h.below hb (Nat.le_refl _)⟩
  | 1, hj => cases hj; exact ⟨_, rfl, lit_reads (c := [n]) g0 rfl (by simp)⟩
/-- one's own row, later -/
theorem Yr.later {w0 w w' : World} {v : Value} {yes : List Int} (h : Yr w0 v yes w) (hb : Below w.heap.size w w') : Yr w0 v yes w' :=
  ⟨h.own.kept (row := none) ⟨hb.os, hb.tape, hb.output, hb.size, fun k hk _ => hb.block k hk⟩ (by cases e : v.ownBlock with | none => exact .inl rfl | some b => exact .inr (by simp)), then16 h.b hb⟩
end Go.Proofs.Ytmiiclhhenepiaa
