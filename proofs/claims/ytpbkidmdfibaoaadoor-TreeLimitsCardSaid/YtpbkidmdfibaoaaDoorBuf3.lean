/-
  Layer 3: a row of bytes to which is appended: one's own, or a literal's without room. Own work.
-/
import Derived.Test.YtpbkidmdfibaoaaDoorLim3
import Derived.Lib.AppendStr
import Derived.Lib.SlBytesConst
import Derived.Laws.BytesString
namespace Go.Proofs.YtpbkidmdfibaoaaDoor
set_option linter.unusedVariables false
set_option linter.unusedSimpArgs false
open Go.RowKit

theorem u8_info3 : (Tryd.prog.info? 5).map (fun i => (i.zero, i.size, i.bytes)) = some (some (.int .u8 0), 1, 1) := by kernel_rfl
def byC (l : List UInt8) : List Value := l.map fun b => Value.int .u8 (b.toNat : Int)
theorem byC_len (l : List UInt8) : (byC l).length = l.length := List.length_map _
theorem byC_app (a b : List UInt8) : byC (a ++ b) = byC a ++ byC b := List.map_append
theorem byC_str (l : List UInt8) : Lib.strCells (str l) = byC l := by unfold Lib.strCells byC str; simp
/-- the bytes l in v: one's own row, or without room -/
def Buf3 (B : Nat) (v : Value) (l : List UInt8) (W0 w : World) : Prop :=
  Below B W0 w ∧ B ≤ w.heap.size ∧ (w.ownsRow B 5 1 v l.length (byC l) ∨ ∃ g, v = .slice (some ⟨g, 0, none⟩) l.length l.length ∧ B ≤ g ∧ ∀ j u, (byC l)[j]? = some u → w.cell? ((⟨g, 0, none⟩ : Addr).add j) = some u)
theorem Buf3.shape {B : Nat} {v : Value} {l : List UInt8} {W0 w : World} (h : Buf3 B v l W0 w) : ∃ a c, v = .slice a l.length c := by
  rcases h.2.2 with h | ⟨g, rfl, _⟩
  · rcases h.2 with ⟨rfl, h0⟩ | ⟨g, cap, cur, rfl, _⟩
    · rw [h0]; exact ⟨_, _, rfl⟩
    · exact ⟨_, _, rfl⟩
  · exact ⟨_, _, rfl⟩
theorem run_app_text (ty : TypeId) {B : Nat} {v : Value} {l : List UInt8} {W0 w : World} (h : Buf3 B v l W0 w) (s : List UInt8) (hs : 0 < s.length) (hn : l.length + s.length ≤ 1000000) :
    ∃ v' w', (Builtin.append_ #[45, 9] ty #[v, .string (str s)]).run Tryd.prog w = .ok v' w' ∧ Buf3 B v' (l ++ s) W0 w' := by
  obtain ⟨i, hi, hz, hsz, hby⟩ := info_parts u8_info3
  obtain ⟨hb, hB, h⟩ := h
  have hss : (str s).size = s.length := size_str s
  rcases h with h | ⟨g, rfl, hg, hc⟩
  · obtain ⟨v', w', hr, ho, hgr, _⟩ := Lib.run_append_own_string (P := Tryd.prog) w B 45 9 ty 5 i Tryd.underlying45 Tryd.underlying9 hi hz hsz hby v l.length _ h (str s) (by rw [hss]; simp only [maxLen]; omega) (by rw [hss]; omega) hB
    refine ⟨v', w', hr, hb.grown hgr hB (fun k hk => (h.lt k hk).1), Nat.le_trans hB hgr.size, .inl ?_⟩
    rw [List.length_append, byC_app, ← byC_str s, ← hss]
    exact ho
  · have hr := Lib.run_append_grow_string (P := Tryd.prog) w 45 9 ty 5 i (.int .u8 0) Tryd.underlying45 Tryd.underlying9 hi hz ⟨g, 0, none⟩ l.length l.length (byC l) (by rw [byC_len, hsz]; omega) hc (str s) (by rw [hss]; omega) (by rw [hss]; omega) (growslice_fits (by rw [hss]; omega) (by rw [hss, hby]; omega))
    have hge := grownCap_ge w (l.length + (str s).size) l.length 5
    have hcm : grownCap w (l.length + (str s).size) l.length 5 ≤ maxLen := grownCap_le_maxLen w _ _ _ (by rw [hss]; simp only [maxLen]; omega)
    refine ⟨_, _, hr, hb.trans ⟨rfl, rfl, rfl, by simp, fun k hk => Below.heap_alloc w.drew _ k (Nat.lt_of_lt_of_le hk hB)⟩, Nat.le_trans hB (by simp), .inl ⟨?_, .inr ⟨w.heap.size, _, _, by rw [List.length_append, ← hss], hB, heap_alloc_new w.drew _, ?_, hcm, ?_, ?_⟩⟩⟩
    · rw [byC_len]; simp
    · rw [List.length_append, ← hss]; exact hge
    · simp only [Array.size_append, List.size_toArray, size_zeroCells, byC_len, Lib.strCells_length, hss]
      have : (Value.int IntKind.u8 0).cells.size = 1 := rfl
      rw [this]
      rw [hss] at hge
      omega
    · simp only [Array.toList_append, List.append_assoc, byC_str]
      rw [← List.append_assoc, ← byC_app, Nat.mul_one, ← byC_len (l ++ s)]
      exact List.take_left
theorem wp_app_text {ops : Array Oper} {rest : List Oper} {o : Oper} {a : Act} {Q : Exit → Act → World → Prop} {w : World} (hgd : o.guard = none) (sl x : Operand)
    (ho : o.op = .call { callee := .builtin .append, args := #[sl, x], argTypes := #[45, 9] }) {B : Nat} {v : Value} {l : List UInt8} {W0 : World} (s : List UInt8) (hsv : a.eval sl = v) (hx : a.eval x = .string (str s)) (h : Buf3 B v l W0 w) (hs : 0 < s.length) (hn : l.length + s.length ≤ 1000000)
    (hK : ∀ v' w', Buf3 B v' (l ++ s) W0 w' → wpList Tryd.prog ops Q rest (a.put o.dst v') w') : wpList Tryd.prog ops Q (o :: rest) a w :=
  wpList_plain hgd fun _ hK2 => by
    obtain ⟨v', w', hr, hb⟩ := run_app_text o.type h s hs hn
    unfold Oper.wp execOp
    simp only [ho, resolve, invoke, builtin, Sem.run_bind, Sem.run_pure, Result.andThen_ok, List.map_toArray, List.map_cons, List.map_nil, hsv, hx, hr]
    exact hK2 _ _ (hK v' w' hb)
theorem run_app_one (ty : TypeId) {B : Nat} {v : Value} {l : List UInt8} {W0 w : World} (h : Buf3 B v l W0 w) (c : UInt8) (hn : l.length + 1 ≤ 1000000) :
    ∃ v' w', (Builtin.append_ #[45, 45] ty #[v, .slice (some ⟨w.heap.size, 0, none⟩) 1 1]).run Tryd.prog (w.alloc (.cells #[.int .u8 (c.toNat : Int)] 5)) = .ok v' w' ∧ Buf3 B v' (l ++ [c]) W0 w' := by
  obtain ⟨i, hi, hz, hsz, hby⟩ := info_parts u8_info3
  obtain ⟨hb, hB, h⟩ := h
  have hb1 : Below B W0 (w.alloc (.cells #[.int .u8 (c.toNat : Int)] 5)) := hb.alloc hB _
  have hB1 : B ≤ (w.alloc (.cells #[.int .u8 (c.toNat : Int)] 5)).heap.size := by simp; omega
  have hnews : ∀ (j : Nat) x, (byC [c])[j]? = some x → (w.alloc (.cells #[.int .u8 (c.toNat : Int)] 5)).cell? ((⟨w.heap.size, 0, none⟩ : Addr).add j) = some x := fun j x hx => by
    match j with
    | 0 =>
      simp only [byC, List.map_cons, List.map_nil, List.getElem?_cons_zero, Option.some.injEq] at hx
      subst hx
      show (w.alloc _).cell? ⟨w.heap.size, 0, none⟩ = _
      rw [cell_of_row _ w.heap.size 0 _ _ (0, 0) (heap_alloc_new w _)]; rfl
    | j + 1 => simp [byC] at hx
  rcases h with h | ⟨g, rfl, hg, hc⟩
  · obtain ⟨v', w', hr, ho, hgr, _, _⟩ := run_append_own_at (P := Tryd.prog) (w.alloc (.cells #[.int .u8 (c.toNat : Int)] 5)) B 45 ty 5 i _ 1 1 Tryd.underlying45 hi hz hsz hby rfl (by omega) v l.length (byC l) (h.alloc _) ⟨w.heap.size, 0, none⟩ 1 1 (byC [c]) rfl hnews (by simp [byC]; rfl) (by simp only [maxLen]; omega) (by omega) hB1
    refine ⟨v', w', hr, hb1.grown hgr hB1 (fun k hk => (h.lt k hk).1), Nat.le_trans hB1 hgr.size, .inl ?_⟩
    rw [List.length_append, byC_app]
    exact ho
  · have hc1 : ∀ j u, (byC l)[j]? = some u → (w.alloc (.cells #[.int .u8 (c.toNat : Int)] 5)).cell? ((⟨g, 0, none⟩ : Addr).add j) = some u := fun j u hj => by
      have h1 := hc j u hj
      exact (((Below.refl w.heap.size w).alloc (Nat.le_refl _) _).cell (World.block_lt_of_cell? w _ h1)).trans h1
    obtain ⟨v', w', hr, ho, hgr⟩ := run_append_arg_grows (P := Tryd.prog) (w.alloc (.cells #[.int .u8 (c.toNat : Int)] 5)) 45 ty _ i _ 1 1 Tryd.underlying45 hi hz hsz hby rfl (by omega) ⟨g, 0, none⟩ l.length l.length (byC l) (by rw [byC_len]; omega) hc1 ⟨w.heap.size, 0, none⟩ 1 1 (byC [c]) rfl hnews (by omega) (by simp only [maxLen]; omega) (by omega)
    refine ⟨v', w', hr, hb1.trans ⟨hgr.os, hgr.tape, hgr.output, hgr.size, fun k hk => hgr.block k (Nat.lt_of_lt_of_le hk hB1) (by simp)⟩, Nat.le_trans hB1 hgr.size, .inl ?_⟩
    rw [List.length_append, byC_app]
    exact own_low ho hB1
theorem wp_app_one {ops : Array Oper} {rest : List Oper} {o : Oper} {a : Act} {Q : Exit → Act → World → Prop} {w : World} (hgd : o.guard = none) (sl x : Operand)
    (ho : o.op = .call { callee := .builtin .append, args := #[sl, x], argTypes := #[45, 45] }) {B : Nat} {v : Value} {l : List UInt8} {W0 : World} (c : UInt8) (hsv : a.eval sl = v) (hx : a.eval x = .slice (some ⟨w.heap.size, 0, none⟩) 1 1) (h : Buf3 B v l W0 w) (hn : l.length + 1 ≤ 1000000)
    (hK : ∀ v' w', Buf3 B v' (l ++ [c]) W0 w' → wpList Tryd.prog ops Q rest (a.put o.dst v') w') : wpList Tryd.prog ops Q (o :: rest) a (w.alloc (.cells #[.int .u8 (c.toNat : Int)] 5)) :=
  wpList_plain hgd fun _ hK2 => by
    obtain ⟨v', w', hr, hb⟩ := run_app_one o.type h c hn
    unfold Oper.wp execOp
    simp only [ho, resolve, invoke, builtin, Sem.run_bind, Sem.run_pure, Result.andThen_ok, List.map_toArray, List.map_cons, List.map_nil, hsv, hx, hr]
    exact hK2 _ _ (hK v' w' hb)
/-- as a string -/
theorem run_buf_str {B : Nat} {v : Value} {l : List UInt8} {W0 w : World} (h : Buf3 B v l W0 w) (hl : l ≠ []) : (convert 45 9 v).run Tryd.prog w = .ok (.string (str l)) w := by
  have key : ∀ (g cap : Nat), v = .slice (some ⟨g, 0, none⟩) l.length cap → (∀ j u, (byC l)[j]? = some u → w.cell? ((⟨g, 0, none⟩ : Addr).add j) = some u) → (convert 45 9 v).run Tryd.prog w = .ok (.string (str l)) w := fun g cap hv hc => by
    rw [hv]
    exact run_convert_bytes_back (P := Tryd.prog) w 45 9 5 ⟨g, 0, none⟩ cap l Tryd.underlying45 Tryd.underlying5 Tryd.underlying9 (fun j hj => hc j _ (by unfold byC; rw [List.getElem?_map, List.getElem?_eq_getElem hj]; rfl))
  rcases h.2.2 with h | ⟨g, hv, _, hc⟩
  · rcases h.2 with ⟨_, h0⟩ | ⟨g, cap, cur, hv, _⟩
    · exact absurd (List.eq_nil_of_length_eq_zero h0) hl
    · exact key g cap hv (fun j u hu => h.cells (g := g) (by rw [hv]; rfl) j u hu)
  · exact key g _ hv hc
end Go.Proofs.YtpbkidmdfibaoaaDoor
