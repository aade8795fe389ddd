/-
  Layer 25: rows of keys in memory: read, cut, put together. Own work.
-/
import Derived.Test.YtoibanffaebllaaMem25
import Derived.Deep.AppendSrc
import Derived.Deep.Upon
namespace Go.Proofs.Ytoibanffaebllaa
set_option linter.unusedVariables false
set_option linter.unusedSimpArgs false
open Go.RowKit

def rowK (l : List K4) : List Value := l.flatMap keyCells
theorem rowK_app (l m : List K4) : rowK (l ++ m) = rowK l ++ rowK m := by simp [rowK]
theorem rowK_len : ∀ l : List K4, (rowK l).length = l.length * 4
  | [] => rfl
  | e :: l => by
    have := rowK_len l
    simp only [rowK, List.flatMap_cons, List.length_append, List.length_cons, keyCells, List.length_nil] at this ⊢
    omega
theorem rowK_at : ∀ (l : List K4) (i c : Nat) (p : K4), l[i]? = some p → c < 4 → (rowK l)[i * 4 + c]? = (keyCells p)[c]?
  | [], i, c, p, h, _ => by simp at h
  | q :: l, 0, c, p, h, hc => by
    simp only [List.getElem?_cons_zero, Option.some.injEq] at h
    subst h
    simp only [rowK, List.flatMap_cons]
    rw [List.getElem?_append_left (by simp [keyCells]; omega)]
    simp
  | q :: l, i + 1, c, p, h, hc => by
    have := rowK_at l i c p (by simpa using h) hc
    simp only [rowK, List.flatMap_cons] at this ⊢
    rw [List.getElem?_append_right (by simp [keyCells]; omega), ← this]
    congr 1
    simp [keyCells]; omega
theorem rowK_take (l : List K4) (k : Nat) : rowK (l.take k) = (rowK l).take (k * 4) := by
  induction l generalizing k with
  | nil => simp [rowK]
  | cons x l ih =>
    cases k with
    | zero => simp [rowK]
    | succ k =>
      have := ih k
      simp only [rowK, List.take_succ_cons, List.flatMap_cons] at this ⊢
      rw [this, List.take_append, List.take_of_length_le (l := keyCells x) (by simp [keyCells]; omega)]
      congr 2
      simp [keyCells]; omega
theorem rowK_drop (l : List K4) (k : Nat) : rowK (l.drop k) = (rowK l).drop (k * 4) := by
  induction l generalizing k with
  | nil => simp [rowK]
  | cons x l ih =>
    cases k with
    | zero => simp [rowK]
    | succ k =>
      have := ih k
      simp only [rowK, List.drop_succ_cons, List.flatMap_cons] at this ⊢
      rw [this, List.drop_append, List.drop_of_length_le (l := keyCells x) (by simp [keyCells]; omega), List.nil_append]
      congr 1
      simp [keyCells]; omega
theorem rowK_one (l : List K4) : ∀ u ∈ rowK l, u.oneCell' = true := fun u hu => by
  obtain ⟨k, _, hk⟩ := List.mem_flatMap.1 hu
  simp only [keyCells, List.mem_cons, List.not_mem_nil, or_false] at hk
  rcases hk with rfl | rfl | rfl | rfl <;> rfl
/-- the slice v reads in w as these keys -/
def RdK (w : World) (v : Value) (l : List K4) : Prop :=
  (v = .slice none 0 0 ∧ l = []) ∨ ∃ a cap, v = .slice (some a) l.length cap ∧ l.length ≤ cap ∧ cap ≤ 9223372036854775807 ∧ ∀ j u, (rowK l)[j]? = some u → w.cell? (a.add j) = some u
/-- no room behind it -/
def FullK (v : Value) (n : Nat) : Prop := (v = .slice none 0 0 ∧ n = 0) ∨ ∃ a, v = .slice (some a) n n
theorem RdK.below {w w' : World} {v : Value} {l : List K4} {B : Nat} (h : RdK w v l) (hb : Below B w w') (hB : w.heap.size ≤ B) : RdK w' v l := by
  rcases h with h | ⟨a, cap, h1, h2, h3, h5⟩
  · exact .inl h
  · exact .inr ⟨a, cap, h1, h2, h3, fun j u hu => (hb.cell (Nat.lt_of_lt_of_le (World.block_lt_of_cell? w _ (h5 j u hu)) hB)).trans (h5 j u hu)⟩
theorem RdK.shape {w : World} {v : Value} {l : List K4} (h : RdK w v l) : ∃ a c, v = .slice a l.length c := by
  rcases h with ⟨rfl, rfl⟩ | ⟨a, cap, rfl, _⟩
  · exact ⟨_, _, rfl⟩
  · exact ⟨_, _, rfl⟩
theorem RdK.elem {w : World} {a : Option Addr} {n c : Nat} {l : List K4} {i : Nat} {p : K4} (h : RdK w (.slice a n c) l) (hp : l[i]? = some p) :
    ∃ b, a = some b ∧ KeyR w (b.add (i * 4)) p := by
  rcases h with ⟨_, rfl⟩ | ⟨b, cap, h, h1, h2, h3⟩
  · simp at hp
  · cases h
    refine ⟨b, rfl, fun c u hu => ?_⟩
    rw [Go.Deep.add_add]
    exact h3 _ _ ((rowK_at l i c p hp (by have := (List.getElem?_eq_some_iff.1 hu).1; simpa [keyCells] using this)).trans hu)
theorem RdK.of_own {w : World} {v : Value} {l : List K4} {base e : Nat} (h : w.ownsRow base e 4 v l.length (rowK l)) : RdK w v l := by
  have h0 := h
  obtain ⟨_, hc⟩ := h
  rcases hc with ⟨rfl, hn⟩ | ⟨g, cap, cur, rfl, _, hg, hn, hcm, _, _⟩
  · exact .inl ⟨rfl, List.eq_nil_of_length_eq_zero hn⟩
  · exact .inr ⟨⟨g, 0, none⟩, cap, rfl, hn, by unfold maxLen at hcm; exact hcm, fun j u hu => h0.cells (g := g) rfl _ u hu⟩
theorem key_info : (Try.prog.info? 46).map (fun i => (i.zero, i.size, i.bytes)) = some (some (.agg #[.string .empty, .string .empty, .string .empty, .string .empty]), 4, 64) := by kernel_rfl
/-- a row without room, and a row behind it -/
theorem run_app_full (w : World) (ty : TypeId) (v1 v2 : Value) (l m : List K4) (h1 : RdK w v1 l) (hf : FullK v1 l.length) (h2 : RdK w v2 m) (hn : l.length + m.length ≤ 1000000) :
    ∃ v' w', (Builtin.append_ #[58, 58] ty #[v1, v2]).run Try.prog w = .ok v' w' ∧ RdK w' v' (l ++ m) ∧ Below w.heap.size w w' := by
  obtain ⟨i, hi, hz, hs, hb⟩ := info_parts key_info
  have ht := Try.underlying58
  by_cases hm : m = []
  · subst hm
    rw [List.append_nil]
    have hsrc : Src Try.prog i.size 58 v2 0 [] w := by
      rcases h2 with ⟨rfl, _⟩ | ⟨a, cap, rfl, _⟩
      · exact Src.ofNil w ht 0
      · exact Src.ofSlice w ht a 0 cap [] (by simp) (by simp) (by simp)
    rcases hf with ⟨rfl, hl⟩ | ⟨a, rfl⟩
    · exact ⟨_, w, run_append_nothing w _ _ ty _ i ht hi none 0 0 (Nat.le_refl _) v2 hsrc, h1, Below.refl _ _⟩
    · exact ⟨_, w, run_append_nothing w _ _ ty _ i ht hi (some a) _ _ (Nat.le_refl _) v2 hsrc, h1, Below.refl _ _⟩
  · have hmp : 0 < m.length := List.length_pos_iff.2 hm
    rcases h2 with ⟨_, h⟩ | ⟨a2, c2, rfl, _, _, hc2⟩
    · exact absurd h hm
    rcases hf with ⟨rfl, hl⟩ | ⟨a1, rfl⟩
    · have hl0 : l = [] := List.eq_nil_of_length_eq_zero hl
      subst hl0
      have hr := run_append_nil w 58 ty _ i _ ht hi hz a2 m.length c2 (rowK m) (by rw [rowK_len, hs]) hc2 hmp (by omega) (by rw [hb]; omega)
      have hge := grownCap_ge w m.length 0 46
      have hcm : grownCap w m.length 0 46 ≤ maxLen := grownCap_le_maxLen w m.length 0 _ (by simp only [maxLen]; omega)
      refine ⟨_, _, hr, .inr ⟨⟨w.heap.size, 0, none⟩, _, rfl, by simpa using hge, by unfold maxLen at hcm; exact hcm, fun j u hu => ?_⟩, (Below.refl w.heap.size w).drew.alloc (Nat.le_refl _) _⟩
      rw [add_off, cell_of_row _ w.heap.size j _ _ (0, 0) (heap_alloc_new w.drew _)]
      have hj := (List.getElem?_eq_some_iff.1 hu).1
      simp only [List.nil_append] at hu hj
      rw [Array.getElem?_append_left (by simpa using hj)]
      simpa using hu
    · have hc1 : ∀ j u, (rowK l)[j]? = some u → w.cell? (a1.add j) = some u := by
        rcases h1 with ⟨h, _⟩ | ⟨a, cap, h, _, _, hc⟩
        · cases h
        · cases h; exact hc
      obtain ⟨v', w', hr, hown, hg⟩ := run_append_arg_grows w 58 ty _ i _ 4 64 ht hi hz hs hb rfl (by omega) a1 l.length l.length (rowK l) (rowK_len l) hc1 a2 m.length c2 (rowK m) (rowK_len m) hc2 (by omega) (by simp only [maxLen]; omega) (by omega)
      refine ⟨v', w', hr, RdK.of_own (e := _) (base := w.heap.size) (by rw [List.length_append, rowK_app]; exact hown), ⟨hg.os, hg.tape, hg.output, hg.size, fun k hk => hg.block k hk (by simp)⟩⟩
theorem wpList_app_full {ops : Array Oper} {rest : List Oper} {o : Oper} {a : Act} {w : World} {Q : Exit → Act → World → Prop} (hgd : o.guard = none) (s x : Operand)
    (ho : o.op = .call { callee := .builtin .append, args := #[s, x], argTypes := #[58, 58] }) (v1 v2 : Value) (hs : a.eval s = v1) (hx : a.eval x = v2) (l m : List K4) (h1 : RdK w v1 l) (hf : FullK v1 l.length) (h2 : RdK w v2 m) (hn : l.length + m.length ≤ 1000000)
    (h : ∀ v' w', RdK w' v' (l ++ m) → Below w.heap.size w w' → wpList Try.prog ops Q rest (a.put o.dst v') w') : wpList Try.prog ops Q (o :: rest) a w :=
  wpList_plain hgd fun _ hK => by
    obtain ⟨v', w', hr, hrd, hb⟩ := run_app_full w o.type v1 v2 l m h1 hf h2 hn
    unfold Oper.wp execOp
    simp only [ho, resolve, invoke, builtin, Sem.run_bind, Sem.run_pure, Result.andThen_ok, List.map_toArray, List.map_cons, List.map_nil, hs, hx, hr]
    exact hK _ _ (h v' w' hrd hb)
theorem wpList_slice_to {ops : Array Oper} {rest : List Oper} {o : Oper} {a : Act} {w : World} {Q : Exit → Act → World → Prop} (hgd : o.guard = none) (x y z : Operand)
    (ho : o.op = .slice 58 x none (some y) (some z)) (v : Value) (k : Nat) (hx : a.eval x = v) (hy : a.eval y = .int .i64 k) (hz : a.eval z = .int .i64 k) (l : List K4) (hr : RdK w v l) (hk : k ≤ l.length)
    (h : ∀ v', RdK w v' (l.take k) → FullK v' (l.take k).length → wpList Try.prog ops Q rest (a.put o.dst v') w) : wpList Try.prog ops Q (o :: rest) a w :=
  wpList_plain hgd fun _ hK => by
    have ht := Try.underlying58
    have he : Try.prog.elem 58 = 46 := by kernel_rfl
    have hsz := Try.sizeOf46 (w := w)
    have hl : (l.take k).length = k := by rw [List.length_take]; omega
    unfold Oper.wp execOp
    simp only [ho, Option.map_some, Option.map_none, hx, hy, hz, Sem.run_bind]
    rcases hr with ⟨rfl, rfl⟩ | ⟨b, cap, rfl, h1, h2, h3⟩
    · have hk0 : k = 0 := by simpa using hk
      subst hk0
      rw [run_sliceAt_slice _ _ _ _ _ _ (by rw [he]; exact ht), run_slice_hm _ _ _ _ _ (by rw [he]; exact ht) _ _ _ _ (by omega) (by omega) (by omega), he, hsz]
      simp only [Result.andThen_ok, Sem.run_pure]
      exact hK _ _ (h _ (.inl ⟨rfl, rfl⟩) (.inl ⟨rfl, rfl⟩))
    · rw [run_sliceAt_slice _ _ _ _ _ _ (by rw [he]; exact ht), run_slice_hm _ _ _ _ _ (by rw [he]; exact ht) _ _ _ _ (by omega) (by omega) (by omega), he, hsz]
      simp only [Result.andThen_ok, Sem.run_pure]
      refine hK _ _ (h _ (.inr ⟨if k = 0 then b else b.add 0, k, ?_, by omega, by omega, fun j u hu => ?_⟩) (.inr ⟨if k = 0 then b else b.add 0, ?_⟩))
      · rw [hl]; simp only [sliced, Int.toNat_natCast, Nat.sub_zero, Nat.zero_mul]; split <;> rfl
      · rw [rowK_take] at hu
        have hu' : (rowK l)[j]? = some u := by
          rw [List.getElem?_take] at hu
          split at hu
          · exact hu
          · cases hu
        have := h3 j u hu'
        split
        · exact this
        · rw [Go.Deep.add_add, Nat.zero_add]; exact this
      · rw [hl]; simp only [sliced, Int.toNat_natCast, Nat.sub_zero, Nat.zero_mul]; split <;> rfl
theorem wpList_slice_from {ops : Array Oper} {rest : List Oper} {o : Oper} {a : Act} {w : World} {Q : Exit → Act → World → Prop} (hgd : o.guard = none) (x y : Operand)
    (ho : o.op = .slice 58 x (some y) none none) (v : Value) (k : Nat) (hx : a.eval x = v) (hy : a.eval y = .int .i64 k) (l : List K4) (hr : RdK w v l) (hk : k ≤ l.length)
    (h : ∀ v', RdK w v' (l.drop k) → wpList Try.prog ops Q rest (a.put o.dst v') w) : wpList Try.prog ops Q (o :: rest) a w :=
  wpList_plain hgd fun _ hK => by
    have ht := Try.underlying58
    have he : Try.prog.elem 58 = 46 := by kernel_rfl
    have hsz := Try.sizeOf46 (w := w)
    have hl : (l.drop k).length = l.length - k := by rw [List.length_drop]
    unfold Oper.wp execOp
    simp only [ho, Option.map_some, Option.map_none, hx, hy, Sem.run_bind]
    rcases hr with ⟨rfl, rfl⟩ | ⟨b, cap, rfl, h1, h2, h3⟩
    · have hk0 : k = 0 := by simpa using hk
      subst hk0
      rw [run_sliceAt_slice _ _ _ _ _ _ (by rw [he]; exact ht), run_slice_l _ _ _ _ _ (by rw [he]; exact ht) _ _ (by omega) (by omega), he, hsz]
      simp only [Result.andThen_ok, Sem.run_pure]
      exact hK _ _ (h _ (.inl ⟨rfl, rfl⟩))
    · rw [run_sliceAt_slice _ _ _ _ _ _ (by rw [he]; exact ht), run_slice_l _ _ _ _ _ (by rw [he]; exact ht) _ _ (by omega) (by omega), he, hsz]
      simp only [Result.andThen_ok, Sem.run_pure]
      refine hK _ _ (h _ (.inr ⟨if cap = k then b else b.add (k * 4), cap - k, ?_, by omega, by omega, fun j u hu => ?_⟩))
      · rw [hl]; simp only [sliced, Int.toNat_natCast]; split <;> rfl
      · rw [rowK_drop, List.getElem?_drop] at hu
        have := h3 _ u hu
        split
        · have hj := (List.getElem?_eq_some_iff.1 hu).1
          rw [rowK_len] at hj
          omega
        · rw [Go.Deep.add_add]; exact this
end Go.Proofs.Ytoibanffaebllaa
