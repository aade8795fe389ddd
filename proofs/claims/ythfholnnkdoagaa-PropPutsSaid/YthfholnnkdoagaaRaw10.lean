/-
  Layer 10: slices read raw (the values of their cells); a copy of one, `append([]T{}, l...)`. Own work.
-/
import Derived.Test.YthfholnnkdoagaaMem10
import Derived.Deep.AppendSrc
import Derived.Deep.Upon
import Derived.ArgAppend
namespace Go.Proofs.Ythfholnnkdoagaa
set_option linter.unusedVariables false
set_option linter.unusedSimpArgs false
open Go.RowKit

def Raw (w : World) (sz : Nat) (v : Value) (n : Nat) (xs : List Value) : Prop :=
  xs.length = n * sz ∧ ((v = .slice none 0 0 ∧ n = 0) ∨ ∃ a cap, v = .slice (some a) n cap ∧ n ≤ cap ∧ cap ≤ 9223372036854775807 ∧ ∀ (j : Nat) u, xs[j]? = some u → w.cell? (a.add j) = some u)
theorem Raw.below {w w' : World} {sz n B : Nat} {v : Value} {xs : List Value} (h : Raw w sz v n xs) (hb : Below B w w') (hB : w.heap.size ≤ B) : Raw w' sz v n xs := by
  obtain ⟨h0, h | ⟨a, cap, h1, h2, h3, h4⟩⟩ := h
  · exact ⟨h0, .inl h⟩
  · exact ⟨h0, .inr ⟨a, cap, h1, h2, h3, fun j u hu => (hb.cell (Nat.lt_of_lt_of_le (World.block_lt_of_cell? w _ (h4 j u hu)) hB)).trans (h4 j u hu)⟩⟩
/-- the row of a copy -/
theorem run_copy {t e ty : TypeId} {z : Value} {size bytes : Nat} (ht : Try.prog.underlying t = some (.slice e)) (hinfo : (Try.prog.info? e).map (fun i => (i.zero, i.size, i.bytes)) = some (some z, size, bytes)) (hzs : z.cells.size = size) (hsz : 0 < size)
    (w : World) (v : Value) (n : Nat) (xs : List Value) (h : Raw w size v n xs) (hn : n ≤ 1000000) (hby : n * bytes ≤ 140737488355328) :
    ∃ v' w', (Builtin.append_ #[t, t] ty #[.slice (some ⟨w.heap.size, 0, none⟩) 0 0, v]).run Try.prog (w.alloc (.cells #[] e)) = .ok v' w' ∧ w'.ownsRow w.heap.size e size v' n xs ∧ Below w.heap.size w w' := by
  obtain ⟨i, hi, hz, hs, hb⟩ := info_parts hinfo
  have hba : Below w.heap.size w (w.alloc (.cells #[] e)) := (Below.refl _ _).alloc (Nat.le_refl _) _
  have hnew := heap_alloc_new w (.cells #[] e)
  have hr := h.below hba (Nat.le_refl _)
  by_cases h0 : n = 0
  · subst h0
    have hx : xs = [] := List.eq_nil_of_length_eq_zero (by have := h.1; omega)
    subst hx
    have hsrc : Src Try.prog i.size t v 0 [] (w.alloc (.cells #[] e)) := by
      rcases hr.2 with ⟨rfl, _⟩ | ⟨a, cap, rfl, _⟩
      · exact Src.ofNil _ ht 0
      · exact Src.ofSlice _ ht a 0 cap [] (by simp) (by simp) (by simp)
    refine ⟨_, _, run_append_nothing _ t t ty e i ht hi (some ⟨w.heap.size, 0, none⟩) 0 0 (Nat.le_refl _) v hsrc, ⟨by simp, .inr ⟨w.heap.size, 0, #[], rfl, Nat.le_refl _, hnew, Nat.le_refl _, by simp [maxLen], by simp, by simp⟩⟩, hba⟩
  · rcases hr.2 with ⟨_, hq⟩ | ⟨a, cap, rfl, h2, h3, h4⟩
    · exact absurd hq h0
    obtain ⟨v', w', hrun, hown, hg⟩ := run_append_arg_grows (w := w.alloc (.cells #[] e)) t ty e i z size bytes ht hi hz hs hb hzs hsz ⟨w.heap.size, 0, none⟩ 0 0 [] (by simp) (by simp) a n cap xs (by simpa using hr.1) h4 (by omega) (by simp only [maxLen]; omega) (by simpa using hby)
    rw [Nat.zero_add, List.nil_append] at hown
    have hgb : Below w.heap.size w w' := hba.trans (Below.mono ⟨hg.os, hg.tape, hg.output, hg.size, fun k hk => hg.block k hk (by simp)⟩ hba.size)
    refine ⟨v', w', hrun, ⟨hown.1, ?_⟩, hgb⟩
    rcases hown.2 with h5 | ⟨g, cap', cur, h5, h6, h7⟩
    · exact .inl h5
    · exact .inr ⟨g, cap', cur, h5, by have := hba.size; omega, h7⟩
theorem wpList_copy {ops : Array Oper} {rest : List Oper} {o : Oper} {a : Act} {Q : Exit → Act → World → Prop} (hgd : o.guard = none) (s x : Operand) {t e : TypeId} {z : Value} {size bytes : Nat}
    (ho : o.op = .call { callee := .builtin .append, args := #[s, x], argTypes := #[t, t] }) (ht : Try.prog.underlying t = some (.slice e)) (hinfo : (Try.prog.info? e).map (fun i => (i.zero, i.size, i.bytes)) = some (some z, size, bytes)) (hzs : z.cells.size = size) (hsz : 0 < size)
    (w : World) (v : Value) (n : Nat) (xs : List Value) (hs : a.eval s = .slice (some ⟨w.heap.size, 0, none⟩) 0 0) (hx : a.eval x = v) (h : Raw w size v n xs) (hn : n ≤ 1000000) (hby : n * bytes ≤ 140737488355328)
    (hk : ∀ v' w', w'.ownsRow w.heap.size e size v' n xs → Below w.heap.size w w' → wpList Try.prog ops Q rest (a.put o.dst v') w') : wpList Try.prog ops Q (o :: rest) a (w.alloc (.cells #[] e)) :=
  wpList_plain hgd fun _ hK => by
    obtain ⟨v', w', hr, hown, hb⟩ := run_copy (ty := o.type) ht hinfo hzs hsz w v n xs h hn hby
    unfold Oper.wp execOp
    simp only [ho, resolve, invoke, builtin, Sem.run_bind, Sem.run_pure, Result.andThen_ok, List.map_toArray, List.map_cons, List.map_nil, hs, hx, hr]
    exact hK _ _ (hk v' w' hown hb)
end Go.Proofs.Ythfholnnkdoagaa
