/-
  Layer 29: slices.Clone of a row of numbers. Own work.
-/
import Derived.Test.YtlcbfahaapodmaaBt29
import Derived.Deep.AppendSrc
import Derived.Deep.Upon
import Derived.Lib.BufferMore
namespace Go.Proofs.Ytlcbfahaapodmaa
set_option linter.unusedVariables false
set_option linter.unusedSimpArgs false
open Go.RowKit

section
variable {w : World} {n0 : Nat}
/-- an empty row of one's own, and the numbers of another one behind it -/
theorem app_clone {ops : Array Oper} {rest : List Oper} {o : Oper} {a : Act} {Q : Exit → Act → World → Prop} (hgd : o.guard = none) (s x : Operand)
    (ho : o.op = .call { callee := .builtin .append, args := #[s, x], argTypes := #[27, 27] }) {c : List Int} {ad : Addr} {cp : Nat} (hs : a.eval s = .slice (some ⟨w.heap.size, 0, none⟩) 0 0) (hx : a.eval x = .slice (some ad) c.length cp)
    (hcell : ∀ (j : Nat) n, c[j]? = some n → w.cell? (ad.add j) = some (iV n)) (hn6 : c.length ≤ 1000000) (hn0 : n0 ≤ w.heap.size)
    (hK : ∀ q cap w', w'.ownsRow n0 3 1 (.slice (some ⟨q, 0, none⟩) c.length cap) c.length (c.map iV) → w.grownBy w' none → w.heap.size ≤ q → q < w'.heap.size → wpList Try.prog ops Q rest (a.put o.dst (.slice (some ⟨q, 0, none⟩) c.length cap)) w') :
    wpList Try.prog ops Q (o :: rest) a (w.alloc (.cells #[] 3)) := by
  obtain ⟨i, hi, hz, hsize, hby⟩ := info_parts int29_info
  have hga : w.grownBy (w.alloc (.cells #[] 3)) none := World.grownBy_alloc _ _ _
  have hS : Src Try.prog i.size 27 (.slice (some ad) c.length cp) c.length (c.map iV) (w.alloc (.cells #[] 3)) := Src.ofSlice _ Try.underlying27 ad c.length cp _ (by rw [hsize]; simp) (fun j u hu => by
    rw [List.getElem?_map] at hu
    cases hq : c[j]? with
    | none => rw [hq] at hu; simp at hu
    | some y =>
      rw [hq] at hu; simp at hu
      rw [← hu]
      exact hga.cell (hcell j y hq) (by simp)) (fun u hu => by
    obtain ⟨y, _, rfl⟩ := List.mem_map.1 hu
    simp [Value.oneCell', iV])
  refine wpList_plain hgd fun K' hK' => ?_
  unfold Oper.wp execOp
  rcases Nat.eq_zero_or_pos c.length with h0 | hpos
  · have hc0 : c = [] := List.eq_nil_of_length_eq_zero h0
    subst hc0
    have hr := run_append_nothing (P := Try.prog) (w.alloc (.cells #[] 3)) 27 27 o.type 3 i Try.underlying27 hi (some ⟨w.heap.size, 0, none⟩) 0 0 (Nat.le_refl _) _ hS
    simp only [ho, resolve, invoke, builtin, Sem.run_bind, Sem.run_pure, Result.andThen_ok, List.map_toArray, List.map_cons, List.map_nil, hs, hx, List.length_nil] at hr ⊢
    rw [hr]
    refine hK' _ _ (hK w.heap.size 0 _ ⟨by simp, .inr ⟨w.heap.size, 0, #[], rfl, hn0, heap_alloc_new _ _, Nat.le_refl _, by simp [maxLen], rfl, rfl⟩⟩ hga (Nat.le_refl _) (by simp))
  · have hold : (Builtin.firstCells i.size 0 (.slice (some ⟨w.heap.size, 0, none⟩) 0 0)).run Try.prog (w.alloc (.cells #[] 3)).drew = .ok ([] : List Value).toArray (w.alloc (.cells #[] 3)).drew := by
      rw [hsize]
      exact run_firstCells_some (w.alloc (.cells #[] 3)).drew 1 0 ⟨w.heap.size, 0, none⟩ 0 0 [] rfl (fun j u hu => by simp at hu)
    have hr := run_append_grow_src (P := Try.prog) (w.alloc (.cells #[] 3)) 27 27 o.type 3 i _ Try.underlying27 hi hz (some ⟨w.heap.size, 0, none⟩) 0 0 [] hold _ c.length _ hS (by omega) (by omega) (growslice_fits (by omega) (by rw [hby]; omega))
    rw [Nat.zero_add, List.nil_append] at hr
    simp only [ho, resolve, invoke, builtin, Sem.run_bind, Sem.run_pure, Result.andThen_ok, List.map_toArray, List.map_cons, List.map_nil, hs, hx]
    rw [hr]
    have hge := grownCap_ge (w.alloc (.cells #[] 3)) c.length 0 3
    have hcm := grownCap_le_maxLen (w.alloc (.cells #[] 3)) c.length 0 3 (by unfold maxLen; omega)
    generalize grownCap (w.alloc (.cells #[] 3)) c.length 0 3 = cap at hge hcm ⊢
    have hzs : (Builtin.zeroCells (Value.cells (.int .i64 0)) (cap - c.length)).size = cap - c.length := by simp [Builtin.zeroCells, Value.cells]
    refine hK' _ _ (hK _ cap _ ⟨by simp, .inr ⟨(w.alloc (.cells #[] 3)).heap.size, cap, _, rfl, Nat.le_trans hn0 (by simp), heap_alloc_new _ _, hge, hcm, ?_, ?_⟩⟩ ⟨rfl, rfl, rfl, by simp; omega, fun q hq _ => ?_⟩ (by simp) (by simp))
    · rw [Array.size_append, hzs]; simp; omega
    · rw [Array.toList_append, List.take_append_of_le_length (by simp), List.take_of_length_le (by simp)]
    · exact (Below.heap_alloc _ _ q (by simp; omega)).trans (Below.heap_alloc w _ q hq)
def CloneR (w : World) (n0 : Nat) (c : List Int) (e : Ending) (w' : World) : Prop := ∃ v', e = .returned v' ∧ w'.ownsRow n0 3 1 v' c.length (c.map iV) ∧ w.grownBy w' none ∧ (∀ b, v'.ownBlock = some b → w.heap.size ≤ b ∧ b < w'.heap.size) ∧ ∃ a n cp, v' = .slice a n cp
set_option maxHeartbeats 4000000 in
theorem clone29_any (vl : Value) (c : List Int) (hr : Reads w iV vl c) (hn6 : c.length ≤ 1000000) (hn0 : n0 ≤ w.heap.size) : Calls Try.prog 22 #[vl] w (CloneR w n0 c) := by
  rcases hr with ⟨rfl, rfl⟩ | ⟨ad, cp, rfl, h1, h2, h3⟩
  · have hnil := fun w => Lib.run_eql_slice_nil_nil (P := Try.prog) w 0 0 Try.underlying27
    go_enter Try.func22, Try.ntmps22
    go_wp2
    go_ret
    exact ⟨.slice none 0 0, rfl, World.ownsRow_nil _ _ _ _, World.grownBy.refl _ _, fun b hb => absurd hb (by simp [Value.ownBlock]), none, 0, 0, rfl⟩
  · have H3 := Lib.hid h3
    clear h3
    have hnil := fun w => Lib.run_eql_slice_some_nil (P := Try.prog) w ad c.length cp Try.underlying27
    go_enter Try.func22, Try.ntmps22
    go_wp2_with (at_builtin
                 refine app_clone rfl _ _ rfl (by rfl) (by rfl) H3.out hn6 hn0 ?_)
    intro q cap w' ho hg hq1 hq2
    go_wp2
    go_ret
    exact ⟨_, rfl, ho, hg, fun b hb => by rw [← Option.some.inj hb]; exact ⟨hq1, hq2⟩, _, _, _, rfl⟩
end
end Go.Proofs.Ytlcbfahaapodmaa
