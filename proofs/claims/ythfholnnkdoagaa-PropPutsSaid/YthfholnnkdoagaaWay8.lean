/-
  Layer 8: the places that are met: one more of them; is a place among them? Own work.
-/
import Derived.Test.YthfholnnkdoagaaPut8
namespace Go.Proofs.Ythfholnnkdoagaa
set_option linter.unusedVariables false
set_option linter.unusedSimpArgs false
open Go.RowKit

theorem int8_info : (Try.prog.info? 3).map (fun i => (i.zero, i.size, i.bytes)) = some (some (.int .i64 0), 1, 8) := by kernel_rfl
/-- an append leaves the shorter row's own cells -/
theorem run_app_way (w0 : World) (ty : TypeId) (base n : Nat) (v : Value) (xs : List Value) (x : Int) (hown : w0.ownsRow base 3 1 v n xs) (hn : n ≤ 100000) (hbase : base ≤ w0.heap.size) :
    ∃ v' w', (Builtin.append_ #[89, 89] ty #[v, .slice (some ⟨w0.heap.size, 0, none⟩) 1 1]).run Try.prog (w0.alloc (.cells #[.int .i64 x] 3)) = .ok v' w' ∧ w'.ownsRow base 3 1 v' (n + 1) (xs ++ [.int .i64 x]) ∧
      w'.ownsRow base 3 1 v n xs ∧ w0.grownBy w' v.ownBlock ∧ (v'.ownBlock = v.ownBlock ∨ ∀ k, v'.ownBlock = some k → w0.heap.size ≤ k) := by
  obtain ⟨i, hi, hz, hsize, hby⟩ := info_parts int8_info
  have hown1 := hown.alloc (.cells #[.int .i64 x] 3)
  have hnews : ∀ j u, ([.int .i64 x] : List Value)[j]? = some u → (w0.alloc (.cells #[.int .i64 x] 3)).cell? ((⟨w0.heap.size, 0, none⟩ : Addr).add j) = some u := cell_one_new w0 _ _
  obtain ⟨v', w', hr, h1, h2, h3, h4⟩ := run_append_own_at (P := Try.prog) (w0.alloc (.cells #[.int .i64 x] 3)) base 89 ty 3 i (.int .i64 0) 1 8 Try.underlying89 hi hz hsize hby rfl (by omega) v n xs hown1 ⟨w0.heap.size, 0, none⟩ 1 1 [.int .i64 x] rfl hnews (by simp [Value.oneCell']) (by simp only [maxLen]; omega) (by omega) (by simp; omega)
  refine ⟨v', w', hr, h1, ?_, ⟨h2.os, h2.tape, h2.output, Nat.le_trans (by simp) h2.size, fun k hk hne => (h2.block k (by simp; omega) hne).trans (Below.heap_alloc _ _ _ hk)⟩, ?_⟩
  · rcases hown1.2 with ⟨rfl, rfl⟩ | ⟨g, cap, cur, rfl, hbg, hg, hnc, hcm, hcs, htake⟩
    · have : xs = [] := List.eq_nil_of_length_eq_zero (by simpa using hown1.1)
      subst this
      exact World.ownsRow_nil _ _ _ _
    · by_cases hroom : n + 1 ≤ cap
      · have hrr := run_append_room (P := Try.prog) (w0.alloc (.cells #[.int .i64 x] 3)) 89 ty 3 i Try.underlying89 hi g n cap cur hg ⟨w0.heap.size, 0, none⟩ 1 1 [.int .i64 x] (by rw [hsize]; rfl) hnews (by simp [Value.oneCell']) hroom (by rw [hsize, hcs]; simp; omega)
        rw [hrr] at hr
        simp only [Result.ok.injEq] at hr
        obtain ⟨_, rfl⟩ := hr
        refine ⟨hown1.1, .inr ⟨g, cap, _, rfl, hbg, setRow_heap _ g cur _ _ _ hg, hnc, hcm, ?_, ?_⟩⟩
        · rw [hsize]
          have hl : cur.toList.length = cap := by rw [Array.length_toList, hcs, Nat.mul_one]
          simp only [List.size_toArray, List.length_append, List.length_take, List.length_drop, hl, List.length_singleton]
          omega
        · rw [hsize]
          have hl : (cur.toList.take (n * 1)).length = n * 1 := by rw [List.length_take, Array.length_toList, hcs]; omega
          rw [List.append_assoc]
          show List.take (n * 1) (cur.toList.take (n * 1) ++ _) = xs
          rw [List.take_append_of_le_length (by rw [hl]; exact Nat.le_refl _), List.take_of_length_le (by rw [hl]; exact Nat.le_refl _)]
          exact htake
      · have hrr := run_append_grow (P := Try.prog) (w0.alloc (.cells #[.int .i64 x] 3)) 89 ty 3 i (.int .i64 0) Try.underlying89 hi hz ⟨g, 0, none⟩ n cap xs (by rw [hsize]; exact hown1.1) (hown1.cells (g := g) rfl) ⟨w0.heap.size, 0, none⟩ 1 1 [.int .i64 x] (by rw [hsize]; rfl) hnews (by omega) (by omega) (growslice_fits (by omega) (by rw [hby]; omega))
        rw [hrr] at hr
        simp only [Result.ok.injEq] at hr
        obtain ⟨_, rfl⟩ := hr
        exact own_mvd8 hown1 ⟨rfl, rfl, rfl, by simp, fun k hk => heap_alloc_old (World.drew _) _ hk⟩
  · rcases h4 with h4 | h4
    · exact .inl h4
    · refine .inr fun k hk => ?_
      rw [h4] at hk
      simp at hk
      omega
theorem wpList_way {ops : Array Oper} {rest : List Oper} {o : Oper} {a : Act} {Q : Exit → Act → World → Prop} (hgd : o.guard = none) (s x : Operand)
    (ho : o.op = .call { callee := .builtin .append, args := #[s, x], argTypes := #[89, 89] }) (w0 : World) (base n : Nat) (v : Value) (xs : List Value) (y : Int) (hs : a.eval s = v) (hx : a.eval x = .slice (some ⟨w0.heap.size, 0, none⟩) 1 1)
    (hown : w0.ownsRow base 3 1 v n xs) (hn : n ≤ 100000) (hbase : base ≤ w0.heap.size)
    (hk : ∀ v' w', w'.ownsRow base 3 1 v' (n + 1) (xs ++ [.int .i64 y]) → w'.ownsRow base 3 1 v n xs → w0.grownBy w' v.ownBlock → (v'.ownBlock = v.ownBlock ∨ ∀ k, v'.ownBlock = some k → w0.heap.size ≤ k) → wpList Try.prog ops Q rest (a.put o.dst v') w') : wpList Try.prog ops Q (o :: rest) a (w0.alloc (.cells #[.int .i64 y] 3)) :=
  wpList_plain hgd fun _ hK => by
    obtain ⟨v', w', hr, h1, h2, h3, h4⟩ := run_app_way w0 o.type base n v xs y hown hn hbase
    unfold Oper.wp execOp
    simp only [ho, resolve, invoke, builtin, Sem.run_bind, Sem.run_pure, Result.andThen_ok, List.map_toArray, List.map_cons, List.map_nil, hs, hx, hr]
    exact hK _ _ (hk v' w' h1 h2 h3 h4)
theorem contains_way {S : Tb} {X : Nat → Prop} {way : List Nat} {vw : Value} {w : World} (h : Wy S X way vw w) (hl : way.length ≤ 100) (j : Nat) :
    Calls Try.prog 53 #[vw, .int .i64 (j : Int)] w fun e w' => e = .returned (.bool (decide (j ∈ way))) ∧ w' = w := by
  rcases h.1.2 with ⟨rfl, h0⟩ | ⟨g, cap, cur, rfl, _, hg, _⟩
  · have : way = [] := List.eq_nil_of_length_eq_zero h0
    subst this
    exact Try.slices_Contains_int_empty none 0 (j : Int) w
  · have hc := h.1.cells (g := g) rfl
    have := Try.slices_Contains_int g 0 way.length cap (way.map fun i : Nat => (i : Int)) (j : Int) w (by simp) (by omega) (fun q hq => by
      have hq' : q < way.length := by simpa using hq
      have h1 := hc q (.int .i64 ((way[q] : Nat) : Int)) (by rw [List.getElem?_map, List.getElem?_eq_getElem hq']; rfl)
      have e : (⟨g, 0, none⟩ : Addr).add q = ⟨g, 0 + q, none⟩ := by unfold Addr.add; split <;> simp_all
      rw [e] at h1
      rw [h1]
      simp [hq'])
    refine this.mono fun e w' ⟨h1, h2⟩ => ⟨?_, h2⟩
    rw [h1]
    congr 2
    rw [List.take_of_length_le (by simp), Bool.eq_iff_iff, List.contains_iff_mem, decide_eq_true_eq]
    simp only [List.mem_map]
    exact ⟨fun ⟨a, ha, e⟩ => by rw [show j = a by omega]; exact ha, fun h => ⟨j, h, rfl⟩⟩
end Go.Proofs.Ythfholnnkdoagaa
