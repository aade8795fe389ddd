/-
  Layer 8: a row's rest and its beginning; rows appended to rows. Own work.
-/
import Derived.Test.YthfholnnkdoagaaRVl8
import Derived.Maps.AppendAt
namespace Go.Proofs.Ythfholnnkdoagaa
set_option linter.unusedVariables false
set_option linter.unusedSimpArgs false
open Go.RowKit

theorem RdSl.from8 {α : Type} {sz : Nat} {R : Addr → α → Prop} {a : Addr} {n c k : Nat} {l : List α} (h : RdSl sz R (.slice (some a) n c) l) (hk : k ≤ l.length) : RdSl sz R (.slice (some (a.add (k * sz))) (n - k) (c - k)) (l.drop k) := by
  rcases h with ⟨h, _⟩ | ⟨b, cap, h, h1, h2, h3⟩
  · cases h
  · cases h
    refine .inr ⟨a.add (k * sz), c - k, by rw [List.length_drop], by rw [List.length_drop]; omega, by omega, fun i x hx => ?_⟩
    rw [List.getElem?_drop] at hx
    have := h3 (k + i) x hx
    rw [Go.Deep.add_add, ← Nat.add_mul]
    exact this
theorem RdSl.upto8 {α : Type} {sz : Nat} {R : Addr → α → Prop} {a : Addr} {n c k : Nat} {l : List α} (h : RdSl sz R (.slice (some a) n c) l) (hk : k ≤ l.length) : RdSl sz R (.slice (some a) k c) (l.take k) := by
  rcases h with ⟨h, _⟩ | ⟨b, cap, h, h1, h2, h3⟩
  · cases h
  · cases h
    refine .inr ⟨a, c, by rw [List.length_take]; congr 1; omega, by rw [List.length_take]; omega, h2, fun i x hx => ?_⟩
    have hx' : l[i]? = some x := by
      rw [List.getElem?_take] at hx
      split at hx
      · exact hx
      · cases hx
    exact h3 i x hx'
theorem slice_from8 {ad : Option Addr} {n c k : Nat} {l : List Pr} {W : World} (h : RdPs W (.slice ad n c) l) (hk : k ≤ l.length) :
    ∃ v, (∀ w, (Instr.slice 27 (.slice ad n c) (some (.int .i64 (k : Int))) none none).run Try.prog w = .ok v w) ∧ RdPs W v (l.drop k) := by
  have ht := Try.underlying27
  have he : Try.prog.elem 27 = 33 := by kernel_rfl
  have h0 := h
  rcases h with ⟨h1, rfl⟩ | ⟨b, c1, h1, h2, h3, h4⟩
  · cases h1
    have hk0 : k = 0 := by simpa using hk
    subst hk0
    refine ⟨.slice none 0 0, fun w => ?_, .inl ⟨rfl, rfl⟩⟩
    have hsz := Try.sizeOf33 (w := w)
    rw [run_slice_l _ _ _ _ _ (by rw [he]; exact ht) _ _ (by omega) (by omega), he, hsz]
    rfl
  · cases h1
    refine ⟨sliced (some b) k l.length c 2, fun w => ?_, ?_⟩
    · have hsz := Try.sizeOf33 (w := w)
      rw [run_slice_l _ _ _ _ _ (by rw [he]; exact ht) _ _ (by omega) (by omega), he, hsz]
      simp only [Result.andThen_ok, Int.toNat_natCast]
    · by_cases hc : c = k
      · have hl : l.length = k := by omega
        simp only [sliced]
        rw [if_pos hc, List.drop_eq_nil_of_le (by omega)]
        exact .inr ⟨b, c - k, by simp [hl], by simp, by omega, fun i x hx => by simp at hx⟩
      · simp only [sliced]
        rw [if_neg hc]
        exact RdSl.from8 h0 hk
theorem slice_upto8 {ad : Option Addr} {n c k : Nat} {l : List Pr} {W : World} (h : RdPs W (.slice ad n c) l) (hk : k ≤ l.length) :
    ∃ v, (∀ w, (Instr.slice 27 (.slice ad n c) none (some (.int .i64 (k : Int))) none).run Try.prog w = .ok v w) ∧ RdPs W v (l.take k) := by
  have ht := Try.underlying27
  have he : Try.prog.elem 27 = 33 := by kernel_rfl
  have h0 := h
  rcases h with ⟨h1, rfl⟩ | ⟨b, c1, h1, h2, h3, h4⟩
  · cases h1
    have hk0 : k = 0 := by simpa using hk
    subst hk0
    refine ⟨.slice none 0 0, fun w => ?_, .inl ⟨rfl, rfl⟩⟩
    have hsz := Try.sizeOf33 (w := w)
    rw [run_slice_h _ _ _ _ _ (by rw [he]; exact ht) _ _ (by omega) (by omega), he, hsz]
    rfl
  · cases h1
    refine ⟨sliced (some b) 0 k c 2, fun w => ?_, ?_⟩
    · have hsz := Try.sizeOf33 (w := w)
      rw [run_slice_h _ _ _ _ _ (by rw [he]; exact ht) _ _ (by omega) (by omega), he, hsz]
      simp only [Result.andThen_ok, Int.toNat_natCast]
    · by_cases hc : c = 0
      · have hk0 : k = 0 := by omega
        simp only [sliced]
        rw [if_pos hc, hk0, List.take_zero]
        exact .inr ⟨b, c - 0, by simp, by simp, by omega, fun i x hx => by simp at hx⟩
      · simp only [sliced]
        rw [if_neg hc]
        have h5 := RdSl.from8 (k := 0) (RdSl.upto8 h0 hk) (by omega)
        rw [List.drop_zero] at h5
        exact h5
theorem rowPr_one : ∀ (l : List Pr), ∀ u ∈ rowPr l, u.oneCell' = true := fun l u hu => by
  unfold rowPr at hu
  obtain ⟨p, _, h⟩ := List.mem_flatMap.1 hu
  simp only [prL, List.mem_cons, List.not_mem_nil, or_false] at h
  rcases h with rfl | rfl <;> rfl
theorem run_app_props (W : World) (ty : TypeId) {base n : Nat} {v : Value} {xs : List Value} (hown : W.ownsRow base 33 2 v n xs) (l : List Pr) (v2 : Value) (h2 : RdPs W v2 l) (hn : n ≤ 100000) (hl : l.length ≤ 100000) (hbase : base ≤ W.heap.size) :
    ∃ v' w', (Builtin.append_ #[27, 27] ty #[v, v2]).run Try.prog W = .ok v' w' ∧ w'.ownsRow base 33 2 v' (n + l.length) (xs ++ rowPr l) ∧ W.grownBy w' v.ownBlock := by
  obtain ⟨i, hi, hz, hsize, hby⟩ := info_parts prop_info
  have ht := Try.underlying27
  obtain ⟨hlen, hr⟩ := h2.raw
  rcases hr with ⟨rfl, h0⟩ | ⟨a, cap, rfl, hc1, hc2, hcells⟩
  · have hl0 : l = [] := List.eq_nil_of_length_eq_zero h0
    subst hl0
    obtain ⟨ao, c, rfl⟩ := own_shape8 hown
    have hle : n ≤ c := by
      rcases hown.2 with ⟨e, h0⟩ | ⟨g, cap, cur, e, _, _, h1, _⟩
      · cases e; exact Nat.le_refl _
      · cases e; exact h1
    refine ⟨_, _, run_append_nothing W _ _ ty 33 i ht hi ao n c hle _ (Src.ofNil _ ht 0), ?_, ⟨rfl, rfl, rfl, Nat.le_refl _, fun _ _ _ => rfl⟩⟩
    simpa [rowPr] using hown
  · obtain ⟨v', w', hr, h3, h4, _, _⟩ := run_append_own_at (P := Try.prog) W base 27 ty 33 i _ 2 32 ht hi hz hsize hby rfl (by omega) v n xs hown a l.length cap (rowPr l) hlen hcells (rowPr_one l) (by simp only [maxLen]; omega) (by omega) hbase
    exact ⟨v', w', hr, h3, h4⟩
theorem step_apps {ops : Array Oper} {o : Oper} {a : Act} {W : World} {K : Act → World → Prop} {Q : Exit → Act → World → Prop} {E : Prop} (s x : Operand) (hgd : o.guard = none)
    (ho : o.op = .call { callee := .builtin .append, args := #[s, x], argTypes := #[27, 27] }) {base n : Nat} {v : Value} {xs : List Value} (hsv : a.eval s = v) (l : List Pr) (v2 : Value) (hx : a.eval x = v2)
    (hown : W.ownsRow base 33 2 v n xs) (h2 : RdPs W v2 l) (hn : n ≤ 100000) (hl : l.length ≤ 100000) (hbase : base ≤ W.heap.size)
    (hK : ∀ v' w', w'.ownsRow base 33 2 v' (n + l.length) (xs ++ rowPr l) → W.grownBy w' v.ownBlock → K (a.put o.dst v') w') :
    if Region.wanted o (yielded ops a.tmps) = true then Oper.wp Try.prog o a W K Q else E := by
  have hw : Region.wanted o (yielded ops a.tmps) = true := by simp [Region.wanted, hgd]
  rw [if_pos hw]
  obtain ⟨v', w', hr, h3, h4⟩ := run_app_props W o.type hown l v2 h2 hn hl hbase
  unfold Oper.wp execOp
  simp only [ho, resolve, invoke, builtin, Sem.run_bind, Sem.run_pure, Result.andThen_ok, List.map_toArray, List.map_cons, List.map_nil, hsv, hx, hr]
  exact hK v' w' h3 h4
theorem wpList_apps {ops : Array Oper} {rest : List Oper} {o : Oper} {a : Act} {W : World} {Q : Exit → Act → World → Prop} (hgd : o.guard = none) (s x : Operand)
    (ho : o.op = .call { callee := .builtin .append, args := #[s, x], argTypes := #[27, 27] }) {base n : Nat} {v : Value} {xs : List Value} (hsv : a.eval s = v) (l : List Pr) (v2 : Value) (hx : a.eval x = v2)
    (hown : W.ownsRow base 33 2 v n xs) (h2 : RdPs W v2 l) (hn : n ≤ 100000) (hl : l.length ≤ 100000) (hbase : base ≤ W.heap.size)
    (hK : ∀ v' w', w'.ownsRow base 33 2 v' (n + l.length) (xs ++ rowPr l) → W.grownBy w' v.ownBlock → wpList Try.prog ops Q rest (a.put o.dst v') w') :
    wpList Try.prog ops Q (o :: rest) a W :=
  wpList_plain hgd fun _ hK2 => by
    obtain ⟨v', w', hr, h3, h4⟩ := run_app_props W o.type hown l v2 h2 hn hl hbase
    unfold Oper.wp execOp
    simp only [ho, resolve, invoke, builtin, Sem.run_bind, Sem.run_pure, Result.andThen_ok, List.map_toArray, List.map_cons, List.map_nil, hsv, hx, hr]
    exact hK2 _ _ (hK v' w' h3 h4)
theorem own_empty8 {W : World} {q : Nat} (base : Nat) (hb : base ≤ q) (h : W.heap[q]? = some (.cells #[] 33 (0, 0))) : W.ownsRow base 33 2 (.slice (some ⟨q, 0, none⟩) 0 0) 0 [] :=
  ⟨by simp, .inr ⟨q, 0, #[], rfl, hb, h, Nat.le_refl _, by simp [maxLen], by simp, by simp⟩⟩
end Go.Proofs.Ythfholnnkdoagaa
