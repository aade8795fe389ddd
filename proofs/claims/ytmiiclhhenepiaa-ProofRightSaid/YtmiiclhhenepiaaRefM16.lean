/-
  Layer 16: the answer's Follows on lists: what a pass over the clauses tells. Own work.
-/
import Derived.Test.YtmiiclhhenepiaaDer16
namespace Go.Proofs.Ytmiiclhhenepiaa
set_option linter.unusedVariables false
set_option linter.unusedSimpArgs false

/-- the different literals of a clause that aren't false, in their order (pre stands ahead) -/
def leftL (yes : List Int) : List Int → List Int → List Int
  | _, [] => []
  | pre, n :: r => (if n ≠ 0 ∧ -n ∉ yes ∧ n ∉ pre then [n] else []) ++ leftL yes (pre ++ [n]) r
theorem left_snoc (yes : List Int) : ∀ (r pre : List Int) (n : Int), leftL yes pre (r ++ [n]) = leftL yes pre r ++ (if n ≠ 0 ∧ -n ∉ yes ∧ n ∉ pre ++ r then [n] else [])
  | [], pre, n => by simp [leftL]
  | m :: r, pre, n => by
    rw [List.cons_append, leftL, leftL, left_snoc yes r (pre ++ [m]) n, List.append_assoc, List.append_assoc, List.singleton_append]
theorem left_take {yes c : List Int} {i : Nat} {n : Int} (h : c[i]? = some n) : leftL yes [] (c.take (i + 1)) = leftL yes [] (c.take i) ++ (if n ≠ 0 ∧ -n ∉ yes ∧ n ∉ c.take i then [n] else []) := by
  rw [List.take_add_one, h, Option.toList_some, left_snoc, List.nil_append]
theorem left_mem (yes : List Int) : ∀ (r pre : List Int) (n : Int), n ∈ leftL yes pre r ↔ n ≠ 0 ∧ -n ∉ yes ∧ n ∉ pre ∧ n ∈ r
  | [], pre, n => by simp [leftL]
  | m :: r, pre, n => by
    rw [leftL, List.mem_append, left_mem yes r (pre ++ [m]) n]
    by_cases hm : n = m
    · subst hm
      by_cases h : n ≠ 0 ∧ -n ∉ yes ∧ n ∉ pre
      · rw [if_pos h]; simp [h.1, h.2.1, h.2.2]
      · rw [if_neg h]
        simp only [List.not_mem_nil, false_or, List.mem_append, List.mem_singleton, List.mem_cons, true_or, and_true]
        constructor
        · rintro ⟨_, _, h3, _⟩; exact absurd (.inr trivial) h3
        · intro h2; exact absurd h2 h
    · have h1 : (n ∈ if m ≠ 0 ∧ -m ∉ yes ∧ m ∉ pre then [m] else []) ↔ False := by
        constructor
        · intro h
          split at h
          · exact hm (List.mem_singleton.1 h)
          · cases h
        · exact False.elim
      rw [h1]
      simp [hm]
theorem left_in {yes c : List Int} {n : Int} : n ∈ leftL yes [] c ↔ n ∈ nz c ∧ -n ∉ yes := by
  rw [left_mem, nz, List.mem_filter]
  simp only [List.not_mem_nil, not_false_eq_true, true_and, bne_iff_ne]
  constructor
  · rintro ⟨a, b, d⟩; exact ⟨⟨d, a⟩, b⟩
  · rintro ⟨⟨d, a⟩, b⟩; exact ⟨a, b, d⟩
section
variable {l : List (List Int)} {c yes x : List Int} {n : Int}
/-- what the answer has taken follows -/
def Got (l : List (List Int)) (c yes : List Int) : Prop := ∀ n ∈ yes, Der (fun n : Int => -n) (l.map nz) (Neg c) n
theorem left_none (hx : x ∈ l) (hg : Got l c yes) (h : leftL yes [] x = []) : Fol l c := by
  refine .inr ⟨nz x, List.mem_map.2 ⟨x, hx, rfl⟩, fun m hm => ?_⟩
  by_cases hy : -m ∈ yes
  · exact hg _ hy
  · have := left_in.2 ⟨hm, hy⟩
    rw [h] at this
    cases this
theorem left_one (hx : x ∈ l) (hg : Got l c yes) (h : leftL yes [] x = [n]) : Got l c (yes ++ [n]) := by
  have hn : n ∈ nz x := (left_in.1 (by rw [h]; exact List.mem_singleton.2 rfl)).1
  intro k hk
  rcases List.mem_append.1 hk with hk | hk
  · exact hg k hk
  · rw [List.mem_singleton.1 hk]
    refine .unit (List.mem_map.2 ⟨x, hx, rfl⟩) hn fun m hm hne => ?_
    by_cases hy : -m ∈ yes
    · exact hg _ hy
    · have := left_in.2 ⟨hm, hy⟩
      rw [h] at this
      exact absurd (List.mem_singleton.1 this) hne
theorem got_both (hg : Got l c yes) (h1 : n ∈ yes) (h2 : -n ∈ yes) : Fol l c := .inl ⟨n, hg n h1, hg _ h2⟩
/-- a pass that found nothing -/
theorem pass_none (hs : ∀ n, Neg c n → n ∈ yes) (h1 : ∀ n ∈ yes, -n ∉ yes) (h2 : ∀ x ∈ l, leftL yes [] x ≠ []) (h3 : ∀ x ∈ l, ∀ n, leftL yes [] x = [n] → n ∈ yes) (hd : ∀ x ∈ l, (leftL yes [] x).Nodup) : ¬ Fol l c := by
  refine no_conf (T := fun n => n ∈ yes) ⟨hs, fun d hd2 n hn hm => ?_⟩ h1 fun d hd2 => ?_
  · obtain ⟨x, hx, rfl⟩ := List.mem_map.1 hd2
    obtain ⟨k, hk⟩ := List.exists_mem_of_ne_nil _ (h2 x hx)
    have hk2 := left_in.1 hk
    have hall : ∀ m ∈ leftL yes [] x, m = n := fun m hmm => by
      have := left_in.1 hmm
      by_cases e : m = n
      · exact e
      · exact absurd (hm m this.1 e) this.2
    have hone : leftL yes [] x = [n] := by
      have hnd := hd x hx
      revert hk hall hnd
      generalize leftL yes [] x = z
      intro hk hall hnd
      match z, hk, hall, hnd with
      | [a], _, hall, _ => rw [hall a (by simp)]
      | a :: b :: r, _, hall, hnd =>
        have e1 := hall a (by simp)
        have e2 := hall b (by simp)
        rw [e1, e2] at hnd
        simp at hnd
    exact h3 x hx n hone
  · obtain ⟨x, hx, rfl⟩ := List.mem_map.1 hd2
    obtain ⟨k, hk⟩ := List.exists_mem_of_ne_nil _ (h2 x hx)
    have hk2 := left_in.1 hk
    exact ⟨k, hk2.1, hk2.2⟩
theorem left_nodup (yes : List Int) : ∀ (r pre : List Int), (leftL yes pre r).Nodup
  | [], _ => by simp [leftL]
  | m :: r, pre => by
    rw [leftL, List.nodup_append]
    refine ⟨by split <;> simp, left_nodup yes r _, fun a ha b hb => ?_⟩
    split at ha
    · rw [List.mem_singleton.1 ha]
      have := (left_mem yes r _ b).1 hb
      intro e
      rw [← e] at this
      exact this.2.2.1 (by simp)
    · cases ha
end
/-! what is kept while the answer goes on -/
theorem nodup_len16 : ∀ (l m : List Int), l.Nodup → (∀ x ∈ l, x ∈ m) → l.length ≤ m.length
  | [], m, _, _ => by simp
  | a :: l, m, hd, hs => by
    have ha := hs a (by simp)
    have h1 := nodup_len16 l (m.erase a) (List.nodup_cons.1 hd).2 (fun x hx => (List.mem_erase_of_ne (fun (e : x = a) => (List.nodup_cons.1 hd).1 (by rw [← e]; exact hx))).2 (hs x (List.mem_cons_of_mem _ hx)))
    rw [List.length_erase_of_mem ha] at h1
    have := List.length_pos_of_mem ha
    simp only [List.length_cons]
    omega
structure YI (l : List (List Int)) (c yes : List Int) : Prop where
  got : Got l c yes
  nod : yes.Nodup
  sub : ∀ n ∈ yes, n ∈ c.map (fun n => -n) ++ l.flatten
theorem YI.len {l : List (List Int)} {c yes : List Int} (h : YI l c yes) : yes.length ≤ c.length + l.flatten.length := by
  have := nodup_len16 yes _ h.nod h.sub
  rw [List.length_append, List.length_map] at this
  exact this
theorem YI.one {l : List (List Int)} {c yes x : List Int} {n : Int} (h : YI l c yes) (hx : x ∈ l) (h1 : leftL yes [] x = [n]) (hn : n ∉ yes) : YI l c (yes ++ [n]) := by
  refine ⟨left_one hx h.got h1, ?_, fun k hk => ?_⟩
  · rw [List.nodup_append]
    exact ⟨h.nod, by simp, fun a ha b hb e => hn (by rw [← List.mem_singleton.1 hb, ← e]; exact ha)⟩
  · rcases List.mem_append.1 hk with hk | hk
    · exact h.sub k hk
    · rw [List.mem_singleton.1 hk]
      have : n ∈ nz x := (left_in.1 (by rw [h1]; exact List.mem_singleton.2 rfl)).1
      rw [nz, List.mem_filter] at this
      exact List.mem_append.2 (.inr (List.mem_flatten.2 ⟨x, hx, this.1⟩))
/-- the first loop: the other ones of the clause's first literals -/
structure Y0 (c : List Int) (j : Nat) (yes : List Int) : Prop where
  mem : ∀ n, n ∈ yes ↔ Neg (c.take j) n
  nod : yes.Nodup
theorem Y0.begin (c : List Int) : Y0 c 0 [] := ⟨fun n => by simp [Neg, nz], by simp⟩
theorem neg_snoc {c : List Int} {j : Nat} {x : Int} (h : c[j]? = some x) (n : Int) : Neg (c.take (j + 1)) n ↔ Neg (c.take j) n ∨ (x ≠ 0 ∧ n = -x) := by
  unfold Neg nz
  rw [List.take_add_one, h, Option.toList_some, List.filter_append]
  constructor
  · rintro ⟨m, hm, rfl⟩
    rcases List.mem_append.1 hm with hm | hm
    · exact .inl ⟨m, hm, rfl⟩
    · rw [List.mem_filter, List.mem_singleton] at hm
      obtain ⟨rfl, h0⟩ := hm
      exact .inr ⟨by simpa using h0, rfl⟩
  · rintro (⟨m, hm, rfl⟩ | ⟨h0, rfl⟩)
    · exact ⟨m, List.mem_append.2 (.inl hm), rfl⟩
    · exact ⟨x, List.mem_append.2 (.inr (by rw [List.mem_filter, List.mem_singleton]; exact ⟨rfl, by simpa using h0⟩)), rfl⟩
theorem Y0.skip {c : List Int} {j : Nat} {yes : List Int} {x : Int} (h : Y0 c j yes) (hx : c[j]? = some x) (h0 : x = 0 ∨ -x ∈ yes) : Y0 c (j + 1) yes :=
  ⟨fun n => by
    rw [neg_snoc hx, ← h.mem]
    constructor
    · exact fun h => .inl h
    · rintro (h | ⟨h1, rfl⟩)
      · exact h
      · exact h0.elim (fun e => absurd e h1) id, h.nod⟩
theorem Y0.push {c : List Int} {j : Nat} {yes : List Int} {x : Int} (h : Y0 c j yes) (hx : c[j]? = some x) (h0 : x ≠ 0) (h1 : -x ∉ yes) : Y0 c (j + 1) (yes ++ [-x]) :=
  ⟨fun n => by
    rw [neg_snoc hx, ← h.mem, List.mem_append, List.mem_singleton]
    simp [h0], by
    rw [List.nodup_append]
    exact ⟨h.nod, by simp, fun a ha b hb e => h1 (by rw [← List.mem_singleton.1 hb, ← e]; exact ha)⟩⟩
theorem Y0.done {l : List (List Int)} {c yes : List Int} {j : Nat} (h : Y0 c j yes) (hj : c.length ≤ j) : YI l c yes ∧ ∀ n, Neg c n → n ∈ yes := by
  have ht : c.take j = c := List.take_of_length_le hj
  have hm := h.mem
  rw [ht] at hm
  refine ⟨⟨fun n hn => .base ((hm n).1 hn), h.nod, fun n hn => ?_⟩, fun n hn => (hm n).2 hn⟩
  obtain ⟨m, hm2, rfl⟩ := (hm n).1 hn
  rw [nz, List.mem_filter] at hm2
  exact List.mem_append.2 (.inl (List.mem_map.2 ⟨m, hm2.1, rfl⟩))
end Go.Proofs.Ytmiiclhhenepiaa
