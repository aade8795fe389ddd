/-
  Layer 29: step 6 by the places of all clauses. Own work.
-/
import Derived.Test.YtlcbfahaapodmaaLs29
namespace Go.Proofs.Ytlcbfahaapodmaa
set_option linter.unusedVariables false
set_option linter.unusedSimpArgs false

/-- the places of the clauses that are there -/
def aliveIx (L : Cs) (G : List Bool) : List Nat := (List.range L.length).filter fun i => !(G.getD i false)
theorem alive_ix : ∀ (L : Cs) (G : List Bool), G.length = L.length → alive L G = (aliveIx L G).map fun i => L.getD i []
  | [], _, _ => by simp [alive, aliveIx]
  | c :: L, [], h => by simp at h
  | c :: L, g :: G, h => by
    have ih := alive_ix L G (by simpa using h)
    unfold aliveIx at ih ⊢
    rw [List.length_cons, List.range_succ_eq_map, List.filter_cons, List.filter_map]
    have e2 : ((fun i => !((g :: G).getD i false)) ∘ Nat.succ) = fun i => !(G.getD i false) := by
      funext i
      simp [List.getD]
    have e3 : ((fun i => (c :: L).getD i []) ∘ Nat.succ) = fun i => L.getD i [] := by
      funext i
      simp [List.getD]
    rw [e2]
    cases g with
    | true =>
      rw [if_neg (by simp [List.getD]), List.map_map, e3]
      simpa [alive] using ih
    | false =>
      rw [if_pos (by simp [List.getD]), List.map_cons, List.map_map, e3]
      simp only [alive, Bool.false_eq_true, if_false]
      rw [ih]
      rfl
theorem aliveIx_up (L : Cs) (G : List Bool) : (aliveIx L G).Pairwise (· < ·) := (List.pairwise_lt_range).filter _
theorem aliveIx_mem {L : Cs} {G : List Bool} {i : Nat} : i ∈ aliveIx L G ↔ i < L.length ∧ G.getD i false = false := by
  unfold aliveIx
  rw [List.mem_filter, List.mem_range]
  simp
theorem aliveIx_set {L : Cs} {G : List Bool} {k : Nat} (hG : G.length = L.length) : aliveIx L (G.set k true) = (aliveIx L G).filter fun i => i != k := by
  unfold aliveIx
  rw [List.filter_filter]
  refine List.filter_congr fun i hi => ?_
  have hi2 := List.mem_range.1 hi
  by_cases hik : i = k
  · subst hik
    simp [List.getD, hG, hi2]
  · have : (i != k) = true := by simpa using hik
    rw [this, Bool.true_and, List.getD, List.getD, List.getElem?_set_ne (fun e => hik e.symm)]
theorem filter_ne_erase {k : Nat} : ∀ {p : List Nat}, p.Pairwise (· < ·) → ∀ x, p[x]? = some k → (p.filter fun i => i != k) = p.eraseIdx x
  | [], _, x, h => by simp at h
  | a :: p, hp, 0, h => by
    simp at h
    subst h
    have h1 := List.pairwise_cons.1 hp
    rw [List.filter_cons, if_neg (by simp), List.eraseIdx_cons_zero, List.filter_eq_self]
    intro b hb
    have := h1.1 b hb
    simp
    omega
  | a :: p, hp, x + 1, h => by
    have h1 := List.pairwise_cons.1 hp
    have hk : k ∈ p := List.mem_of_getElem? (by simpa using h)
    have := h1.1 k hk
    rw [List.filter_cons, if_pos (by simp; omega), List.eraseIdx_cons_succ, filter_ne_erase h1.2 x (by simpa using h)]
theorem up_lt {p : List Nat} (hp : p.Pairwise (· < ·)) {x y a b : Nat} (hx : p[x]? = some a) (hy : p[y]? = some b) : (x < y ↔ a < b) ∧ (x = y ↔ a = b) := by
  obtain ⟨h1, rfl⟩ := List.getElem?_eq_some_iff.1 hx
  obtain ⟨h2, rfl⟩ := List.getElem?_eq_some_iff.1 hy
  have hlt := List.pairwise_iff_getElem.1 hp
  rcases Nat.lt_trichotomy x y with h | h | h
  · have := hlt x y h1 h2 h
    omega
  · subst h; omega
  · have := hlt y x h2 h1 h
    omega
/-- clause number i covers clause number k -/
def coversW (S : Ws) (i k : Nat) : Bool := i != k && (decide ((S.L.getD i []).length < (S.L.getD k []).length) || decide (i < k)) && (S.L.getD i []).all fun n => decide (n ∈ S.L.getD k [])
theorem covers_ix {S : Ws} (hG : S.G.length = S.L.length) {x y i k : Nat} (hx : (aliveIx S.L S.G)[x]? = some i) (hy : (aliveIx S.L S.G)[y]? = some k) : covers (alive S.L S.G) x y = coversW S i k := by
  have e : ∀ z j, (aliveIx S.L S.G)[z]? = some j → (alive S.L S.G).getD z [] = S.L.getD j [] := fun z j hz => by
    rw [alive_ix _ _ hG, List.getD, List.getElem?_map, hz]; rfl
  obtain ⟨h1, h2⟩ := up_lt (aliveIx_up S.L S.G) hx hy
  unfold covers coversW
  rw [e x i hx, e y k hy]
  have e1 : (x != y) = (i != k) := by
    by_cases h : x = y
    · rw [(bne_eq_false_iff_eq).2 h, (bne_eq_false_iff_eq).2 (h2.1 h)]
    · have : i ≠ k := fun e => h (h2.2 e)
      rw [bne_iff_ne.2 h, bne_iff_ne.2 this]
  have e2 : decide (x < y) = decide (i < k) := by
    by_cases h : x < y
    · rw [decide_eq_true h, decide_eq_true (h1.1 h)]
    · rw [decide_eq_false h, decide_eq_false (fun e => h (h1.2 e))]
  rw [e1, e2]
/-- no pair -/
theorem covM_no {S : Ws} (hG : S.G.length = S.L.length) (h : ∀ i k, i ∈ aliveIx S.L S.G → k ∈ aliveIx S.L S.G → coversW S i k = false) : covM (alive S.L S.G) = none := by
  unfold covM
  rw [Option.map_eq_none_iff, List.find?_eq_none]
  intro q hq
  obtain ⟨x, hx, h3⟩ := List.mem_flatMap.1 hq
  obtain ⟨y, hy, rfl⟩ := List.mem_map.1 h3
  have hl : (alive S.L S.G).length = (aliveIx S.L S.G).length := by rw [alive_ix _ _ hG, List.length_map]
  have hx2 := List.mem_range.1 hx
  have hy2 := List.mem_range.1 hy
  rw [hl] at hx2 hy2
  rw [covers_ix hG (List.getElem?_eq_getElem hx2) (List.getElem?_eq_getElem hy2), h _ _ (List.getElem_mem _) (List.getElem_mem _)]
  simp
theorem range_split {n x : Nat} (h : x < n) : ∃ r, List.range n = List.range x ++ x :: r := by
  refine ⟨(List.range n).drop (x + 1), ?_⟩
  have h3 : List.drop x (List.range n) = x :: List.drop (x + 1) (List.range n) := by
    rw [List.drop_eq_getElem_cons (by simpa using h), List.getElem_range]
  have h2 := List.take_append_drop x (List.range n)
  rw [List.take_range, Nat.min_eq_left (by omega), h3] at h2
  exact h2.symm
theorem map_eraseIdx {α β : Type} (f : α → β) : ∀ (l : List α) (k : Nat), (l.eraseIdx k).map f = (l.map f).eraseIdx k
  | [], _ => by simp
  | a :: l, 0 => by simp
  | a :: l, k + 1 => by simp [map_eraseIdx f l k]
theorem find_pair {n x y : Nat} (f : Nat × Nat → Bool) (hx : x < n) (hy : y < n) (h : f (x, y) = true) (h1 : ∀ a, a < x → ∀ b, b < n → f (a, b) = false) (h2 : ∀ b, b < y → f (x, b) = false) :
    ((List.range n).flatMap fun i => (List.range n).map fun k => (i, k)).find? f = some (x, y) := by
  obtain ⟨r, hr⟩ := range_split hx
  obtain ⟨q, hq⟩ := range_split hy
  rw [List.find?_eq_some_iff_append]
  refine ⟨h, (List.range x).flatMap (fun i => (List.range n).map fun k => (i, k)) ++ (List.range y).map (fun k => (x, k)), q.map (fun k => (x, k)) ++ r.flatMap (fun i => (List.range n).map fun k => (i, k)), ?_, fun p hp => ?_⟩
  · have e : (List.range n).map (fun k => (x, k)) = (List.range y).map (fun k => (x, k)) ++ (x, y) :: q.map (fun k => (x, k)) := by
      rw [hq, List.map_append, List.map_cons]
    generalize hg : (fun i => (List.range n).map fun k => (i, k)) = g
    rw [hr, List.flatMap_append, List.flatMap_cons, ← hg]
    simp only
    rw [e]
    simp [List.append_assoc]
  · rcases List.mem_append.1 hp with hp | hp
    · obtain ⟨a, ha, hp2⟩ := List.mem_flatMap.1 hp
      obtain ⟨b, hb, rfl⟩ := List.mem_map.1 hp2
      rw [h1 a (List.mem_range.1 ha) b (List.mem_range.1 hb)]; rfl
    · obtain ⟨b, hb, rfl⟩ := List.mem_map.1 hp
      rw [h2 b (List.mem_range.1 hb)]; rfl
/-- the first pair -/
theorem covM_hit {S : Ws} (hG : S.G.length = S.L.length) {i k : Nat} (hi : i ∈ aliveIx S.L S.G) (hk : k ∈ aliveIx S.L S.G) (hc : coversW S i k = true) (h1 : ∀ j, j ∈ aliveIx S.L S.G → j < i → ∀ m, m ∈ aliveIx S.L S.G → coversW S j m = false)
    (h2 : ∀ m, m ∈ aliveIx S.L S.G → m < k → coversW S i m = false) : ∃ y, covM (alive S.L S.G) = some y ∧ (aliveIx S.L S.G)[y]? = some k := by
  obtain ⟨x0, hx0⟩ := List.getElem?_of_mem hi
  obtain ⟨y0, hy0⟩ := List.getElem?_of_mem hk
  have hl : (alive S.L S.G).length = (aliveIx S.L S.G).length := by rw [alive_ix _ _ hG, List.length_map]
  have hxl := (List.getElem?_eq_some_iff.1 hx0).1
  have hyl := (List.getElem?_eq_some_iff.1 hy0).1
  refine ⟨y0, ?_, hy0⟩
  unfold covM
  rw [hl, find_pair _ hxl hyl (by show covers _ x0 y0 = true; rw [covers_ix hG hx0 hy0]; exact hc) (fun a ha b hb => ?_) (fun b hb => ?_)]
  · rfl
  · have e1 := List.getElem?_eq_getElem (l := aliveIx S.L S.G) (i := a) (by omega)
    have e2 := List.getElem?_eq_getElem (l := aliveIx S.L S.G) (i := b) hb
    show covers _ a b = false
    rw [covers_ix hG e1 e2]
    exact h1 _ (List.getElem_mem _) ((up_lt (aliveIx_up S.L S.G) e1 hx0).1.1 ha) _ (List.getElem_mem _)
  · have e2 := List.getElem?_eq_getElem (l := aliveIx S.L S.G) (i := b) (by omega)
    show covers _ x0 b = false
    rw [covers_ix hG hx0 e2]
    exact h2 _ (List.getElem_mem _) ((up_lt (aliveIx_up S.L S.G) e2 hy0).1.1 hb)
/-- what is there behind step 6 -/
theorem alive_drop {S : Ws} (hG : S.G.length = S.L.length) {k y : Nat} (hy : (aliveIx S.L S.G)[y]? = some k) : alive S.L (S.G.set k true) = (alive S.L S.G).eraseIdx y := by
  rw [alive_ix _ _ (by simpa using hG), alive_ix _ _ hG, aliveIx_set hG, filter_ne_erase (aliveIx_up _ _) y hy, map_eraseIdx]
end Go.Proofs.Ytlcbfahaapodmaa
