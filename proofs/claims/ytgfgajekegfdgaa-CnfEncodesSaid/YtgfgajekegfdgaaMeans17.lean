/-
  Layer 17: what the clauses of a deal's question say, in mathematics: truths make them all true just if the items that are true are right. Own work.
-/
import Derived.Test.YtgfgajekegfdgaaRight17
import Derived.Test.YtgfgajekegfdgaaHold21
import Derived.Test.YtgfgajekegfdgaaTaken17
namespace Go.Proofs.Ytgfgajekegfdgaa
set_option linter.unusedVariables false
set_option linter.unusedSimpArgs false
open Go.RowKit

theorem lit_pos {ts : List Bool} {x : Int} (h : 0 ≤ x) : trueB (x + 1) ts = true ↔ alw ts x.toNat := by
  rw [trueB_pos _ _ (by omega), show (x + 1 - 1) = x by omega, List.getD_eq_getElem?_getD]
  unfold alw
  cases ts[x.toNat]? <;> simp
theorem lit_neg {ts : List Bool} {i : Nat} : trueB (-((i : Int) + 1)) ts = true ↔ ¬ alw ts i := by
  rw [trueB_neg _ _ (by omega), show (-(-((i : Int) + 1)) - 1).toNat = i by omega, List.getD_eq_getElem?_getD]
  unfold alw
  cases ts[i]? <;> simp
theorem any_root {ts : List Bool} {x : Int} (h : 0 ≤ x) : anyT ts [x + 1] = true ↔ alw ts x.toNat := by
  rw [← lit_pos h]; unfold anyT; simp
theorem any_want {ts : List Bool} {i : Nat} {w : List Int} (h : ∀ x ∈ w, 0 ≤ x) : anyT ts (clsW i w) = true ↔ (¬ alw ts i ∨ ∃ x ∈ w, alw ts x.toNat) := by
  unfold anyT clsW
  rw [List.any_cons, Bool.or_eq_true, lit_neg, List.any_map, List.any_eq_true]
  constructor
  · rintro (h1 | ⟨x, hx, h1⟩)
    · exact .inl h1
    · exact .inr ⟨x, hx, (lit_pos (h x hx)).1 h1⟩
  · rintro (h1 | ⟨x, hx, h1⟩)
    · exact .inl h1
    · exact .inr ⟨x, hx, (lit_pos (h x hx)).2 h1⟩
theorem any_pair {ts : List Bool} {i k : Nat} : anyT ts (pairC i k) = true ↔ (¬ alw ts i ∨ ¬ alw ts k) := by
  unfold anyT pairC
  rw [List.any_cons, Bool.or_eq_true, lit_neg, List.any_cons, Bool.or_eq_true, lit_neg]
  simp
theorem clsTo_mem {W : List (List (List Int))} {k i : Nat} {ws : List (List Int)} {w : List Int} (hi : i < k) (hw : W[i]? = some ws) (h : w ∈ ws) : clsW i w ∈ clsTo W k := by
  unfold clsTo
  refine List.mem_flatMap.2 ⟨i, List.mem_range.2 hi, ?_⟩
  rw [List.getD_eq_getElem?_getD, hw]
  exact List.mem_map.2 ⟨w, h, rfl⟩
theorem alTo_mem {its : List It} {k i j : Nat} (hi : i < k) (hij : i < j) (hj : j < its.length) (hs : sameAt its i j = true) : pairC i j ∈ alTo its k := by
  unfold alTo
  refine List.mem_flatMap.2 ⟨i, List.mem_range.2 hi, ?_⟩
  unfold alI
  refine List.mem_flatMap.2 ⟨j, List.mem_range.2 hj, ?_⟩
  rw [if_pos (by rw [hs]; simp [hij])]
  exact List.mem_singleton.2 rfl
theorem wants_pos {d : Dl} (hm : mayD d = 0) {i : Nat} {ws : List (List Int)} {w : List Int} (hw : d.ws[i]? = some ws) (h : w ∈ ws) : ∀ x ∈ w, 0 ≤ x ∧ x < d.its.length := by
  obtain ⟨-, -, -, h3⟩ := mayD_zero hm
  intro x hx
  have h1 := List.all_eq_true.1 h3 ws (List.mem_of_getElem? hw)
  have h2 := List.all_eq_true.1 h1 w h
  exact inB_iff.1 (List.all_eq_true.1 h2 x hx)
/-- All clauses are true. -/
theorem all_true {d : Dl} {ts : List Bool} (hm : mayD d = 0) : (∀ c ∈ encL d, anyT ts c = true) ↔
    (alw ts d.root.toNat ∧ (∀ (i : Nat) ws w, d.ws[i]? = some ws → w ∈ ws → alw ts i → ∃ x ∈ w, alw ts x.toNat) ∧ ∀ i j : Nat, i < j → j < d.its.length → sameAt d.its i j = true → alw ts i → ¬ alw ts j) := by
  obtain ⟨-, ⟨hr0, hr1⟩, hlen, -⟩ := mayD_zero hm
  constructor
  · intro h
    refine ⟨(any_root hr0).1 (h _ (List.mem_cons_self ..)), ?_, ?_⟩
    · intro i ws w hw hmem ha
      have hi : i < d.ws.length := (List.getElem?_eq_some_iff.1 hw).1
      have h1 := h (clsW i w) (List.mem_cons_of_mem _ (List.mem_append.2 (.inl (clsTo_mem hi hw hmem))))
      rcases (any_want fun x hx => (wants_pos hm hw hmem x hx).1).1 h1 with h2 | h2
      · exact absurd ha h2
      · exact h2
    · intro i j hij hj hs ha
      have h1 := h (pairC i j) (List.mem_cons_of_mem _ (List.mem_append.2 (.inr (alTo_mem (by omega) hij hj hs))))
      rcases any_pair.1 h1 with h2 | h2
      · exact absurd ha h2
      · exact h2
  · rintro ⟨h1, h2, h3⟩ c hc
    rcases List.mem_cons.1 hc with rfl | hc
    · exact (any_root hr0).2 h1
    rcases List.mem_append.1 hc with hc | hc
    · obtain ⟨i, ws, w, hi, hw, hmem, rfl⟩ := mem_clsTo hc
      refine (any_want fun x hx => (wants_pos hm hw hmem x hx).1).2 ?_
      by_cases ha : alw ts i
      · exact .inr (h2 i ws w hw hmem ha)
      · exact .inl ha
    · obtain ⟨i, j, hi, hij, hj, hs, rfl⟩ := mem_alTo hc
      refine any_pair.2 ?_
      by_cases ha : alw ts i
      · exact .inr (h3 i j hij hj hs ha)
      · exact .inl ha
theorem hasB_iff {l : List Int} {n : Int} : hasB l n = true ↔ n ∈ l := by
  unfold hasB
  rw [List.any_eq_true]
  constructor
  · rintro ⟨x, hx, he⟩; rw [← eq_of_beq he]; exact hx
  · intro h; exact ⟨n, h, by simp⟩
/-- Numbers of items are right. -/
theorem right_iff {d : Dl} {tk : List Int} (hm : mayD d = 0) : rightB d tk = true ↔
    (d.root ∈ tk ∧ (∀ n ∈ tk, 0 ≤ n ∧ n < d.its.length) ∧ (∀ a ∈ tk, ∀ b ∈ tk, sameN d a b = true → a = b) ∧ ∀ n ∈ tk, ∀ w ∈ d.ws.getD n.toNat [], ∃ x ∈ w, x ∈ tk) := by
  unfold rightB fulf
  rw [Bool.and_eq_true, Bool.and_eq_true, Bool.and_eq_true, Bool.and_eq_true, hasB_iff, List.all_eq_true, List.all_eq_true]
  constructor
  · rintro ⟨-, h1, h2, h3, h4⟩
    refine ⟨h1, fun n hn => inB_iff.1 (h2 n hn), fun a ha b hb hs => pairs_at h3 ha hb hs, fun n hn w hw => ?_⟩
    have h5 := List.all_eq_true.1 (h4 n hn) w hw
    obtain ⟨x, hx, h6⟩ := List.any_eq_true.1 h5
    exact ⟨x, hx, hasB_iff.1 h6⟩
  · rintro ⟨h1, h2, h3, h4⟩
    refine ⟨by simp [hm], h1, fun n hn => inB_iff.2 (h2 n hn), pairs_mk h3, fun n hn => List.all_eq_true.2 fun w hw => ?_⟩
    obtain ⟨x, hx, h6⟩ := h4 n hn w hw
    exact List.any_eq_true.2 ⟨x, hx, hasB_iff.2 h6⟩
theorem idxs_all {ts : List Bool} {N : Nat} {n : Int} : n ∈ idxs ts N ↔ 0 ≤ n ∧ n < N ∧ alw ts n.toNat := by
  rw [mem_idxs]
  constructor
  · rintro ⟨i, hi, ha, rfl⟩; exact ⟨by omega, by omega, ha⟩
  · rintro ⟨h0, h1, ha⟩; exact ⟨n.toNat, by omega, ha, by omega⟩
theorem ws_at {d : Dl} (hm : mayD d = 0) {n : Int} (h0 : 0 ≤ n) (h1 : n < d.its.length) : ∃ ws, d.ws[n.toNat]? = some ws ∧ d.ws.getD n.toNat [] = ws := by
  obtain ⟨-, -, hlen, -⟩ := mayD_zero hm
  have hl : n.toNat < d.ws.length := by omega
  exact ⟨_, List.getElem?_eq_getElem hl, by rw [List.getD_eq_getElem?_getD, List.getElem?_eq_getElem hl]; rfl⟩
/-- P17.4: truths make all clauses true just if the items that are true are right. -/
theorem means17 {d : Dl} {ts : List Bool} (hm : mayD d = 0) : (∀ c ∈ encL d, anyT ts c = true) ↔ rightB d (idxs ts d.its.length) = true := by
  rw [all_true hm, right_iff hm]
  obtain ⟨-, ⟨hr0, hr1⟩, hlen, -⟩ := mayD_zero hm
  constructor
  · rintro ⟨h1, h2, h3⟩
    refine ⟨idxs_all.2 ⟨hr0, hr1, h1⟩, fun n hn => ⟨(idxs_all.1 hn).1, (idxs_all.1 hn).2.1⟩, ?_, ?_⟩
    · intro a ha b hb hs
      obtain ⟨a0, a1, a2⟩ := idxs_all.1 ha
      obtain ⟨b0, b1, b2⟩ := idxs_all.1 hb
      rcases Nat.lt_trichotomy a.toNat b.toNat with h | h | h
      · exact absurd b2 (h3 a.toNat b.toNat h (by omega) hs a2)
      · omega
      · exact absurd a2 (h3 b.toNat a.toNat h (by omega) (by rw [sameN_comm] at hs; exact hs) b2)
    · intro n hn w hw
      obtain ⟨n0, n1, n2⟩ := idxs_all.1 hn
      obtain ⟨ws, hws, he⟩ := ws_at hm n0 n1
      rw [he] at hw
      obtain ⟨x, hx, ha⟩ := h2 n.toNat ws w hws hw n2
      have hp := wants_pos hm hws hw x hx
      exact ⟨x, hx, idxs_all.2 ⟨hp.1, hp.2, ha⟩⟩
  · rintro ⟨h1, h2, h3, h4⟩
    refine ⟨(idxs_all.1 h1).2.2, ?_, ?_⟩
    · intro i ws w hws hw ha
      have hi : i < d.ws.length := (List.getElem?_eq_some_iff.1 hws).1
      obtain ⟨x, hx, h5⟩ := h4 (i : Nat) (idxs_all.2 ⟨by omega, by omega, by simpa using ha⟩) w (by rw [Int.toNat_natCast, List.getD_eq_getElem?_getD, hws]; exact hw)
      exact ⟨x, hx, (idxs_all.1 h5).2.2⟩
    · intro i j hij hj hs ha hb
      have := h3 (i : Nat) (idxs_all.2 ⟨by omega, by omega, by simpa using ha⟩) (j : Nat) (idxs_all.2 ⟨by omega, by omega, by simpa using hb⟩) hs
      omega
end Go.Proofs.Ytgfgajekegfdgaa
