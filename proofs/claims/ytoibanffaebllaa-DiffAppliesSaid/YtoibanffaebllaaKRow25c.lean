/-
  Layer 25: rows of pins, put together; the answer's Edits as mathematics. Own work.
-/
import Derived.Test.YtoibanffaebllaaKeys25
namespace Go.Proofs.Ytoibanffaebllaa
set_option linter.unusedVariables false
set_option linter.unusedSimpArgs false
open Go.RowKit

theorem rowN_app (l m : List Pn) : rowN (l ++ m) = rowN l ++ rowN m := by simp [rowN]
theorem rowN_one (l : List Pn) : ∀ u ∈ rowN l, u.oneCell' = true := fun u hu => by
  obtain ⟨k, _, hk⟩ := List.mem_flatMap.1 hu
  simp only [pnCells, List.mem_cons, List.not_mem_nil, or_false] at hk
  rcases hk with rfl | rfl | rfl | rfl | rfl | rfl <;> rfl
theorem RdN.flat {w : World} {a : Addr} {l : List Pn} (h : ∀ (i : Nat) p, l[i]? = some p → ∀ (c : Nat) u, (pnCells p)[c]? = some u → w.cell? (a.add (i * 6 + c)) = some u) : ∀ j u, (rowN l)[j]? = some u → w.cell? (a.add j) = some u := fun j u hu => by
  have hj := (List.getElem?_eq_some_iff.1 hu).1
  rw [rowN_len] at hj
  obtain ⟨p, hp⟩ : ∃ p, l[j / 6]? = some p := ⟨_, List.getElem?_eq_getElem (by omega)⟩
  have hc := rowN_at l (j / 6) (j % 6) p hp (by omega)
  rw [show j / 6 * 6 + j % 6 = j by omega, hu] at hc
  have := h (j / 6) p hp (j % 6) u hc.symm
  rwa [show j / 6 * 6 + j % 6 = j by omega] at this
/-- a row of one's own, or none yet -/
def OwnN (base : Nat) (w : World) (v : Value) (l : List Pn) : Prop := (l = [] ∧ ∃ a, v = .slice (some a) 0 0) ∨ w.ownsRow base 48 6 v l.length (rowN l)
theorem OwnN.rd {base : Nat} {w : World} {v : Value} {l : List Pn} (h : OwnN base w v l) : RdN w v l := by
  rcases h with ⟨rfl, a, rfl⟩ | h
  · exact .inr ⟨a, 0, rfl, Nat.le_refl _, by omega, fun i p hp => by simp at hp⟩
  · exact RdN.of_own h
theorem run_app_pins (base : Nat) (w : World) (ty : TypeId) (v1 v2 : Value) (l m : List Pn) (hbase : base ≤ w.heap.size) (h1 : OwnN base w v1 l) (h2 : RdN w v2 m) (hn : l.length + m.length ≤ 1000000) :
    ∃ v' w', (Builtin.append_ #[24, 24] ty #[v1, v2]).run Try.prog w = .ok v' w' ∧ OwnN base w' v' (l ++ m) ∧ Below base w w' := by
  obtain ⟨i, hi, hz, hs, hb⟩ := info_parts pn_info
  have ht := Try.underlying24
  by_cases hm : m = []
  · subst hm
    rw [List.append_nil]
    have hsrc : Src Try.prog i.size 24 v2 0 [] w := by
      rcases h2 with ⟨rfl, _⟩ | ⟨a, cap, rfl, _⟩
      · exact Src.ofNil w ht 0
      · exact Src.ofSlice w ht a 0 cap [] (by simp) (by simp) (by simp)
    rcases h1 with ⟨rfl, a, rfl⟩ | h1
    · exact ⟨_, w, run_append_nothing w _ _ ty _ i ht hi (some a) 0 0 (Nat.le_refl _) v2 hsrc, .inl ⟨rfl, a, rfl⟩, Below.refl _ _⟩
    · have h0 := h1
      obtain ⟨_, hc⟩ := h1
      rcases hc with ⟨rfl, hn0⟩ | ⟨g, cap, cur, rfl, _, _, hn1, _⟩
      · exact ⟨_, w, run_append_nothing w _ _ ty _ i ht hi none 0 0 (Nat.le_refl _) v2 hsrc, .inr h0, Below.refl _ _⟩
      · exact ⟨_, w, run_append_nothing w _ _ ty _ i ht hi _ _ _ hn1 v2 hsrc, .inr h0, Below.refl _ _⟩
  · have hmp : 0 < m.length := List.length_pos_iff.2 hm
    rcases h2 with ⟨_, h⟩ | ⟨a2, c2, rfl, _, _, hc2⟩
    · exact absurd h hm
    rcases h1 with ⟨rfl, a, rfl⟩ | h1
    · obtain ⟨v', w', hr, hown, hg⟩ := run_append_arg_grows w 24 ty _ i _ 6 88 ht hi hz hs hb rfl (by omega) a 0 0 [] rfl (by simp) a2 m.length c2 (rowN m) (rowN_len m) (RdN.flat hc2) (by omega) (by simp only [maxLen]; omega) (by omega)
      refine ⟨v', w', hr, .inr ?_, ⟨hg.os, hg.tape, hg.output, hg.size, fun k hk => hg.block k (by omega) (by simp)⟩⟩
      rw [List.nil_append]
      have h3 : w'.ownsRow w.heap.size 48 6 v' m.length (rowN m) := by simpa using hown
      obtain ⟨e1, e2⟩ := h3
      refine ⟨e1, ?_⟩
      rcases e2 with e2 | ⟨g, cap, cur, e3, e4, e5⟩
      · exact .inl e2
      · exact .inr ⟨g, cap, cur, e3, by omega, e5⟩
    · obtain ⟨g, cap, w', hr, hown, hg, hat, hlt⟩ := run_append_lies w 24 ty base _ i _ 6 88 ht hi hz hs hb rfl (by omega) v1 l.length (rowN l) h1 a2 m.length c2 (rowN m) (rowN_len m) (RdN.flat hc2) (rowN_one m) hmp (by simp only [maxLen]; omega) (by omega) hbase _ rfl
      refine ⟨_, w', hr, .inr (by rw [List.length_append, rowN_app]; exact hown), ⟨hg.os, hg.tape, hg.output, hg.size, fun k hk => hg.block k (by omega) (fun e => ?_)⟩⟩
      obtain ⟨_, hc⟩ := h1
      rcases hc with ⟨rfl, _⟩ | ⟨g', cap', cur', rfl, hg', _⟩
      · simp [Value.ownBlock] at e
      · simp [Value.ownBlock] at e
        omega
theorem wp_app_pins {o : Oper} {a : Act} {w : World} {K : Act → World → Prop} {Q : Exit → Act → World → Prop} (base : Nat) (s x : Operand)
    (ho : o.op = .call { callee := .builtin .append, args := #[s, x], argTypes := #[24, 24] }) (v1 v2 : Value) (hs : a.eval s = v1) (hx : a.eval x = v2) (l m : List Pn) (hbase : base ≤ w.heap.size) (h1 : OwnN base w v1 l) (h2 : RdN w v2 m) (hn : l.length + m.length ≤ 1000000)
    (h : ∀ v' w', OwnN base w' v' (l ++ m) → Below base w w' → K (a.put o.dst v') w') : o.wp Try.prog a w K Q := by
  obtain ⟨v', w', hr, hrd, hb⟩ := run_app_pins base w o.type v1 v2 l m hbase h1 h2 hn
  unfold Oper.wp execOp
  simp only [ho, resolve, invoke, builtin, Sem.run_bind, Sem.run_pure, Result.andThen_ok, List.map_toArray, List.map_cons, List.map_nil, hs, hx, hr]
  exact h v' w' hrd hb
/-! the answer's Edits -/
def edR (A B : List Pn) (k : K4) : Option Ed :=
  if ((findP k A).isSome != (findP k B).isSome) = true ∨ sameP ((findP k A).getD zP) ((findP k B).getD zP) = false then some ⟨k, (findP k A).isSome, (findP k B).isSome, (findP k A).getD zP, (findP k B).getD zP⟩ else none
def edsR (A B : List Pn) (keys : List K4) : List Ed := keys.filterMap (edR A B)
theorem findP_lk (k : K4) (l : List Pn) : findP k l = lk Pn.key k l := by
  unfold findP lk
  congr 1
  funext p
  rw [Bool.eq_iff_iff, sameK_eq, decide_eq_true_eq]
  exact ⟨fun h => by rw [h, kcmp_self], kcmp_zero⟩
theorem edR_key {A B : List Pn} {k : K4} {e : Ed} (h : edR A B k = some e) : e.key = k := by
  unfold edR at h
  split at h <;> cases h
  rfl
open Classical in
theorem edsR_lk (A B : List Pn) (q : K4) : ∀ keys : List K4, RisK keys → lk Ed.key q (edsR A B keys) = if q ∈ keys then edR A B q else none
  | [], _ => rfl
  | k :: keys, hr => by
    have hr' := List.pairwise_cons.1 hr
    have ih := edsR_lk A B q keys hr'.2
    have hnot : k ∉ keys := fun h => by have h2 : kcmp k k < 0 := hr'.1 k h; rw [kcmp_self] at h2; omega
    unfold edsR at ih ⊢
    rw [List.filterMap_cons]
    by_cases hq : k = q
    · subst hq
      rw [if_neg hnot] at ih
      rw [if_pos (by simp)]
      cases he : edR A B k with
      | none => simpa using ih
      | some e =>
        simp only
        rw [lk_cons, edR_key he, kcmp_self, if_pos rfl]
    · have hmem : (q ∈ k :: keys) ↔ q ∈ keys := by rw [List.mem_cons]; exact ⟨fun h => h.resolve_left (fun e => hq e.symm), .inr⟩
      simp only [hmem]
      cases he : edR A B k with
      | none => simpa using ih
      | some e =>
        simp only
        rw [lk_cons, edR_key he, if_neg (fun h => hq (kcmp_zero h))]
        exact ih
theorem edsR_ris (A B : List Pn) : ∀ keys : List K4, RisK keys → Ris Ed.key (edsR A B keys)
  | [], _ => List.Pairwise.nil
  | k :: keys, hr => by
    have hr' := List.pairwise_cons.1 hr
    have ih := edsR_ris A B keys hr'.2
    unfold edsR at ih ⊢
    rw [List.filterMap_cons]
    cases he : edR A B k with
    | none => exact ih
    | some e =>
      refine List.pairwise_cons.2 ⟨fun x hx => ?_, ih⟩
      obtain ⟨y, hy, hxy⟩ := List.mem_filterMap.1 hx
      rw [edR_key he, edR_key hxy]
      exact hr'.1 y hy
theorem edsR_edits {A B : List Pn} {keys : List K4} (hA : PinsOk A) (hB : PinsOk B) (hk : IsKeys (A ++ B) keys) : edsR A B keys = edits A B := by
  refine ris_ext (edsR_ris A B keys hk.1) (edits_ris hA hB) fun q => ?_
  rw [edsR_lk A B q keys hk.1]
  have hmem := hk.2.1 q
  have nA := fun p => lk_ne hA (q := q) (p := p)
  have nB := fun p => lk_ne hB (q := q) (p := p)
  rcases lk_edits hA hB q with ⟨h1, h2⟩ | ⟨h1, h2⟩
  · rw [h2]
    have : edR A B q = none := by
      unfold edR
      rw [findP_lk, findP_lk, h1, sameP_self]
      simp
    rw [this]; split <;> rfl
  · rw [h2]
    have hin : q ∈ keys := by
      rw [hmem]
      cases ha : lk Pn.key q A with
      | some p => exact ⟨p, List.mem_append_left _ (lk_some ha).2, (lk_some ha).1⟩
      | none =>
        cases hb : lk Pn.key q B with
        | some p => exact ⟨p, List.mem_append_right _ (lk_some hb).2, (lk_some hb).1⟩
        | none => rw [ha, hb] at h1; exact absurd rfl h1
    rw [if_pos hin]
    unfold edR
    rw [findP_lk, findP_lk, if_pos (.inr (isSome_getD_ne nA nB h1))]
end Go.Proofs.Ytoibanffaebllaa
