/-
  Layer 2: joining texts that stand side by side, on lists. Own work.
-/
import Derived.Test.YtldgjiohigiioaaBack2b
namespace Go.Proofs.Ytldgjiohigiioaa
set_option linter.unusedVariables false
set_option linter.unusedSimpArgs false
open Go.RowKit

def jn (acc : List Tm) (x : Tm) : List Tm :=
  if x.k = 4 ∧ x.t = [] then acc
  else match acc[acc.length - 1]? with
    | some y => if x.k = 4 ∧ y.k = 4 then acc.set (acc.length - 1) { y with t := y.t ++ x.t } else acc ++ [x]
    | none => acc ++ [x]
def joinM (l : List Tm) : List Tm := l.foldl jn []
theorem last_at (a : List Tm) (y : Tm) : (a ++ [y])[(a ++ [y]).length - 1]? = some y := by simp
theorem set_last (a : List Tm) (y z : Tm) : (a ++ [y]).set ((a ++ [y]).length - 1) z = a ++ [z] := by
  rw [show (a ++ [y]).length - 1 = a.length by simp, List.set_append_right _ _ (Nat.le_refl _), Nat.sub_self]
  rfl
theorem jn_skip {acc : List Tm} {x : Tm} (h : x.k = 4) (ht : x.t = []) : jn acc x = acc := by unfold jn; rw [if_pos ⟨h, ht⟩]
theorem jn_merge {a : List Tm} {x y : Tm} (h : x.k = 4) (ht : x.t ≠ []) (hy : y.k = 4) : jn (a ++ [y]) x = a ++ [{ y with t := y.t ++ x.t }] := by
  unfold jn
  rw [if_neg fun h => ht h.2, last_at]
  show ite _ _ _ = _
  rw [if_pos ⟨h, hy⟩, set_last]
theorem jn_push {a : List Tm} {x y : Tm} (h : ¬ (x.k = 4 ∧ x.t = [])) (hy : ¬ (x.k = 4 ∧ y.k = 4)) : jn (a ++ [y]) x = a ++ [y] ++ [x] := by
  unfold jn
  rw [if_neg h, last_at]
  show ite _ _ _ = _
  rw [if_neg hy]
theorem jn_nil {x : Tm} (h : ¬ (x.k = 4 ∧ x.t = [])) : jn [] x = [x] := by
  unfold jn
  rw [if_neg h]
  rfl
theorem prM_app (a b : List Tm) : prM (a ++ b) = prM a ++ prM b := by simp [prM]
theorem prM_one (x : Tm) : prM [x] = prT x.k x.n x.ats x.t := by simp [prM]
theorem pr_text {x : Tm} (h : x.k = 4) : prT x.k x.n x.ats x.t = escS false x.t := by rw [h]; rfl
theorem esc_app (a b : List UInt8) : escS false (a ++ b) = escS false a ++ escS false b := by simp [escS]
theorem nil_or (acc : List Tm) : acc = [] ∨ ∃ a y, acc = a ++ [y] := by
  rcases List.eq_nil_or_concat acc with h | ⟨a, y, h⟩
  · exact .inl h
  · exact .inr ⟨a, y, by simpa using h⟩
theorem jn_pr (acc : List Tm) (x : Tm) : prM (jn acc x) = prM acc ++ prT x.k x.n x.ats x.t := by
  by_cases h : x.k = 4 ∧ x.t = []
  · rw [jn_skip h.1 h.2, pr_text h.1, h.2]; simp [escS]
  · rcases nil_or acc with rfl | ⟨a, y, rfl⟩
    · rw [jn_nil h, prM_one]; rfl
    · by_cases hy : x.k = 4 ∧ y.k = 4
      · rw [jn_merge hy.1 (fun ht => h ⟨hy.1, ht⟩) hy.2, prM_app, prM_app, prM_one, prM_one, pr_text hy.1, pr_text hy.2, pr_text (x := { y with t := y.t ++ x.t }) hy.2, esc_app, List.append_assoc]
      · rw [jn_push h hy, prM_app, prM_one]
theorem fold_pr (l acc : List Tm) : prM (l.foldl jn acc) = prM acc ++ prM l := by
  induction l generalizing acc with
  | nil => simp [prM]
  | cons x l ih =>
    rw [List.foldl_cons, ih, jn_pr, List.append_assoc]
    rfl
theorem join_pr (l : List Tm) : prM (joinM l) = prM l := by
  unfold joinM
  rw [fold_pr]
  rfl
theorem nm_snoc {b : Bool} {a : List Tm} {x : Tm} (h : Nm b a) (hg : Gd (b && a.length == 0) x.k x.n x.ats x.t) (ht : x.k = 4 → x.t ≠ []) (hl : ∀ y, a[a.length - 1]? = some y → ¬ (y.k = 4 ∧ x.k = 4)) : Nm b (a ++ [x]) := by
  intro i y hy
  rcases Nat.lt_or_ge i a.length with hi | hi
  · rw [List.getElem?_append_left hi] at hy
    obtain ⟨h1, h2, h3⟩ := h i y hy
    refine ⟨h1, h2, fun z hz => ?_⟩
    rcases Nat.lt_or_ge (i + 1) a.length with hj | hj
    · rw [List.getElem?_append_left hj] at hz
      exact h3 z hz
    · obtain rfl : i = a.length - 1 := by omega
      rw [List.getElem?_append_right (by omega), show a.length - 1 + 1 - a.length = 0 by omega] at hz
      simp only [List.getElem?_cons_zero, Option.some.injEq] at hz
      subst hz
      exact hl y hy
  · have hi2 : i < (a ++ [x]).length := (List.getElem?_eq_some_iff.1 hy).1
    obtain rfl : i = a.length := by simp at hi2; omega
    rw [List.getElem?_append_right (Nat.le_refl _), Nat.sub_self] at hy
    simp only [List.getElem?_cons_zero, Option.some.injEq] at hy
    subst hy
    refine ⟨hg, ht, fun z hz => ?_⟩
    rw [List.getElem?_eq_none (by simp)] at hz
    simp at hz
theorem nm_init {b : Bool} {a : List Tm} {y : Tm} (h : Nm b (a ++ [y])) : Nm b a ∧ Gd (b && a.length == 0) y.k y.n y.ats y.t ∧ (y.k = 4 → y.t ≠ []) ∧ ∀ z, a[a.length - 1]? = some z → ¬ (z.k = 4 ∧ y.k = 4) := by
  have hlast : (a ++ [y])[a.length]? = some y := by simp
  refine ⟨fun i x hx => ?_, (h _ _ hlast).1, (h _ _ hlast).2.1, fun z hz => ?_⟩
  · have hi : i < a.length := (List.getElem?_eq_some_iff.1 hx).1
    obtain ⟨h1, h2, h3⟩ := h i x (by rw [List.getElem?_append_left hi]; exact hx)
    refine ⟨h1, h2, fun z hz => h3 z ?_⟩
    rw [List.getElem?_append_left (List.getElem?_eq_some_iff.1 hz).1]; exact hz
  · have hi : a.length - 1 < a.length := (List.getElem?_eq_some_iff.1 hz).1
    refine (h (a.length - 1) z (by rw [List.getElem?_append_left hi]; exact hz)).2.2 y ?_
    rw [show a.length - 1 + 1 = a.length by omega]; exact hlast
theorem jn_nm {acc : List Tm} {x : Tm} {b : Bool} (h : Nm true acc) (hx : Gd b x.k x.n x.ats x.t) (hb : b = true → acc = []) : Nm true (jn acc x) := by
  by_cases h4 : x.k = 4 ∧ x.t = []
  · rw [jn_skip h4.1 h4.2]; exact h
  · have hw : ∀ c, (b = true → c = true) → Gd c x.k x.n x.ats x.t := fun c hc => by
      rcases hx with h | h | ⟨h1, h2, h3, h4, h5, h6⟩ | h | h
      · exact .inl h
      · exact .inr (.inl h)
      · exact .inr (.inr (.inl ⟨h1, h2, h3, h4, h5, hc h6⟩))
      · exact .inr (.inr (.inr (.inl h)))
      · exact .inr (.inr (.inr (.inr h)))
    have ht : x.k = 4 → x.t ≠ [] := fun h1 h2 => h4 ⟨h1, h2⟩
    rcases nil_or acc with rfl | ⟨a, y, rfl⟩
    · rw [jn_nil h4]
      exact nm_snoc (a := []) h (hw _ fun _ => rfl) ht (by simp)
    · have hbf : b = false := by
        cases b with
        | false => rfl
        | true => exact absurd (hb rfl) (by simp)
      by_cases hy : x.k = 4 ∧ y.k = 4
      · rw [jn_merge hy.1 (ht hy.1) hy.2]
        obtain ⟨i1, i2, i3, i4⟩ := nm_init h
        refine nm_snoc i1 ?_ (fun _ he => i3 hy.2 ?_) i4
        · rcases i2 with g | ⟨g, _⟩ | ⟨g, _⟩ | ⟨g, _⟩ | ⟨g | g, _⟩
          · rcases hx with q | ⟨q, _⟩ | ⟨q, _⟩ | ⟨q, _⟩ | ⟨q | q, _⟩
            · exact .inl ⟨g.1, g.2.1, g.2.2.1, fun c hc => by
                rcases List.mem_append.1 hc with hc | hc
                · exact g.2.2.2 c hc
                · exact q.2.2.2 c hc⟩
            all_goals exact absurd (q.symm.trans hy.1) (by decide)
          all_goals exact absurd (g.symm.trans hy.2) (by decide)
        · have := congrArg List.length he
          simp only [List.length_append, List.length_nil] at this
          exact List.eq_nil_of_length_eq_zero (by omega)
      · rw [jn_push h4 hy]
        exact nm_snoc h (hw _ fun h => by rw [hbf] at h; simp at h) ht (fun z hz => by
          rw [last_at] at hz
          simp only [Option.some.injEq] at hz
          subst hz
          exact fun g => hy ⟨g.2, g.1⟩)
theorem fold_nm : ∀ (l acc : List Tm) (b : Bool), Nm true acc → (b = true → acc = []) → (∀ (i : Nat) x, l[i]? = some x → Gd (b && i == 0) x.k x.n x.ats x.t) → Nm true (l.foldl jn acc)
  | [], acc, b, h, _, _ => h
  | x :: l, acc, b, h, hb, hl => by
    have h0 : Gd b x.k x.n x.ats x.t := by simpa using hl 0 x rfl
    refine fold_nm l (jn acc x) false (jn_nm h h0 hb) (by simp) fun i y hy => ?_
    simpa using hl (i + 1) y (by simpa using hy)
theorem join_nm {l : List Tm} (hl : ∀ (i : Nat) x, l[i]? = some x → Gd (i == 0) x.k x.n x.ats x.t) : Nm true (joinM l) :=
  fold_nm l [] true (fun i x h => by simp at h) (fun _ => rfl) (fun i x h => by simpa using hl i x h)
/-- the tokens of a text, printed, are cut into the same, but that texts side by side are one -/
theorem back_all {l : List UInt8} {ts : List Tk} {r : List UInt8} (hl : l.length ≤ 2000) (h : allM l = .ok ts r) :
    ∃ us, allM (prM (ts.map (Tk.mem l))) = .ok us [] ∧ us.length = (joinM (ts.map (Tk.mem l))).length ∧ prM (us.map (Tk.mem (prM (ts.map (Tk.mem l))))) = prM (ts.map (Tk.mem l)) ∧
      (prM (ts.map (Tk.mem l))).length ≤ 12000 ∧ ∀ (i : Nat) x y, (us.map (Tk.mem (prM (ts.map (Tk.mem l)))))[i]? = some x → (joinM (ts.map (Tk.mem l)))[i]? = some y → x.k = y.k ∧ x.n = y.n ∧ x.ats = y.ats ∧ x.t = y.t := by
  obtain ⟨g1, g2⟩ := chain_gd ts (all_chain h) (Nat.le_refl _)
  have hN : Nm true (joinM (ts.map (Tk.mem l))) := join_nm fun i x hx => by
    rw [List.getElem?_map] at hx
    cases hc : ts[i]? with
    | none => rw [hc] at hx; simp at hx
    | some q =>
      rw [hc] at hx
      simp only [Option.map_some, Option.some.injEq] at hx
      subst hx
      have := g2 i q hc
      rw [show (decide (l.length = l.length) && i == 0) = (i == 0) by simp] at this
      exact this
  have hp := join_pr (ts.map (Tk.mem l))
  obtain ⟨us, i1, i2, i3⟩ := all_back hN (by rw [hp]; omega)
  rw [hp] at i1
  have i4 : ∀ (i : Nat) x y, (us.map (Tk.mem (prM (ts.map (Tk.mem l)))))[i]? = some x → (joinM (ts.map (Tk.mem l)))[i]? = some y → x.k = y.k ∧ x.n = y.n ∧ x.ats = y.ats ∧ x.t = y.t := fun i x y hx hy => by
    rw [List.getElem?_map] at hx
    cases hc : us[i]? with
    | none => rw [hc] at hx; simp at hx
    | some q =>
      rw [hc] at hx
      simp only [Option.map_some, Option.some.injEq] at hx
      subst hx
      exact i3 i q y hc hy
  refine ⟨us, i1, i2, ?_, by omega, i4⟩
  have alike : ∀ (A B : List Tm), A.length = B.length → (∀ (i : Nat) x y, A[i]? = some x → B[i]? = some y → x.k = y.k ∧ x.n = y.n ∧ x.ats = y.ats ∧ x.t = y.t) → prM A = prM B := by
    intro A
    induction A with
    | nil => intro B hB _; rw [List.eq_nil_of_length_eq_zero hB.symm]
    | cons a A ih =>
      intro B hB hS
      cases B with
      | nil => simp at hB
      | cons b B =>
        obtain ⟨q1, q2, q3, q4⟩ := hS 0 a b rfl rfl
        show prT a.k a.n a.ats a.t ++ prM A = prT b.k b.n b.ats b.t ++ prM B
        rw [q1, q2, q3, q4, ih B (by simpa using hB) fun i x y hx hy => hS (i + 1) x y (by simpa using hx) (by simpa using hy)]
  rw [alike _ _ (by rw [List.length_map]; exact i2) i4, hp]
end Go.Proofs.Ytldgjiohigiioaa
