/-
  Layer 16: clauses that are watched by their first two literals: the mathematics. Own work.
-/
import Derived.Test.YtmiiclhhenepiaaDer16
namespace Go.Proofs.Ytmiiclhhenepiaa
set_option linter.unusedVariables false
set_option linter.unusedSimpArgs false

section
variable {α : Type} {ng : α → α} {L : List (List α)} {A T P B : α → Prop} {c r : List α} {a b x lit : α}
/-- a clause watched by its first two: where one of these is false, and that was gone on from (P), the other one is true -/
def Wp (ng : α → α) (P T : α → Prop) (c : List α) : Prop := c.Nodup ∧ ∃ a b r, c = a :: b :: r ∧ (P (ng a) → T b) ∧ (P (ng b) → T a)
/-- a clause with a literal that is true -/
def Sat1 (T : α → Prop) (c : List α) : Prop := ∃ m ∈ c, T m
theorem Wp.mono {T' : α → Prop} (h : Wp ng P T c) (hT : ∀ n, T n → T' n) : Wp ng P T' c := by
  obtain ⟨h0, a, b, r, rfl, h1, h2⟩ := h
  exact ⟨h0, a, b, r, rfl, fun h => hT _ (h1 h), fun h => hT _ (h2 h)⟩
/-- all was gone on from, nothing with its other one: then nothing more is derived, and nothing is false -/
theorem watched_shut (hc : ∀ n, T n → ¬ T (ng n)) (hw : ∀ c ∈ L, Wp ng T T c ∨ Sat1 T c) (hA : ∀ n, A n → T n) : Shut ng L A T ∧ ∀ c ∈ L, ∃ m ∈ c, ¬ T (ng m) := by
  refine ⟨⟨hA, fun c hcl n hn h => ?_⟩, fun c hcl => ?_⟩
  · rcases hw c hcl with ⟨hd, a, b, r, rfl, h1, h2⟩ | ⟨m, hm, ht⟩
    · have hab : a ≠ b := by
        intro e
        rw [e] at hd
        simp at hd
      by_cases ea : a = n
      · rw [← ea]
        exact h2 (h b (by simp) (fun e => hab (by rw [ea, e])))
      · have ta := h a (by simp) ea
        have tb := h1 ta
        by_cases eb : b = n
        · rw [← eb]; exact tb
        · exact absurd (h b (by simp) eb) (hc b tb)
    · by_cases e : m = n
      · rw [← e]; exact ht
      · exact absurd (h m hm e) (hc m ht)
  · rcases hw c hcl with ⟨hd, a, b, r, rfl, h1, h2⟩ | ⟨m, hm, ht⟩
    · by_cases ha : T (ng a)
      · exact ⟨b, by simp, hc b (h1 ha)⟩
      · exact ⟨a, by simp, ha⟩
    · exact ⟨m, hm, hc m ht⟩
theorem watched_no (hc : ∀ n, T n → ¬ T (ng n)) (hw : ∀ c ∈ L, Wp ng T T c ∨ Sat1 T c) (hA : ∀ n, A n → T n) : ¬ Conf ng L A := by
  obtain ⟨h1, h2⟩ := watched_shut hc hw hA
  exact no_conf h1 hc h2
/-- the first two in the other order -/
theorem Wp.swap (h : Wp ng P T (a :: b :: r)) : Wp ng P T (b :: a :: r) := by
  obtain ⟨h0, a', b', r', e, h1, h2⟩ := h
  cases e
  refine ⟨?_, _, _, _, rfl, h2, h1⟩
  exact (List.Perm.swap _ _ _).nodup h0
/-! going on from the literal that makes lit false: P with it -/
def And1 (P : α → Prop) (x : α) : α → Prop := fun n => P n ∨ n = x
/-- a clause that doesn't watch lit -/
theorem wp_other (hinv : ∀ n, ng (ng n) = n) (h : Wp ng P T (a :: b :: r)) (ha : a ≠ lit) (hb : b ≠ lit) : Wp ng (And1 P (ng lit)) T (a :: b :: r) := by
  obtain ⟨h0, a', b', r', e, h1, h2⟩ := h
  cases e
  have inj : ∀ {p q : α}, ng p = ng q → p = q := fun {p q} e => by rw [← hinv p, ← hinv q, e]
  exact ⟨h0, _, _, _, rfl, fun h => h.elim h1 (fun e => absurd (inj e) ha), fun h => h.elim h2 (fun e => absurd (inj e) hb)⟩
/-- the first one is true -/
theorem wp_true (hc : ∀ n, T n → ¬ T (ng n)) (hP : ∀ n, P n → T n) (hl : T (ng lit)) (hd : (a :: lit :: r).Nodup) (ha : T a) : Wp ng (And1 P (ng lit)) T (a :: lit :: r) :=
  ⟨hd, _, _, _, rfl, fun h => absurd (h.elim (hP _) (fun e => by rw [e]; exact hl)) (hc a ha), fun _ => ha⟩
/-- another one is watched -/
theorem wp_moved (hinv : ∀ n, ng (ng n) = n) (hc : ∀ n, T n → ¬ T (ng n)) (hP : ∀ n, P n → T n) (hl : T (ng lit)) (h : Wp ng P T (a :: lit :: r)) (hx : ¬ T (ng x)) {r' : List α} (hd : (a :: x :: r').Nodup) : Wp ng (And1 P (ng lit)) T (a :: x :: r') := by
  obtain ⟨h0, a', b', s, e, h1, h2⟩ := h
  cases e
  refine ⟨hd, _, _, _, rfl, fun h => ?_, fun h => absurd (h.elim (hP _) (fun e => by rw [e]; exact hl)) hx⟩
  rcases h with h | h
  · exact absurd hl (hc _ (h1 h))
  · have : a = lit := by rw [← hinv a, ← hinv lit, h]
    rw [this] at h0
    simp at h0
/-- it alone is left -/
theorem wp_unit (hP : ∀ n, P n → T n) (hl : T (ng lit)) (hd : (a :: lit :: r).Nodup) (ha : ¬ T (ng a)) : Wp ng (And1 P (ng lit)) (And1 T a) (a :: lit :: r) :=
  ⟨hd, _, _, _, rfl, fun h => absurd (h.elim (hP _) (fun e => by rw [e]; exact hl)) ha, fun _ => .inr rfl⟩
/-- what is left alone is derived; where it is false, there is a conflict -/
theorem unit_der {D : α → Prop} (hT : ∀ n, T n → Der ng L D n) (hcl : ∃ c ∈ L, ∀ m, m ∈ c ↔ m ∈ a :: lit :: r) (hl : T (ng lit)) (hr : ∀ m ∈ r, T (ng m)) : Der ng L D a := by
  obtain ⟨c, hc, he⟩ := hcl
  refine .unit hc ((he a).2 (by simp)) fun m hm hne => ?_
  rcases List.mem_cons.1 ((he m).1 hm) with e | h
  · exact absurd e hne
  · rcases List.mem_cons.1 h with e | h
    · rw [e]; exact hT _ hl
    · exact hT _ (hr m h)
theorem unit_conf {D : α → Prop} (hT : ∀ n, T n → Der ng L D n) (hcl : ∃ c ∈ L, ∀ m, m ∈ c ↔ m ∈ a :: lit :: r) (hl : T (ng lit)) (hr : ∀ m ∈ r, T (ng m)) (ha : T (ng a)) : Conf ng L D := by
  obtain ⟨c, hc, he⟩ := hcl
  refine .inr ⟨c, hc, fun m hm => ?_⟩
  rcases List.mem_cons.1 ((he m).1 hm) with e | h
  · rw [e]; exact hT _ ha
  · rcases List.mem_cons.1 h with e | h
    · rw [e]; exact hT _ hl
    · exact hT _ (hr m h)
/-! what the watched literals tell of the clauses' own literals (B), while more is taken for a time (T) -/
theorem base_moved (hB : ∀ n, B n → T n) (hc : ∀ n, T n → ¬ T (ng n)) (hl : T (ng lit)) (h : Wp ng B B (a :: lit :: r)) (hx : ¬ T (ng x)) {r' : List α} (hd : (a :: x :: r').Nodup) : Wp ng B B (a :: x :: r') := by
  obtain ⟨h0, a', b', s, e, h1, h2⟩ := h
  cases e
  exact ⟨hd, _, _, _, rfl, fun h => absurd hl (hc _ (hB _ (h1 h))), fun h => absurd (hB _ h) hx⟩
end
end Go.Proofs.Ytmiiclhhenepiaa
