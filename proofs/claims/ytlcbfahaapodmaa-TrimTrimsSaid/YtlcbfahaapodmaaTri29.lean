/-
  Layer 29: the mathematics of making a question smaller: the steps, all at once where the order is of no matter. Own work.
-/
import Derived.Test.YtlcbfahaapodmaaBase
namespace Go.Proofs.Ytlcbfahaapodmaa
set_option linter.unusedVariables false
set_option linter.unusedSimpArgs false

abbrev Cs := List (List Int)
/-- a clause with the first of each literal only -/
def dd (c : List Int) : List Int := c.foldl (fun a n => if n ∈ a then a else a ++ [n]) []
theorem dd_snoc (l : List Int) (n : Int) : dd (l ++ [n]) = if n ∈ dd l then dd l else dd l ++ [n] := by
  unfold dd; rw [List.foldl_append]; rfl
/-- an induction from the end of a row -/
theorem snoc_ind {α : Type} {P : List α → Prop} (h0 : P []) (h1 : ∀ l x, P l → P (l ++ [x])) (l : List α) : P l := by
  have : ∀ n (l : List α), l.length = n → P l := by
    intro n
    induction n with
    | zero => intro l hl; rw [List.eq_nil_of_length_eq_zero hl]; exact h0
    | succ n ih =>
      intro l hl
      have hne : l ≠ [] := by intro h; subst h; simp at hl
      rw [← List.dropLast_concat_getLast hne]
      exact h1 _ _ (ih _ (by rw [List.length_dropLast]; omega))
  exact this _ l rfl
theorem mem_dd (l : List Int) : ∀ n, n ∈ dd l ↔ n ∈ l := by
  induction l using snoc_ind with
  | h0 => simp [dd]
  | h1 l x ih =>
    intro n
    rw [dd_snoc]
    by_cases hx : x ∈ dd l
    · rw [if_pos hx, ih]
      have := (ih x).1 hx
      constructor
      · intro h; simp [h]
      · intro h
        rcases List.mem_append.1 h with h | h
        · exact h
        · simp at h; subst h; exact this
    · rw [if_neg hx]; simp [ih]
theorem nodup_dd (l : List Int) : (dd l).Nodup := by
  induction l using snoc_ind with
  | h0 => simp [dd]
  | h1 l x ih =>
    rw [dd_snoc]
    by_cases hx : x ∈ dd l
    · rw [if_pos hx]; exact ih
    · rw [if_neg hx]
      refine List.nodup_append.2 ⟨ih, by simp, fun a ha b hb => ?_⟩
      simp at hb
      subst hb
      intro e
      subst e
      exact hx ha
theorem dd_of_nodup (l : List Int) (h : l.Nodup) : dd l = l := by
  induction l using snoc_ind with
  | h0 => rfl
  | h1 l x ih =>
    have h2 := List.nodup_append.1 h
    rw [dd_snoc, ih h2.1, if_neg]
    intro hx
    exact h2.2.2 x hx x (by simp) rfl
theorem dd_len_le (l : List Int) : (dd l).length ≤ l.length := by
  induction l using snoc_ind with
  | h0 => simp [dd]
  | h1 l x ih =>
    rw [dd_snoc]
    split <;> simp <;> omega
theorem dd_len (l : List Int) : (dd l).length < l.length ↔ ¬ l.Nodup := by
  constructor
  · intro h hn
    rw [dd_of_nodup l hn] at h
    omega
  · intro hn
    induction l using snoc_ind with
    | h0 => exact absurd List.nodup_nil hn
    | h1 l x ih =>
      rw [dd_snoc]
      by_cases hl : l.Nodup
      · have hx : x ∈ l := by
          refine Classical.byContradiction fun hx => hn (List.nodup_append.2 ⟨hl, by simp, fun a ha b hb => ?_⟩)
          simp at hb
          subst hb
          intro e
          subst e
          exact hx ha
        rw [if_pos ((mem_dd l x).2 hx)]
        have := dd_len_le l
        simp
        omega
      · have := ih hl
        split <;> simp <;> omega
/-- has a literal and its opposite -/
def taut (c : List Int) : Bool := c.any fun n => decide (-n ∈ c)
/-- the clauses when n is fixed -/
def fixC (n : Int) (C : Cs) : Cs := (C.filter fun c => !decide (n ∈ c)).map fun c => c.filter fun x => x != -n
def unitM (C : Cs) : Option Int := (C.find? fun c => c.length == 1).bind List.head?
def hasL (C : Cs) (n : Int) : Bool := C.any fun c => decide (n ∈ c)
def loneM (vars : Nat) (C : Cs) : Option Int :=
  ((List.range vars).find? fun v => hasL C (v + 1 : Nat) != hasL C (-((v + 1 : Nat) : Int))).map fun v => if hasL C (v + 1 : Nat) then ((v + 1 : Nat) : Int) else -((v + 1 : Nat) : Int)
/-- all the literals of number i stand in number k, and k is the one to go -/
def covers (C : Cs) (i k : Nat) : Bool := i != k && (decide ((C.getD i []).length < (C.getD k []).length) || decide (i < k)) && (C.getD i []).all fun n => decide (n ∈ C.getD k [])
def covM (C : Cs) : Option Nat :=
  (((List.range C.length).flatMap fun i => (List.range C.length).map fun k => (i, k)).find? fun p => covers C p.1 p.2).map Prod.snd
structure TS where
  C : Cs
  fx : List Int := []
  sg : Nat := 0
  en : Bool := false
def stepM (vars : Nat) (s : TS) : Option TS :=
  if s.C.any (fun c => !decide c.Nodup) then some { s with C := s.C.map dd }
  else if s.C.any taut then some { s with C := s.C.filter fun c => !taut c }
  else if s.C.any (fun c => c.isEmpty) then some { s with C := [[]], en := true }
  else match unitM s.C with
    | some n => some { C := fixC n s.C, fx := s.fx ++ [n], sg := s.sg + 1, en := s.en }
    | none => match loneM vars s.C with
      | some n => some { s with C := fixC n s.C, fx := s.fx ++ [n] }
      | none => (covM s.C).map fun k => { s with C := s.C.eraseIdx k }
def runM (vars : Nat) : Nat → TS → TS
  | 0, s => s
  | f + 1, s => if s.en then s else match stepM vars s with
    | none => s
    | some s' => runM vars f s'
/-- what makes the steps end -/
def sizeC (C : Cs) : Nat := (C.map fun c => c.length + 1).sum
def sizeS (s : TS) : Nat := if s.en then 0 else sizeC s.C + 1
def trimM (vars : Nat) (C : Cs) : TS := runM vars (sizeC C + 1) { C := C }
example : ((trimM 4 [[1, 2], [-1], [2, 3], [2, 3, 4]]).C, (trimM 4 [[1, 2], [-1], [2, 3], [2, 3, 4]]).fx) = ([], [-1, 2]) := by decide +kernel

theorem sizeC_cons (c : List Int) (C : Cs) : sizeC (c :: C) = c.length + 1 + sizeC C := by simp [sizeC]
theorem sizeC_map_le (f : List Int → List Int) (hf : ∀ c, (f c).length ≤ c.length) (C : Cs) : sizeC (C.map f) ≤ sizeC C := by
  induction C with
  | nil => simp
  | cons c C ih =>
    have := hf c
    rw [List.map_cons, sizeC_cons, sizeC_cons]
    omega
theorem sizeC_map_lt (f : List Int → List Int) (hf : ∀ c, (f c).length ≤ c.length) (C : Cs) (h : ∃ c ∈ C, (f c).length < c.length) : sizeC (C.map f) < sizeC C := by
  induction C with
  | nil => simp at h
  | cons c C ih =>
    rw [List.map_cons, sizeC_cons, sizeC_cons]
    obtain ⟨d, hd, hl⟩ := h
    have h1 := hf c
    have h2 := sizeC_map_le f hf C
    rcases List.mem_cons.1 hd with rfl | hd
    · omega
    · have := ih ⟨d, hd, hl⟩
      omega
theorem sizeC_filter_le (p : List Int → Bool) (C : Cs) : sizeC (C.filter p) ≤ sizeC C := by
  induction C with
  | nil => simp
  | cons c C ih =>
    rw [List.filter_cons]
    split <;> simp only [sizeC_cons] <;> omega
theorem sizeC_filter_lt (p : List Int → Bool) (C : Cs) (h : ∃ c ∈ C, p c = false) : sizeC (C.filter p) < sizeC C := by
  induction C with
  | nil => simp at h
  | cons c C ih =>
    rw [List.filter_cons]
    obtain ⟨d, hd, hp⟩ := h
    have h2 := sizeC_filter_le p C
    by_cases hc : p c = true
    · rw [if_pos hc]
      simp only [sizeC_cons]
      rcases List.mem_cons.1 hd with rfl | hd
      · rw [hc] at hp; simp at hp
      · have := ih ⟨d, hd, hp⟩
        omega
    · rw [if_neg hc]
      simp only [sizeC_cons]
      omega
theorem fixC_lt (n : Int) (C : Cs) (h : hasL C n = true) : sizeC (fixC n C) < sizeC C := by
  unfold fixC
  have h1 := sizeC_map_le (fun c => c.filter fun x => x != -n) (fun c => List.length_filter_le _ _) (C.filter fun c => !decide (n ∈ c))
  have h2 : sizeC (C.filter fun c => !decide (n ∈ c)) < sizeC C := sizeC_filter_lt _ _ (by
    unfold hasL at h
    obtain ⟨c, hc, hn⟩ := List.any_eq_true.1 h
    exact ⟨c, hc, by simpa using hn⟩)
  omega
theorem erase_lt (C : Cs) (k : Nat) (hk : k < C.length) : sizeC (C.eraseIdx k) < sizeC C := by
  induction C generalizing k with
  | nil => simp at hk
  | cons c C ih =>
    cases k with
    | zero => simp [sizeC_cons]
    | succ k =>
      rw [List.eraseIdx_cons_succ, sizeC_cons, sizeC_cons]
      have := ih k (by simpa using hk)
      omega
theorem unitM_spec {C : Cs} {n : Int} (h : unitM C = some n) : [n] ∈ C := by
  unfold unitM at h
  cases hf : C.find? fun c => c.length == 1 with
  | none => rw [hf] at h; simp at h
  | some c =>
    rw [hf] at h
    have h1 := List.find?_some hf
    have h2 := List.mem_of_find?_eq_some hf
    match c, h1 with
    | [x], _ => simp at h; subst h; exact h2
theorem unitM_none {C : Cs} (h : unitM C = none) : ∀ c ∈ C, c.length ≠ 1 := by
  unfold unitM at h
  intro c hc hl
  cases hf : C.find? fun c => c.length == 1 with
  | none => exact absurd (List.find?_eq_none.1 hf c hc) (by simp [hl])
  | some d =>
    rw [hf] at h
    have h1 := List.find?_some hf
    match d, h1 with
    | [x], _ => simp at h
theorem loneM_spec {vars : Nat} {C : Cs} {n : Int} (h : loneM vars C = some n) : hasL C n = true ∧ hasL C (-n) = false ∧ n ≠ 0 ∧ n.natAbs ≤ vars := by
  unfold loneM at h
  cases hf : (List.range vars).find? fun v => hasL C (v + 1 : Nat) != hasL C (-((v + 1 : Nat) : Int)) with
  | none => rw [hf] at h; simp at h
  | some v =>
    rw [hf] at h
    have h1 := List.find?_some hf
    have h2 := List.mem_range.1 (List.mem_of_find?_eq_some hf)
    simp only [Option.map_some, Option.some.injEq] at h
    by_cases ha : hasL C ((v + 1 : Nat) : Int) = true
    · rw [if_pos ha] at h
      subst h
      refine ⟨ha, ?_, by omega, by omega⟩
      rw [ha] at h1
      simpa using h1
    · rw [if_neg ha] at h
      subst h
      have ha' : hasL C ((v + 1 : Nat) : Int) = false := by simpa using ha
      rw [ha'] at h1
      refine ⟨by simpa using h1, by rw [Int.neg_neg]; exact ha', by omega, by omega⟩
theorem covM_spec {C : Cs} {k : Nat} (h : covM C = some k) : ∃ i, i < C.length ∧ k < C.length ∧ covers C i k = true := by
  unfold covM at h
  cases hf : ((List.range C.length).flatMap fun i => (List.range C.length).map fun k => (i, k)).find? fun p => covers C p.1 p.2 with
  | none => rw [hf] at h; simp at h
  | some p =>
    rw [hf] at h
    simp only [Option.map_some, Option.some.injEq] at h
    subst h
    have h1 := List.find?_some hf
    have h2 := List.mem_of_find?_eq_some hf
    obtain ⟨i, hi, h3⟩ := List.mem_flatMap.1 h2
    obtain ⟨k, hk, h4⟩ := List.mem_map.1 h3
    subst h4
    exact ⟨i, List.mem_range.1 hi, List.mem_range.1 hk, h1⟩
theorem covM_none {C : Cs} (h : covM C = none) : ∀ i k, i < C.length → k < C.length → covers C i k = false := by
  unfold covM at h
  intro i k hi hk
  rw [Option.map_eq_none_iff, List.find?_eq_none] at h
  have := h (i, k) (List.mem_flatMap.2 ⟨i, List.mem_range.2 hi, List.mem_map.2 ⟨k, List.mem_range.2 hk, rfl⟩⟩)
  simpa using this
theorem stepM_lt {vars : Nat} {s s' : TS} (he : s.en = false) (h : stepM vars s = some s') : sizeS s' < sizeS s := by
  have h0 : sizeS s = sizeC s.C + 1 := by unfold sizeS; rw [he]; rfl
  unfold stepM at h
  split at h
  · next h1 =>
    simp only [Option.some.injEq] at h
    subst h
    have : sizeC (s.C.map dd) < sizeC s.C := sizeC_map_lt dd dd_len_le s.C (by
      obtain ⟨c, hc, hn⟩ := List.any_eq_true.1 h1
      exact ⟨c, hc, (dd_len c).2 (by simpa using hn)⟩)
    simp only [sizeS, he]
    simp
    exact this
  · split at h
    · next h1 =>
      simp only [Option.some.injEq] at h
      subst h
      have : sizeC (s.C.filter fun c => !taut c) < sizeC s.C := sizeC_filter_lt _ _ (by
        obtain ⟨c, hc, hn⟩ := List.any_eq_true.1 h1
        exact ⟨c, hc, by simp [hn]⟩)
      simp only [sizeS, he]
      simp
      exact this
    · split at h
      · simp only [Option.some.injEq] at h
        subst h
        rw [h0]
        simp [sizeS]
      · split at h
        · next n hu =>
          simp only [Option.some.injEq] at h
          subst h
          have := fixC_lt n s.C (List.any_eq_true.2 ⟨[n], unitM_spec hu, by simp⟩)
          simp only [sizeS, he]
          simp
          exact this
        · split at h
          · next n hu =>
            simp only [Option.some.injEq] at h
            subst h
            have := fixC_lt n s.C (loneM_spec hu).1
            simp only [sizeS, he]
            simp
            exact this
          · cases hc : covM s.C with
            | none => rw [hc] at h; simp at h
            | some k =>
              rw [hc] at h
              simp only [Option.map_some, Option.some.injEq] at h
              subst h
              obtain ⟨i, _, hk, _⟩ := covM_spec hc
              have := erase_lt s.C k hk
              simp only [sizeS, he]
              simp
              exact this
/-- where the steps end -/
def Done (vars : Nat) (s : TS) : Prop := s.en = true ∨ stepM vars s = none
inductive StepsM (vars : Nat) : TS → TS → Prop
  | refl (s) : StepsM vars s s
  | next (s t u) : s.en = false → stepM vars s = some t → StepsM vars t u → StepsM vars s u
theorem runM_steps (vars : Nat) : ∀ (f : Nat) (s : TS), sizeS s ≤ f → StepsM vars s (runM vars f s) ∧ Done vars (runM vars f s) := by
  intro f
  induction f with
  | zero =>
    intro s h
    unfold sizeS at h
    cases he : s.en with
    | true => exact ⟨.refl _, .inl he⟩
    | false => rw [he] at h; simp at h
  | succ f ih =>
    intro s h
    unfold runM
    cases he : s.en with
    | true => simp; exact ⟨.refl _, .inl he⟩
    | false =>
      simp only [Bool.false_eq_true, if_false]
      cases hs : stepM vars s with
      | none => exact ⟨.refl _, .inr hs⟩
      | some t =>
        have h1 := stepM_lt he hs
        obtain ⟨h2, h3⟩ := ih t (by omega)
        exact ⟨.next _ _ _ he hs h2, h3⟩
theorem steps_uniq {vars : Nat} {s t u : TS} (h1 : StepsM vars s t) (d1 : Done vars t) (h2 : StepsM vars s u) (d2 : Done vars u) : t = u := by
  induction h1 with
  | refl s =>
    cases h2 with
    | refl => rfl
    | next _ t _ he hs _ =>
      rcases d1 with d1 | d1
      · rw [d1] at he; simp at he
      · rw [d1] at hs; simp at hs
  | next s a t he hs _ ih =>
    cases h2 with
    | refl =>
      rcases d2 with d2 | d2
      · rw [d2] at he; simp at he
      · rw [d2] at hs; simp at hs
    | next _ b _ _ hs2 h2 =>
      rw [hs] at hs2
      simp only [Option.some.injEq] at hs2
      subst hs2
      exact ih d1 h2
theorem trimM_of {vars : Nat} {C : Cs} {t : TS} (h : StepsM vars { C := C } t) (d : Done vars t) : t = trimM vars C := by
  obtain ⟨h2, d2⟩ := runM_steps vars (sizeC C + 1) { C := C } (by simp [sizeS])
  exact steps_uniq h d h2 d2
end Go.Proofs.Ytlcbfahaapodmaa
