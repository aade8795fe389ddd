/-
  Layer 8: texts expanded again, side by side, without known names: the mathematics. Own work.
-/
import Derived.Test.YthfholnnkdoagaaPq8
namespace Go.Proofs.Ythfholnnkdoagaa
set_option linter.unusedVariables false
set_option linter.unusedSimpArgs false

theorem addM_too {owner out piece : List UInt8} {D : List Pp} {k : List UInt8 → Xp} (h : 4096 < out.length + piece.length) : addM owner out piece D k = .bad 2 owner D := by
  unfold addM; rw [if_pos h]
theorem addM_fit {owner out piece : List UInt8} {D : List Pp} {k : List UInt8 → Xp} (h : ¬ 4096 < out.length + piece.length) : addM owner out piece D k = k (out ++ piece) := by
  unfold addM; rw [if_neg h]
/-- what stands in a row's beginning -/
def Pre (A B : List Pp) : Prop := ∃ X, B = A ++ X
theorem Pre.refl (A : List Pp) : Pre A A := ⟨[], by simp⟩
theorem Pre.trans {A B C : List Pp} (h : Pre A B) (h' : Pre B C) : Pre A C := by
  obtain ⟨X, rfl⟩ := h
  obtain ⟨Y, rfl⟩ := h'
  exact ⟨X ++ Y, by simp⟩
theorem Pre.get {A B : List Pp} (h : Pre A B) {n v : List UInt8} (hg : getM A n = some v) : getM B n = some v := by
  obtain ⟨X, rfl⟩ := h
  rw [get_app, hg]
  rfl
theorem text_pre {U : List Pp} {k : Nat} {way : List (List UInt8)} {known : List UInt8 → Bool} {owner : List UInt8} (g : Nat) (out s : List UInt8) (D : List Pp) : Pre D (textM8 (fun m D' => valueM8 U k way m D') known owner g out s D).D :=
  text_D (P := Pre D) (fun n D1 _ h => by
    obtain ⟨X, hX⟩ := h
    obtain ⟨Y, hY⟩ := value_more U D k way n D1 ⟨X, hX⟩
    exact ⟨Y, hY⟩) g out s D (Pre.refl D)
theorem value_pre (U : List Pp) (k : Nat) (way : List (List UInt8)) (n : List UInt8) (D : List Pp) : Pre D (valueM8 U k way n D).D := value_more U D k way n D ⟨[], by simp⟩
/-- an answer is no shorter than what was there -/
theorem text_grow {val : List UInt8 → List Pp → Xp} {known : List UInt8 → Bool} {owner : List UInt8} : ∀ (g : Nat) {out s v : List UInt8} {D D' : List Pp}, textM8 val known owner g out s D = .ok v D' → out.length ≤ v.length
  | 0, _, _, _, _, _, h => by cases h
  | g + 1, out, s, v, D, D', h => by
    rw [textM8] at h
    have add_ok : ∀ {o p : List UInt8} {D1 : List Pp} {k : List UInt8 → Xp}, addM owner o p D1 k = .ok v D' → k (o ++ p) = .ok v D' := fun {o p D1 k} h => by
      unfold addM at h
      split at h
      · cases h
      · exact h
    split at h
    · have h2 := add_ok h
      cases h2
      rw [List.length_append]; omega
    · have h2 := add_ok h
      split at h2
      · revert h2
        generalize val _ D = x
        intro h2
        cases x with
        | bad e m D2 => cases h2
        | ok u D2 =>
          simp only [Xp.bind] at h2
          have := text_grow g (add_ok h2)
          simp only [List.length_append] at this
          omega
      · have := text_grow g (add_ok h2)
        simp only [List.length_append] at this
        omega
section
variable {U : List Pp} {k : Nat} {way : List (List UInt8)} {owner : List UInt8}
/-- a value that was answered is answered again; an error is met again -/
def Again (U : List Pp) (k : Nat) (way : List (List UInt8)) : Prop :=
  ∀ (n : List UInt8) (D : List Pp), (getM U n).isSome = true → Q8 U way D →
    (∀ v D', valueM8 U k way n D = .ok v D' → ∀ D2, Q8 U way D2 → Pre D' D2 → valueM8 U k way n D2 = .ok v D2) ∧
    (∀ e m D', valueM8 U k way n D = .bad e m D' → valueM8 U k way n D' = .bad e m D')
theorem text_again (H : Again U k way) (pre : List UInt8) : ∀ (g : Nat) (out s : List UInt8) (D : List Pp), Q8 U way D →
    (∀ v D', textM8 (fun m D' => valueM8 U k way m D') (fun m => (getM U m).isSome) owner g out s D = .ok v D' → ∀ D2, Q8 U way D2 → Pre D' D2 →
      textM8 (fun m D' => valueM8 U k way m D') (fun m => (getM U m).isSome) owner g (pre ++ out) s D2 = if 4096 < pre.length + v.length then .bad 2 owner D2 else .ok (pre ++ v) D2) ∧
    (∀ e m D', textM8 (fun m D' => valueM8 U k way m D') (fun m => (getM U m).isSome) owner g out s D = .bad e m D' →
      textM8 (fun m D' => valueM8 U k way m D') (fun m => (getM U m).isSome) owner g (pre ++ out) s D' = .bad e m D' ∨ (pre ≠ [] ∧ textM8 (fun m D' => valueM8 U k way m D') (fun m => (getM U m).isSome) owner g (pre ++ out) s D' = .bad 2 owner D'))
  | 0, out, s, D, _ => ⟨fun v D' h => (by cases h), fun e m D' h => (by cases h; exact .inl rfl)⟩
  | g + 1, out, s, D, hq => by
    -- one more piece that fits without what stands ahead
    have key : ∀ (o p : List UInt8) (D1 : List Pp) (kk : List UInt8 → List Pp → Xp),
        (¬ 4096 < o.length + p.length →
          (∀ v D', kk (o ++ p) D1 = .ok v D' → (o ++ p).length ≤ v.length ∧ ∀ D2, Q8 U way D2 → Pre D' D2 → (pre ++ (o ++ p)).length ≤ 4096 → kk (pre ++ (o ++ p)) D2 = if 4096 < pre.length + v.length then .bad 2 owner D2 else .ok (pre ++ v) D2) ∧
          (∀ e m D', kk (o ++ p) D1 = .bad e m D' → kk (pre ++ (o ++ p)) D' = .bad e m D' ∨ (pre ≠ [] ∧ kk (pre ++ (o ++ p)) D' = .bad 2 owner D'))) →
        (∀ v D', addM owner o p D1 (fun z => kk z D1) = .ok v D' → (o ++ p).length ≤ v.length ∧ ∀ D2, Q8 U way D2 → Pre D' D2 → addM owner (pre ++ o) p D2 (fun z => kk z D2) = if 4096 < pre.length + v.length then .bad 2 owner D2 else .ok (pre ++ v) D2) ∧
        (∀ e m D', addM owner o p D1 (fun z => kk z D1) = .bad e m D' → addM owner (pre ++ o) p D' (fun z => kk z D') = .bad e m D' ∨ (pre ≠ [] ∧ addM owner (pre ++ o) p D' (fun z => kk z D') = .bad 2 owner D')) := by
      intro o p D1 kk hk
      by_cases hs : 4096 < o.length + p.length
      · rw [addM_too hs]
        refine ⟨fun v D' h => (by cases h), fun e m D' h => ?_⟩
        cases h
        left
        rw [addM_too (by rw [List.length_append]; omega)]
      · obtain ⟨h1, h2⟩ := hk hs
        rw [addM_fit hs]
        refine ⟨fun v D' h => ?_, fun e m D' h => ?_⟩
        · obtain ⟨hl, h3⟩ := h1 v D' h
          refine ⟨hl, fun D2 hq2 hp2 => ?_⟩
          by_cases hs2 : 4096 < (pre ++ o).length + p.length
          · rw [addM_too hs2, if_pos (by simp only [List.length_append] at hs2 hl; omega)]
          · rw [addM_fit hs2, List.append_assoc]
            exact h3 D2 hq2 hp2 (by simp only [List.length_append] at hs2 ⊢; omega)
        · by_cases hs2 : 4096 < (pre ++ o).length + p.length
          · right
            refine ⟨fun e => ?_, addM_too hs2⟩
            rw [e] at hs2
            exact hs hs2
          · rw [addM_fit hs2, List.append_assoc]
            exact h2 e m D' h
    cases hr : refM8 s with
    | none =>
      simp only [textM8, hr]
      obtain ⟨k1, k2⟩ := key out s D (fun z D' => .ok z D') fun hs => ⟨fun v D' h => by
        cases h
        exact ⟨Nat.le_refl _, fun D2 hq2 hp2 hl => by rw [if_neg (by simp only [List.length_append] at hl ⊢; omega)]⟩, fun e m D' h => by cases h⟩
      exact ⟨fun v D' h D2 hq2 hp2 => (k1 v D' h).2 D2 hq2 hp2, k2⟩
    | some p =>
      obtain ⟨a, n, r⟩ := p
      simp only [textM8, hr]
      have tails : ∀ (z u : List UInt8) (D1 : List Pp), Q8 U way D1 → _ := fun z u D1 hq1 => key z u D1 (fun o' D' => textM8 (fun m D' => valueM8 U k way m D') (fun m => (getM U m).isSome) owner g o' r D') fun _ => ⟨fun v D' h => ⟨text_grow g h, fun D2 hq2 hp2 _ => (text_again H pre g (z ++ u) r D1 hq1).1 v D' h D2 hq2 hp2⟩, (text_again H pre g (z ++ u) r D1 hq1).2⟩
      by_cases hkn : (getM U n).isSome = true
      · simp only [hkn, if_true]
        obtain ⟨v1, v2⟩ := H n D hkn hq
        have hqv := value_q U k way n D hkn hq
        obtain ⟨k1, k2⟩ := key out a D (fun z D' => (valueM8 U k way n D').bind fun v D'' => addM owner z v D'' fun o' => textM8 (fun m D' => valueM8 U k way m D') (fun m => (getM U m).isSome) owner g o' r D'') fun hs => by
          cases hx : valueM8 U k way n D with
          | bad e m D1 =>
            refine ⟨fun v D' h => (by cases h), fun e' m' D' h => ?_⟩
            cases h
            left
            show (valueM8 U k way n D1).bind _ = _
            rw [v2 e m D1 hx]
            rfl
          | ok u D1 =>
            rw [hx] at hqv
            have hq1 : Q8 U way D1 := hqv
            obtain ⟨t1, t2⟩ := tails (out ++ a) u D1 hq1
            refine ⟨fun v D' h => ?_, fun e' m' D' h => ?_⟩
            · have h : addM owner (out ++ a) u D1 (fun o' => textM8 (fun m D' => valueM8 U k way m D') (fun m => (getM U m).isSome) owner g o' r D1) = .ok v D' := h
              obtain ⟨hl, t3⟩ := t1 v D' h
              refine ⟨by simp only [List.length_append] at hl ⊢; omega, fun D2 hq2 hp2 _ => ?_⟩
              show (valueM8 U k way n D2).bind _ = _
              have hp1 : Pre D1 D' := by
                have h5 : Pre D1 (addM owner (out ++ a) u D1 (fun o' => textM8 (fun m D' => valueM8 U k way m D') (fun m => (getM U m).isSome) owner g o' r D1)).D := addM_D (P := Pre D1) (Pre.refl D1) fun o => text_pre g o r D1
                rw [h] at h5
                exact h5
              rw [v1 u D1 hx D2 hq2 (hp1.trans hp2)]
              exact t3 D2 hq2 hp2
            · have h : addM owner (out ++ a) u D1 (fun o' => textM8 (fun m D' => valueM8 U k way m D') (fun m => (getM U m).isSome) owner g o' r D1) = .bad e' m' D' := h
              have hp1 : Pre D1 D' := by
                have h5 : Pre D1 (addM owner (out ++ a) u D1 (fun o' => textM8 (fun m D' => valueM8 U k way m D') (fun m => (getM U m).isSome) owner g o' r D1)).D := addM_D (P := Pre D1) (Pre.refl D1) fun o => text_pre g o r D1
                rw [h] at h5
                exact h5
              have hqd : Q8 U way D' := by
                have h5 : Q8 U way (addM owner (out ++ a) u D1 (fun o' => textM8 (fun m D' => valueM8 U k way m D') (fun m => (getM U m).isSome) owner g o' r D1)).D := addM_D (P := Q8 U way) hq1 fun o => text_q U g hq1
                rw [h] at h5
                exact h5
              show (valueM8 U k way n D').bind _ = _ ∨ _ ∧ (valueM8 U k way n D').bind _ = _
              rw [v1 u D1 hx D' hqd hp1]
              exact t2 e' m' D' h
        exact ⟨fun v D' h D2 hq2 hp2 => (k1 v D' h).2 D2 hq2 hp2, k2⟩
      · simp only [hkn]
        obtain ⟨k1, k2⟩ := key out a D (fun z D' => addM owner z (asIs n) D' fun o' => textM8 (fun m D' => valueM8 U k way m D') (fun m => (getM U m).isSome) owner g o' r D') fun hs => by
          obtain ⟨t1, t2⟩ := tails (out ++ a) (asIs n) D hq
          refine ⟨fun v D' h => ?_, t2⟩
          obtain ⟨hl, t3⟩ := t1 v D' h
          exact ⟨by simp only [List.length_append] at hl ⊢; omega, fun D2 hq2 hp2 _ => t3 D2 hq2 hp2⟩
        exact ⟨fun v D' h D2 hq2 hp2 => (k1 v D' h).2 D2 hq2 hp2, k2⟩
theorem again_all (U : List Pp) : ∀ (k : Nat) (way : List (List UInt8)), Again U k way
  | 0, way => fun n D _ _ => ⟨fun v D' h => (by cases h), fun e m D' h => by cases h; rfl⟩
  | k + 1, way => fun n D hkn hq => by
    refine ⟨fun v D' h D2 hq2 hp2 => ?_, fun e m D' h => ?_⟩
    · have hg := value_got U hq.notin h
      have hnw : n ∉ way := fun hw => by
        rw [valueM8, if_pos hw] at h
        cases h
      rw [valueM8, if_neg hnw, hp2.get hg]
    · rw [valueM8] at h
      by_cases hw : n ∈ way
      · rw [if_pos hw] at h
        cases h
        rw [valueM8, if_pos hw]
      · rw [if_neg hw] at h
        cases hg : getM D n with
        | some v => rw [hg] at h; cases h
        | none =>
          rw [hg] at h
          dsimp only at h
          by_cases h32 : 32 ≤ way.length
          · rw [if_pos h32] at h
            cases h
            rw [valueM8, if_neg hw, hg]
            dsimp only
            rw [if_pos h32]
          · rw [if_neg h32] at h
            have hq1 := hq.start hg
            have ht := (text_again (again_all U k (way ++ [n])) (owner := n) [] (((getM U n).getD []).length + 1) [] ((getM U n).getD []) D hq1).2
            have hqd := text_q U (k := k) (owner := n) (out := []) (s := (getM U n).getD []) (((getM U n).getD []).length + 1) hq1
            cases hx : textM8 (fun m D' => valueM8 U k (way ++ [n]) m D') (fun m => (getM U m).isSome) n (((getM U n).getD []).length + 1) [] ((getM U n).getD []) D with
            | ok v D1 => rw [hx] at h; cases h
            | bad e1 m1 D1 =>
              rw [hx] at h hqd
              have h : Xp.bad e1 m1 D1 = .bad e m D' := h
              obtain ⟨he1, he2, he3⟩ : e1 = e ∧ m1 = m ∧ D1 = D' := by cases h; exact ⟨rfl, rfl, rfl⟩
              subst he1
              subst he2
              subst he3
              have hnd : getM D1 n = none := Q8.notin hqd n (by simp)
              rw [valueM8, if_neg hw, hnd]
              dsimp only
              rw [if_neg h32]
              rcases ht e1 m1 D1 hx with h2 | ⟨h2, _⟩
              · rw [List.nil_append] at h2
                rw [h2]
                rfl
              · exact absurd rfl h2
/-- a text without a beginning of a reference, ahead of another -/
theorem ref_ahead {a : List UInt8} (ha : ∀ c ∈ a, c ≠ 36) (b : List UInt8) : refM8 (a ++ b) = (refM8 b).map fun p => (a ++ p.1, p.2) := by
  induction a with
  | nil => simp
  | cons c a ih =>
    have hc : ¬ (c = 36 ∧ (a ++ b).head? = some 123) := fun h => ha c (by simp) h.1
    rw [List.cons_append, refM8, if_neg hc, ih (fun d hd => ha d (by simp [hd]))]
    cases refM8 b <;> rfl
theorem text_ahead {val : List UInt8 → List Pp → Xp} {known : List UInt8 → Bool} {owner a b : List UInt8} {D : List Pp} (ha : ∀ c ∈ a, c ≠ 36) (hl : a.length ≤ 4096) : textM8 val known owner ((a ++ b).length + 1) [] (a ++ b) D = textM8 val known owner (b.length + 1) a b D := by
  have hf : textM8 val known owner (b.length + 1) a b D = textM8 val known owner ((a ++ b).length + 1) a b D := text_fuel (by omega) (by rw [List.length_append]; omega)
  rw [hf, textM8, textM8, ref_ahead ha]
  have hadd : ∀ (p : List UInt8) (kk : List UInt8 → Xp), addM owner [] (a ++ p) D kk = addM owner a p D kk := fun p kk => by
    unfold addM
    simp only [List.length_append, List.nil_append, List.length_nil, Nat.zero_add]
  cases refM8 b with
  | none => exact hadd b _
  | some p => exact hadd p.1 _
/-- a text of unknown names stays -/
theorem text_unknown {val : List UInt8 → List Pp → Xp} {known : List UInt8 → Bool} {owner : List UInt8} : ∀ (g : Nat) (out s : List UInt8) (D : List Pp), s.length < g → (∀ n ∈ refsM g s, known n = false) → out.length + s.length ≤ 4096 → textM8 val known owner g out s D = .ok (out ++ s) D
  | 0, _, s, _, h, _, _ => by omega
  | g + 1, out, s, D, h, hn, hl => by
    rw [textM8]
    rw [refsM] at hn
    cases hr : refM8 s with
    | none => dsimp only; rw [addM_fit (by omega)]
    | some p =>
      obtain ⟨a, n, r⟩ := p
      rw [hr] at hn
      dsimp only at hn ⊢
      have hlen := ref_len hr
      have his := (ref_is hr).1
      rw [addM_fit (by omega), hn n (by simp)]
      have has : (asIs n).length = n.length + 3 := by simp [asIs]
      simp only [Bool.false_eq_true, if_false]
      rw [addM_fit (by rw [List.length_append, has]; omega)]
      rw [text_unknown g _ r D (by omega) (fun m hm => hn m (by simp [hm])) (by simp only [List.length_append, has]; omega)]
      congr 1
      rw [his]
      simp [asIs]
/-- what the law asks of a text behind one that begins no reference -/
theorem plain_two {U : List Pp} {a b : List UInt8} {D : List Pp} (hq : Q8 U [] D) (ha : ∀ c ∈ a, c ≠ 36) (hl : a.length ≤ 1000) :
    (∀ v D', expandM8 U b D = .ok v D' → expandM8 U (a ++ b) D' = if 4096 < a.length + v.length then .bad 2 [] D' else .ok (a ++ v) D') ∧
    (∀ e m D', expandM8 U b D = .bad e m D' → expandM8 U (a ++ b) D' = .bad e m D' ∨ expandM8 U (a ++ b) D' = .bad 2 [] D') := by
  obtain ⟨h1, h2⟩ := text_again (again_all U 33 []) (owner := []) a (b.length + 1) [] b D hq
  have hqd : Q8 U [] (expandM8 U b D).D := text_q U (k := 33) (b.length + 1) hq
  have he : ∀ D', expandM8 U (a ++ b) D' = textM8 (fun m D' => valueM8 U 33 [] m D') (fun m => (getM U m).isSome) [] (b.length + 1) (a ++ []) b D' := fun D' => by
    unfold expandM8
    rw [List.append_nil, text_ahead ha (by omega)]
  refine ⟨fun v D' h => ?_, fun e m D' h => ?_⟩
  · rw [h] at hqd
    rw [he]
    exact h1 v D' h D' hqd (Pre.refl _)
  · rw [he]
    rcases h2 e m D' h with h3 | h3
    · exact .inl h3
    · exact .inr h3.2
end
end Go.Proofs.Ythfholnnkdoagaa
