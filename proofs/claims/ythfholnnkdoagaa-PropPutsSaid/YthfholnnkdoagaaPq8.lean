/-
  Layer 8: what is remembered stays right: no name twice, known ones alone, short values; fuels. Own work.
-/
import Derived.Test.YthfholnnkdoagaaPr8
namespace Go.Proofs.Ythfholnnkdoagaa
set_option linter.unusedVariables false
set_option linter.unusedSimpArgs false

/-- what is remembered of U while the names of way are met -/
structure Q8 (U : List Pp) (way : List (List UInt8)) (D : List Pp) : Prop where
  notin : NotIn way D
  nodup : (D.map (·.1)).Nodup
  known : ∀ p ∈ D, (getM U p.1).isSome = true
  small : ∀ p ∈ D, p.2.length ≤ 4096
theorem get_none {D : List Pp} {n : List UInt8} : getM D n = none ↔ n ∉ D.map (·.1) := by
  unfold getM
  rw [Option.map_eq_none_iff, List.find?_eq_none]
  simp only [List.mem_map, not_exists, not_and, beq_iff_eq]
theorem get_mem {D : List Pp} {n v : List UInt8} (h : getM D n = some v) : (n, v) ∈ D := by
  unfold getM at h
  rw [Option.map_eq_some_iff] at h
  obtain ⟨p, h1, h2⟩ := h
  have h3 := List.find?_some h1
  have h4 := List.mem_of_find?_eq_some h1
  rw [beq_iff_eq] at h3
  obtain ⟨a, b⟩ := p
  subst h2
  subst h3
  exact h4
theorem get_some {D : List Pp} {n : List UInt8} (h : (getM D n).isSome = true) : n ∈ D.map (·.1) := by
  refine Classical.byContradiction fun hn => ?_
  rw [get_none.2 hn] at h
  cases h
theorem nodup_len {α : Type} [BEq α] [LawfulBEq α] : ∀ {l m : List α}, l.Nodup → (∀ x ∈ l, x ∈ m) → l.length ≤ m.length
  | [], _, _, _ => by simp
  | x :: l, m, hn, hs => by
    rw [List.nodup_cons] at hn
    have h1 : x ∈ m := hs x (by simp)
    have h2 := nodup_len (l := l) (m := m.erase x) hn.2 (fun y hy => (List.mem_erase_of_ne (fun e => hn.1 (by rw [← e]; exact hy))).2 (hs y (by simp [hy])))
    rw [List.length_erase_of_mem h1] at h2
    have h3 := List.length_pos_of_mem h1
    simp only [List.length_cons]
    omega
theorem Q8.len {U : List Pp} {way : List (List UInt8)} {D : List Pp} (h : Q8 U way D) : D.length ≤ U.length := by
  have h1 : (D.map (·.1)).length ≤ (U.map (·.1)).length := by
    refine nodup_len h.nodup ?_
    intro n hn
    obtain ⟨p, hp, rfl⟩ := List.mem_map.1 hn
    exact get_some (h.known p hp)
  simpa using h1
theorem Q8.nil (U : List Pp) (way : List (List UInt8)) : Q8 U way [] := ⟨fun _ _ => rfl, by simp, by simp, by simp⟩
theorem Q8.less {U : List Pp} {way : List (List UInt8)} {n : List UInt8} {D : List Pp} (h : Q8 U (way ++ [n]) D) : Q8 U way D :=
  ⟨fun m hm => h.notin m (List.mem_append_left _ hm), h.nodup, h.known, h.small⟩
theorem Q8.start {U : List Pp} {way : List (List UInt8)} {n : List UInt8} {D : List Pp} (h : Q8 U way D) (hn : getM D n = none) : Q8 U (way ++ [n]) D :=
  ⟨fun m hm => by
    rcases List.mem_append.1 hm with hm | hm
    · exact h.notin m hm
    · rw [List.mem_singleton.1 hm]; exact hn, h.nodup, h.known, h.small⟩
theorem Q8.more {U : List Pp} {way : List (List UInt8)} {n v : List UInt8} {D : List Pp} (h : Q8 U (way ++ [n]) D) (hw : n ∉ way) (hk : (getM U n).isSome = true) (hv : v.length ≤ 4096) : Q8 U way (D ++ [(n, v)]) := by
  have hn := h.notin n (by simp)
  refine ⟨fun m hm => ?_, ?_, ?_, ?_⟩
  · rw [get_snoc, h.notin m (List.mem_append_left _ hm), if_neg (fun e => hw (by rw [e]; exact hm))]; rfl
  · rw [List.map_append, List.nodup_append]
    refine ⟨h.nodup, by simp, ?_⟩
    intro a ha b hb
    simp only [List.map_cons, List.map_nil, List.mem_singleton] at hb
    subst hb
    intro e
    subst e
    exact (get_none.1 hn) ha
  · intro p hp
    rcases List.mem_append.1 hp with hp | hp
    · exact h.known p hp
    · rw [List.mem_singleton.1 hp]; exact hk
  · intro p hp
    rcases List.mem_append.1 hp with hp | hp
    · exact h.small p hp
    · rw [List.mem_singleton.1 hp]; exact hv
/-- texts whose values keep it, keep it -/
theorem value_q (U : List Pp) : ∀ (k : Nat) (way : List (List UInt8)) (n : List UInt8) (D : List Pp), (getM U n).isSome = true → Q8 U way D → Q8 U way (valueM8 U k way n D).D
  | 0, _, _, _, _, h => h
  | k + 1, way, n, D, hk, h => by
    rw [valueM8]
    split
    · exact h
    · next hn =>
      split
      · exact h
      · next hg =>
        split
        · exact h
        · have h2 := text_D (P := Q8 U (way ++ [n])) (val := fun m D' => valueM8 U k (way ++ [n]) m D') (known := fun m => (getM U m).isSome) (owner := n) (fun m D' hm hD => value_q U k _ m D' hm hD) (((getM U n).getD []).length + 1) [] ((getM U n).getD []) D (h.start hg)
          have h3 := fun v D' => @text_len (fun m D' => valueM8 U k (way ++ [n]) m D') (fun m => (getM U m).isSome) n (((getM U n).getD []).length + 1) [] ((getM U n).getD []) v D D'
          revert h2 h3
          generalize textM8 (fun m D' => valueM8 U k (way ++ [n]) m D') (fun m => (getM U m).isSome) n (((getM U n).getD []).length + 1) [] ((getM U n).getD []) D = x
          intro h2 h3
          cases x with
          | ok v D' => exact Q8.more h2 hn hk (h3 v D' rfl)
          | bad e m D' => exact Q8.less h2
theorem text_q (U : List Pp) {k : Nat} {way : List (List UInt8)} {owner out s : List UInt8} {D : List Pp} (g : Nat) (h : Q8 U way D) : Q8 U way (textM8 (fun m D' => valueM8 U k way m D') (fun m => (getM U m).isSome) owner g out s D).D :=
  text_D (P := Q8 U way) (fun m D' hm hD => value_q U k _ m D' hm hD) g out s D h
/-- any two fuels that suffice -/
theorem text_fuel {val : List UInt8 → List Pp → Xp} {known : List UInt8 → Bool} {owner : List UInt8} : ∀ {g g' : Nat} {out s : List UInt8} {D : List Pp}, s.length < g → s.length < g' → textM8 val known owner g out s D = textM8 val known owner g' out s D
  | 0, _, _, s, _, h, _ => by omega
  | _ + 1, 0, _, s, _, _, h => by omega
  | g + 1, g' + 1, out, s, D, h, h' => by
    rw [textM8, textM8]
    cases hr : refM8 s with
    | none => rfl
    | some p =>
      obtain ⟨a, n, r⟩ := p
      have hl := ref_len hr
      have e : ∀ o D', textM8 val known owner g o r D' = textM8 val known owner g' o r D' := fun o D' => text_fuel (by omega) (by omega)
      simp only [e]
/-- what a text's fuel is -/
theorem text_at {val : List UInt8 → List Pp → Xp} {known : List UInt8 → Bool} {owner out s : List UInt8} {D : List Pp} {a n r : List UInt8} (h : refM8 s = some (a, n, r)) :
    textM8 val known owner (s.length + 1) out s D = addM owner out a D fun o =>
      if known n then (val n D).bind fun v D' => addM owner o v D' fun o' => textM8 val known owner (r.length + 1) o' r D'
      else addM owner o (asIs n) D fun o' => textM8 val known owner (r.length + 1) o' r D := by
  have hl := ref_len h
  rw [textM8, h]
  have e : ∀ o D', textM8 val known owner s.length o r D' = textM8 val known owner (r.length + 1) o r D' := fun o D' => text_fuel (by omega) (by omega)
  simp only [e]
theorem text_end {val : List UInt8 → List Pp → Xp} {known : List UInt8 → Bool} {owner out s : List UInt8} {D : List Pp} (h : refM8 s = none) :
    textM8 val known owner (s.length + 1) out s D = addM owner out s D fun o => .ok o D := by
  rw [textM8, h]
/-- values hang on what each name's first value is -/
theorem text_congr {val val' : List UInt8 → List Pp → Xp} {known known' : List UInt8 → Bool} {owner : List UInt8} (hv : ∀ n D, val n D = val' n D) (hk : ∀ n, known n = known' n) {g : Nat} {out s : List UInt8} {D : List Pp} : textM8 val known owner g out s D = textM8 val' known' owner g out s D := by
  have e1 : val = val' := by funext n D; exact hv n D
  have e2 : known = known' := by funext n; exact hk n
  rw [e1, e2]
theorem value_congr {L M : List Pp} (h : ∀ n, getM L n = getM M n) : ∀ (k : Nat) (way : List (List UInt8)) (n : List UInt8) (D : List Pp), valueM8 L k way n D = valueM8 M k way n D
  | 0, _, _, _ => rfl
  | k + 1, way, n, D => by
    rw [valueM8, valueM8, h n]
    rw [text_congr (val' := fun m D' => valueM8 M k (way ++ [n]) m D') (known' := fun m => (getM M m).isSome) (fun m D' => value_congr h k _ m D') (fun m => by rw [h m])]
theorem expand_congr {L M : List Pp} (h : ∀ n, getM L n = getM M n) (s : List UInt8) (D : List Pp) : expandM8 L s D = expandM8 M s D := by
  unfold expandM8
  exact text_congr (fun n D => value_congr h _ _ n D) (fun n => by rw [h n])
/-- each name's first property alone -/
def firsts : List Pp → List Pp → List Pp
  | U, [] => U
  | U, p :: L => firsts (if (getM U p.1).isSome then U else U ++ [p]) L
theorem get_app (U L : List Pp) (n : List UInt8) : getM (U ++ L) n = (getM U n).or (getM L n) := by
  unfold getM
  rw [List.find?_append]
  cases U.find? (fun p => p.1 == n) <;> simp
theorem get_firsts : ∀ (L U : List Pp) (n : List UInt8), getM (firsts U L) n = (getM U n).or (getM L n)
  | [], U, n => by
    rw [firsts]
    show _ = (getM U n).or none
    rw [Option.or_none]
  | p :: L, U, n => by
    rw [firsts, get_firsts L]
    have hp : getM (p :: L) n = (if p.1 = n then some p.2 else none).or (getM L n) := by
      unfold getM
      by_cases h : p.1 = n
      · simp [h]
      · have : (p.1 == n) = false := by rw [beq_eq_false_iff_ne]; exact h
        simp [List.find?_cons, this, h]
    rw [hp]
    by_cases hg : (getM U p.1).isSome = true
    · rw [if_pos hg]
      by_cases hn : p.1 = n
      · subst hn
        obtain ⟨v, hv⟩ := Option.isSome_iff_exists.1 hg
        rw [hv]; rfl
      · rw [if_neg hn]; rfl
    · rw [if_neg hg, get_snoc, Option.or_assoc]
theorem nodup_firsts : ∀ (L U : List Pp), (U.map (·.1)).Nodup → ((firsts U L).map (·.1)).Nodup
  | [], U, h => h
  | p :: L, U, h => by
    rw [firsts]
    refine nodup_firsts L _ ?_
    by_cases hg : (getM U p.1).isSome = true
    · rw [if_pos hg]; exact h
    · rw [if_neg hg, List.map_append, List.nodup_append]
      refine ⟨h, by simp, ?_⟩
      intro a ha b hb e
      simp only [List.map_cons, List.map_nil, List.mem_singleton] at hb
      subst hb
      subst e
      refine get_none.1 ?_ ha
      cases hx : getM U p.1 with
      | none => rfl
      | some v => rw [hx] at hg; exact absurd rfl hg
theorem mem_firsts : ∀ (L U : List Pp) (p : Pp), p ∈ firsts U L → p ∈ U ∨ p ∈ L
  | [], U, p, h => .inl h
  | q :: L, U, p, h => by
    rw [firsts] at h
    rcases mem_firsts L _ p h with h | h
    · split at h
      · exact .inl h
      · rcases List.mem_append.1 h with h | h
        · exact .inl h
        · right; rw [List.mem_singleton.1 h]; simp
    · right; simp [h]
theorem len_firsts : ∀ (L U : List Pp), (firsts U L).length ≤ U.length + L.length
  | [], U => by rw [firsts]; simp
  | q :: L, U => by
    rw [firsts]
    refine Nat.le_trans (len_firsts L _) ?_
    split
    · simp only [List.length_cons]; omega
    · simp only [List.length_append, List.length_cons, List.length_nil]; omega
/-- places of names -/
theorem nodup_at {U : List Pp} (h : (U.map (·.1)).Nodup) {i j : Nat} {p q : Pp} (hi : U[i]? = some p) (hj : U[j]? = some q) (e : p.1 = q.1) : i = j := by
  have h1 : (U.map (·.1))[i]? = some p.1 := by rw [List.getElem?_map, hi]; rfl
  have h2 : (U.map (·.1))[j]? = some q.1 := by rw [List.getElem?_map, hj]; rfl
  obtain ⟨a1, b1⟩ := List.getElem?_eq_some_iff.1 h1
  obtain ⟨a2, b2⟩ := List.getElem?_eq_some_iff.1 h2
  have hp := List.pairwise_iff_getElem.1 h
  rcases Nat.lt_trichotomy i j with hl | hl | hl
  · exact absurd (by rw [b1, b2, e]) (hp i j a1 a2 hl)
  · exact hl
  · exact absurd (by rw [b1, b2, e]) (hp j i a2 a1 hl)
end Go.Proofs.Ythfholnnkdoagaa
