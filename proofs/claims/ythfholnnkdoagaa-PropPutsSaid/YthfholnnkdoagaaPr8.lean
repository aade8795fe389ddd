/-
  Layer 8: values in the place of their names: the mathematics. Own work.
-/
import Derived.Test.YthfholnnkdoagaaBytes
namespace Go.Proofs.Ythfholnnkdoagaa
set_option linter.unusedVariables false
set_option linter.unusedSimpArgs false

abbrev Pp := List UInt8 × List UInt8
/-- up to the first closing brace: what is ahead of it, what is behind it -/
def closeM : List UInt8 → Option (List UInt8 × List UInt8)
  | [] => none
  | c :: s => if c = 125 then some ([], s) else (closeM s).map fun p => (c :: p.1, p.2)
/-- the first reference: what is ahead of it, its name, what is behind it -/
def refM8 : List UInt8 → Option (List UInt8 × List UInt8 × List UInt8)
  | [] => none
  | c :: s => if c = 36 ∧ s.head? = some 123 then (closeM s.tail).map fun p => ([], p.1, p.2) else (refM8 s).map fun p => (c :: p.1, p.2.1, p.2.2)
theorem close_is : ∀ {s n r : List UInt8}, closeM s = some (n, r) → s = n ++ 125 :: r ∧ ∀ c ∈ n, c ≠ 125
  | [], n, r, h => by simp [closeM] at h
  | c :: s, n, r, h => by
    rw [closeM] at h
    split at h
    · next hc =>
      simp only [Option.some.injEq, Prod.mk.injEq] at h
      obtain ⟨rfl, rfl⟩ := h
      exact ⟨by rw [hc]; rfl, by simp⟩
    · next hc =>
      rw [Option.map_eq_some_iff] at h
      obtain ⟨⟨n', r'⟩, h1, h2⟩ := h
      simp only [Prod.mk.injEq] at h2
      obtain ⟨rfl, rfl⟩ := h2
      obtain ⟨h3, h4⟩ := close_is h1
      exact ⟨by rw [h3]; rfl, fun d hd => by
        rcases List.mem_cons.1 hd with rfl | hd
        · exact hc
        · exact h4 d hd⟩
theorem ref_is : ∀ {s a n r : List UInt8}, refM8 s = some (a, n, r) → s = a ++ 36 :: 123 :: (n ++ 125 :: r) ∧ ∀ c ∈ n, c ≠ 125
  | [], a, n, r, h => by simp [refM8] at h
  | c :: s, a, n, r, h => by
    rw [refM8] at h
    split at h
    · next hc =>
      rw [Option.map_eq_some_iff] at h
      obtain ⟨⟨n', r'⟩, h1, h2⟩ := h
      simp only [Prod.mk.injEq] at h2
      obtain ⟨rfl, rfl, rfl⟩ := h2
      obtain ⟨h3, h4⟩ := close_is h1
      obtain ⟨d, t, rfl⟩ : ∃ d t, s = d :: t := by
        cases s with
        | nil => simp at hc
        | cons d t => exact ⟨d, t, rfl⟩
      have hd : d = 123 := by simpa using hc.2
      have ht : t = n' ++ 125 :: r' := h3
      refine ⟨?_, h4⟩
      rw [hc.1, hd, ht]
      rfl
    · rw [Option.map_eq_some_iff] at h
      obtain ⟨⟨a', n', r'⟩, h1, h2⟩ := h
      simp only [Prod.mk.injEq] at h2
      obtain ⟨rfl, rfl, rfl⟩ := h2
      obtain ⟨h3, h4⟩ := ref_is h1
      exact ⟨by rw [h3]; rfl, h4⟩
theorem ref_len {s a n r : List UInt8} (h : refM8 s = some (a, n, r)) : a.length + n.length + 3 + r.length = s.length := by
  have := congrArg List.length (ref_is h).1
  simp only [List.length_append, List.length_cons] at this
  omega
/-- the names that a text refers to -/
def refsM : Nat → List UInt8 → List (List UInt8)
  | 0, _ => []
  | g + 1, s => match refM8 s with
    | none => []
    | some (_, n, r) => n :: refsM g r
/-- any two fuels that suffice -/
theorem refs_fuel : ∀ {g g' : Nat} {s : List UInt8}, s.length < g → s.length < g' → refsM g s = refsM g' s
  | 0, _, s, h, _ => by omega
  | _ + 1, 0, s, _, h => by omega
  | g + 1, g' + 1, s, h, h' => by
    rw [refsM, refsM]
    cases hr : refM8 s with
    | none => rfl
    | some p =>
      obtain ⟨a, n, r⟩ := p
      have := ref_len hr
      show n :: refsM g r = n :: refsM g' r
      rw [refs_fuel (g := g) (g' := g') (by omega) (by omega)]
/-- the first value of a name -/
def getM (L : List Pp) (n : List UInt8) : Option (List UInt8) := (L.find? fun p => p.1 == n).map (·.2)
/-- what expanding comes to: a text, or an error and the name that it was met with; and what is remembered then -/
inductive Xp where
  | ok (s : List UInt8) (D : List Pp) : Xp
  | bad (e : Int) (n : List UInt8) (D : List Pp) : Xp
def Xp.D : Xp → List Pp
  | .ok _ D => D
  | .bad _ _ D => D
/-- one more piece, within the bound -/
def addM (owner out piece : List UInt8) (D : List Pp) (k : List UInt8 → Xp) : Xp := if 4096 < out.length + piece.length then .bad 2 owner D else k (out ++ piece)
def Xp.bind (x : Xp) (k : List UInt8 → List Pp → Xp) : Xp :=
  match x with
  | .ok v D => k v D
  | .bad e n D => .bad e n D
/-- a reference as it stands -/
def asIs (n : List UInt8) : List UInt8 := 36 :: 123 :: (n ++ [125])
/-- a text, by what known names' values come to -/
def textM8 (val : List UInt8 → List Pp → Xp) (known : List UInt8 → Bool) (owner : List UInt8) : Nat → List UInt8 → List UInt8 → List Pp → Xp
  | 0, _, _, D => .bad 0 [] D
  | g + 1, out, s, D => match refM8 s with
    | none => addM owner out s D fun o => .ok o D
    | some (a, n, r) => addM owner out a D fun o =>
      if known n then (val n D).bind fun v D' => addM owner o v D' fun o' => textM8 val known owner g o' r D'
      else addM owner o (asIs n) D fun o' => textM8 val known owner g o' r D
/-- a known name's value, met within these names -/
def valueM8 (L : List Pp) : Nat → List (List UInt8) → List UInt8 → List Pp → Xp
  | 0, _, n, D => .bad 0 n D
  | k + 1, way, n, D =>
    if n ∈ way then .bad 22 n D
    else match getM D n with
    | some v => .ok v D
    | none =>
      if 32 ≤ way.length then .bad 2 n D
      else (textM8 (fun m D' => valueM8 L k (way ++ [n]) m D') (fun m => (getM L m).isSome) n (((getM L n).getD []).length + 1) [] ((getM L n).getD []) D).bind fun v D' => .ok v (D' ++ [(n, v)])
def expandM8 (L : List Pp) (s : List UInt8) (D : List Pp) : Xp := textM8 (fun m D' => valueM8 L 33 [] m D') (fun m => (getM L m).isSome) [] (s.length + 1) [] s D
/-! what is remembered -/
theorem Xp.bind_D {P : List Pp → Prop} {x : Xp} {k : List UInt8 → List Pp → Xp} (h : P x.D) (hk : ∀ v D, P D → P (k v D).D) : P (x.bind k).D := by
  cases x with
  | ok v D => exact hk v D h
  | bad e n D => exact h
theorem addM_D {P : List Pp → Prop} {owner out piece : List UInt8} {D : List Pp} {k : List UInt8 → Xp} (h : P D) (hk : ∀ o, P (k o).D) : P (addM owner out piece D k).D := by
  unfold addM
  split
  · exact h
  · exact hk _
theorem text_D {P : List Pp → Prop} {val : List UInt8 → List Pp → Xp} {known : List UInt8 → Bool} {owner : List UInt8} (hv : ∀ n D, known n = true → P D → P (val n D).D) : ∀ (g : Nat) (out s : List UInt8) (D : List Pp), P D → P (textM8 val known owner g out s D).D
  | 0, _, _, D, h => h
  | g + 1, out, s, D, h => by
    rw [textM8]
    split
    · exact addM_D h fun o => h
    · refine addM_D h fun o => ?_
      split
      · next hn => exact Xp.bind_D (hv _ D hn h) fun v D' h' => addM_D h' fun o' => text_D hv g _ _ _ h'
      · exact addM_D h fun o' => text_D hv g _ _ _ h
theorem get_snoc (D : List Pp) (n m v : List UInt8) : getM (D ++ [(n, v)]) m = (getM D m).or (if n = m then some v else none) := by
  unfold getM
  rw [List.find?_append]
  cases hf : D.find? (fun p => p.1 == m) with
  | some p => simp
  | none =>
    by_cases h : n = m
    · simp [h]
    · have : (n == m) = false := by rw [beq_eq_false_iff_ne]; exact h
      simp [h, this]
/-- names that are met are not remembered yet; what was remembered stays; what is answered is remembered -/
def NotIn (way : List (List UInt8)) (D : List Pp) : Prop := ∀ m ∈ way, getM D m = none
theorem value_notin (L : List Pp) : ∀ (k : Nat) (way : List (List UInt8)) (n : List UInt8) (D : List Pp), NotIn way D → NotIn way (valueM8 L k way n D).D
  | 0, _, _, _, h => h
  | k + 1, way, n, D, h => by
    rw [valueM8]
    split
    · exact h
    · next hn =>
      split
      · exact h
      · next hg =>
        split
        · exact h
        · have h1 : NotIn (way ++ [n]) D := fun m hm => by
            rcases List.mem_append.1 hm with hm | hm
            · exact h m hm
            · rw [List.mem_singleton.1 hm]; exact hg
          have h2 := text_D (P := NotIn (way ++ [n])) (val := fun m D' => valueM8 L k (way ++ [n]) m D') (known := fun m => (getM L m).isSome) (owner := n) (fun m D' _ hD => value_notin L k _ m D' hD) (((getM L n).getD []).length + 1) [] ((getM L n).getD []) D h1
          refine (show ∀ x : Xp, NotIn (way ++ [n]) x.D → NotIn way (x.bind fun v D' => .ok v (D' ++ [(n, v)])).D from fun x hx => ?_) _ h2
          cases x with
          | ok v D' =>
            intro m hm
            show getM (D' ++ [(n, v)]) m = none
            have hx' : NotIn (way ++ [n]) D' := hx
            rw [get_snoc, hx' m (List.mem_append_left _ hm), if_neg (fun (e : n = m) => hn (by rw [e]; exact hm))]
            rfl
          | bad e m D' => exact fun m hm => hx m (List.mem_append_left _ hm)
theorem value_more (L : List Pp) (D0 : List Pp) : ∀ (k : Nat) (way : List (List UInt8)) (n : List UInt8) (D : List Pp), (∃ X, D = D0 ++ X) → ∃ X, (valueM8 L k way n D).D = D0 ++ X
  | 0, _, _, _, h => h
  | k + 1, way, n, D, h => by
    rw [valueM8]
    split
    · exact h
    · split
      · exact h
      · split
        · exact h
        · have h2 := text_D (P := fun D => ∃ X, D = D0 ++ X) (val := fun m D' => valueM8 L k (way ++ [n]) m D') (known := fun m => (getM L m).isSome) (owner := n) (fun m D' _ hD => value_more L D0 k _ m D' hD) (((getM L n).getD []).length + 1) [] ((getM L n).getD []) D h
          refine Xp.bind_D (P := fun D => ∃ X, D = D0 ++ X) h2 fun v D' h' => ?_
          obtain ⟨X, rfl⟩ := h'
          exact ⟨X ++ [(n, v)], by show (D0 ++ X) ++ [(n, v)] = _; rw [List.append_assoc]⟩
theorem value_got (L : List Pp) {k : Nat} {way : List (List UInt8)} {n v : List UInt8} {D D' : List Pp} (h : NotIn way D) (hv : valueM8 L k way n D = .ok v D') : getM D' n = some v := by
  cases k with
  | zero => cases hv
  | succ k =>
    rw [valueM8] at hv
    split at hv
    · cases hv
    · split at hv
      · next hg => cases hv; exact hg
      · next hg =>
        split at hv
        · cases hv
        · have h1 : NotIn (way ++ [n]) D := fun m hm => by
            rcases List.mem_append.1 hm with hm | hm
            · exact h m hm
            · rw [List.mem_singleton.1 hm]; exact hg
          have h2 := text_D (P := NotIn (way ++ [n])) (val := fun m D' => valueM8 L k (way ++ [n]) m D') (known := fun m => (getM L m).isSome) (owner := n) (fun m D' _ hD => value_notin L k _ m D' hD) (((getM L n).getD []).length + 1) [] ((getM L n).getD []) D h1
          revert hv h2
          generalize textM8 (fun m D' => valueM8 L k (way ++ [n]) m D') (fun m => (getM L m).isSome) n (((getM L n).getD []).length + 1) [] ((getM L n).getD []) D = x
          intro hv h2
          cases x with
          | bad e m D2 => cases hv
          | ok u D2 =>
            have hv : Xp.ok u (D2 ++ [(n, u)]) = .ok v D' := hv
            cases hv
            have h2' : NotIn (way ++ [n]) D2 := h2
            rw [get_snoc, h2' n (by simp), if_pos rfl]
            rfl
/-- what is answered keeps the bound -/
theorem text_len {val : List UInt8 → List Pp → Xp} {known : List UInt8 → Bool} {owner : List UInt8} : ∀ (g : Nat) {out s v : List UInt8} {D D' : List Pp}, textM8 val known owner g out s D = .ok v D' → v.length ≤ 4096
  | 0, _, _, _, _, _, h => by cases h
  | g + 1, out, s, v, D, D', h => by
    rw [textM8] at h
    have add_ok : ∀ {o p : List UInt8} {D1 : List Pp} {k : List UInt8 → Xp}, addM owner o p D1 k = .ok v D' → (o ++ p).length ≤ 4096 ∧ k (o ++ p) = .ok v D' := fun {o p D1 k} h => by
      unfold addM at h
      split at h
      · cases h
      · exact ⟨by rw [List.length_append]; omega, h⟩
    split at h
    · obtain ⟨h1, h2⟩ := add_ok h
      cases h2
      exact h1
    · obtain ⟨h1, h2⟩ := add_ok h
      split at h2
      · revert h2
        generalize val _ D = x
        intro h2
        cases x with
        | bad e m D2 => cases h2
        | ok u D2 =>
          simp only [Xp.bind] at h2
          exact text_len g (add_ok h2).2
      · exact text_len g (add_ok h2).2
end Go.Proofs.Ythfholnnkdoagaa
