/-
  Layer 8: properties turned round, or behind one that no one needs: the mathematics. Own work.
-/
import Derived.Test.YthfholnnkdoagaaPln8
namespace Go.Proofs.Ythfholnnkdoagaa
set_option linter.unusedVariables false
set_option linter.unusedSimpArgs false

/-- texts whose names are expanded alike are expanded alike -/
theorem text_ext {val val' : List UInt8 → List Pp → Xp} {known known' : List UInt8 → Bool} {owner : List UInt8} : ∀ (g : Nat) (out s : List UInt8) (D : List Pp), (∀ n ∈ refsM g s, known n = known' n ∧ ∀ D, val n D = val' n D) → textM8 val known owner g out s D = textM8 val' known' owner g out s D
  | 0, _, _, _, _ => rfl
  | g + 1, out, s, D, h => by
    rw [textM8, textM8]
    rw [refsM] at h
    revert h
    cases refM8 s with
    | none => exact fun _ => rfl
    | some p =>
      obtain ⟨a, n, r⟩ := p
      intro h
      have h1 := h n List.mem_cons_self
      have h2 : ∀ m ∈ refsM g r, _ := fun m hm => h m (List.mem_cons_of_mem _ hm)
      dsimp only
      congr 1
      funext o
      rw [h1.1, h1.2 D]
      have e : (fun v D' => addM owner o v D' fun o' => textM8 val known owner g o' r D') = (fun v D' => addM owner o v D' fun o' => textM8 val' known' owner g o' r D') := by
        funext v D'
        congr 1
        funext o'
        exact text_ext g o' r D' h2
      have e2 : (fun o' => textM8 val known owner g o' r D) = (fun o' => textM8 val' known' owner g o' r D) := by
        funext o'
        exact text_ext g o' r D h2
      rw [e, e2]
section
variable {L M : List Pp} {X : List UInt8}
theorem value_ext (hL : ∀ n, n ≠ X → getM L n = getM M n) (hv : ∀ n v, getM L n = some v → X ∉ refsM (v.length + 1) v) : ∀ (k : Nat) (way : List (List UInt8)) (n : List UInt8) (D : List Pp), n ≠ X → valueM8 L k way n D = valueM8 M k way n D
  | 0, _, _, _, _ => rfl
  | k + 1, way, n, D, hn => by
    rw [valueM8, valueM8, hL n hn]
    have h1 : X ∉ refsM (((getM M n).getD []).length + 1) ((getM M n).getD []) := by
      rw [← hL n hn]
      cases hg : getM L n with
      | none => simp [refsM, refM8]
      | some v => exact hv n v hg
    have e := text_ext (val := fun m D' => valueM8 L k (way ++ [n]) m D') (val' := fun m D' => valueM8 M k (way ++ [n]) m D') (known := fun m => (getM L m).isSome) (known' := fun m => (getM M m).isSome) (owner := n) (((getM M n).getD []).length + 1) [] ((getM M n).getD []) D fun m hm => by
      have hmX : m ≠ X := fun e => h1 (e ▸ hm)
      exact ⟨by rw [hL m hmX], fun D => value_ext hL hv k _ m D hmX⟩
    rw [e]
theorem expand_ext (hL : ∀ n, n ≠ X → getM L n = getM M n) (hv : ∀ n v, getM L n = some v → X ∉ refsM (v.length + 1) v) {s : List UInt8} (hs : X ∉ refsM (s.length + 1) s) (D : List Pp) : expandM8 L s D = expandM8 M s D := by
  unfold expandM8
  exact text_ext (s.length + 1) [] s D fun m hm => by
    have hmX : m ≠ X := fun e => hs (e ▸ hm)
    exact ⟨by rw [hL m hmX], fun D => value_ext hL hv 33 _ m D hmX⟩
end
theorem get_turn {A B : List Pp} (h : ((A ++ B).map (·.1)).Nodup) (n : List UInt8) : getM (A ++ B) n = getM (B ++ A) n := by
  rw [get_app, get_app]
  cases ha : getM A n with
  | none => cases getM B n <;> rfl
  | some a =>
    cases hb : getM B n with
    | none => rfl
    | some b =>
      rw [List.map_append, List.nodup_append] at h
      exact absurd rfl (h.2.2 n (List.mem_map.2 ⟨_, get_mem ha, rfl⟩) n (List.mem_map.2 ⟨_, get_mem hb, rfl⟩))
theorem turn_get {L : List Pp} (h : (L.map (·.1)).Nodup) (k : Nat) (n : List UInt8) : getM L n = getM (L.drop k ++ L.take k) n := by
  have e := get_turn (A := L.take k) (B := L.drop k) (by rw [List.take_append_drop]; exact h) n
  rw [List.take_append_drop] at e
  exact e
theorem more_get (L : List Pp) (X v : List UInt8) (n : List UInt8) (h : n ≠ X) : getM L n = getM ((X, v) :: L) n := by
  unfold getM
  rw [List.find?_cons_of_neg (by simpa using fun e => h e.symm)]
end Go.Proofs.Ythfholnnkdoagaa
