/-
  Layer 8: maps of one's own: places by numbers. Own work.
-/
import Derived.Test.YthfholnnkdoagaaMap8
namespace Go.Proofs.Ythfholnnkdoagaa
set_option linter.unusedVariables false
set_option linter.unusedSimpArgs false
open Go.RowKit Go.WideElems Go.MapKept

theorem iKeyed : Maps.Keyed Try.prog 3 := Maps.int_keyed Try.underlying3
def litI (t : Nat) : Lit := .int .i64 (t : Int)
theorem litI_inj {t u : Nat} (h : litI t = litI u) : t = u := by
  unfold litI at h
  simp only [Lit.int.injEq, true_and] at h
  omega
theorem keyI {t : Nat} (h : t ≤ 1000000) : keyOf Try.prog 3 (.int .i64 (t : Int)) = some (litI t) := by
  have h2 : IntKind.i64.min = -9223372036854775808 := rfl
  have h3 : IntKind.i64.max = 9223372036854775807 := rfl
  simp [keyOf, mapKey, Try.underlying3, litI]
  exact wf10 h
/-- block b is a map of at most n entries that gives each name its place -/
def PlacesI (w : World) (b n : Nat) (f : Nat → Option Nat) : Prop :=
  ∃ D : DataW Unit, w.ownsMap Try.prog 3 (plainElem Try.prog 3) b n D ∧ ∀ t : Nat, t ≤ 1000000 → Maps.has D (litI t) = (f t).isSome ∧ D.atKey (litI t) (.lit (.int .i64 0)) = .lit (.int .i64 (((f t).getD 0 : Nat) : Int))
def putI (f : Nat → Option Nat) (t : Nat) (m : Nat) : Nat → Option Nat := fun q => if t = q then some m else f q
section
variable {w w' : World} {b n m : Nat} {f g : Nat → Option Nat} {t : Nat} {row : Option Nat}
theorem PlacesI.made (w : World) : PlacesI (w.alloc (.map #[] 0)) w.heap.size 0 (fun _ => none) :=
  ⟨_, World.ownsMap_made _ _ _ _, fun k _ => ⟨rfl, rfl⟩⟩
theorem PlacesI.same (h : PlacesI w b n f) (hfg : ∀ k, f k = g k) : PlacesI w b n g := by
  obtain ⟨D, h1, h2⟩ := h
  exact ⟨D, h1, fun k hk => by rw [← hfg k]; exact h2 k hk⟩
theorem PlacesI.kept (h : PlacesI w b n f) (hg : w.grownBy w' row) (hne : some b ≠ row) : PlacesI w' b n f := by
  obtain ⟨D, h1, h2⟩ := h
  exact ⟨D, h1.kept hg hne, h2⟩
theorem PlacesI.below (h : PlacesI w b n f) (hb : Below w.heap.size w w') : PlacesI w' b n f :=
  h.kept (⟨hb.os, hb.tape, hb.output, hb.size, fun k hk _ => hb.block k hk⟩ : w.grownBy w' none) (by simp)
theorem PlacesI.lt (h : PlacesI w b n f) : b < w.heap.size := by
  obtain ⟨D, h1, h2⟩ := h
  exact h1.lt
theorem PlacesI.look (h : PlacesI w b n f) (hk : t ≤ 1000000) : (Instr.lookup 68 (.map (some b)) (.int .i64 (t : Int)) true).run Try.prog w = .ok (.tuple #[.int .i64 (((f t).getD 0 : Nat) : Int), .bool (f t).isSome]) w := by
  obtain ⟨D, h1, h2⟩ := h
  obtain ⟨v, ps, hr, hv⟩ := h1.look_ok iKeyed Try.underlying68 (zero_int10 _) (plainElem_int Try.underlying3 (by decide)) (keyI hk)
  obtain ⟨c, rfl, hc, hw⟩ := plainElem_int_inv Try.underlying3 hv
  have h3 := h2 t hk
  rw [h3.1] at hr
  have h4 := congrArg Prod.fst hc
  simp only at h4
  rw [h3.2] at h4
  simp only [DataW.lit.injEq, Lit.int.injEq, true_and] at h4
  rw [h4]
  exact hr
/-- `m[t] = x` -/
theorem PlacesI.update (h : PlacesI w b n f) (hk : t ≤ 1000000) (hn : n ≤ 1000000) (hm : m ≤ 1000000) :
    ∃ w', (Instr.mapUpdate 68 (.map (some b)) (.int .i64 (t : Int)) (.int .i64 (m : Int))).run Try.prog w = .ok () w' ∧ PlacesI w' b (n + 1) (putI f t m) ∧ w.grownBy w' (some b) := by
  obtain ⟨D, h2, h3⟩ := h
  have hkey := keyI hk
  obtain ⟨w', a1, a2, a3⟩ := h2.update iKeyed Try.underlying68 (by unfold maxLen; omega) hkey (plainElem_int Try.underlying3 (wf10 hm))
  refine ⟨w', a1, ⟨_, a2, fun q hq => ?_⟩, a3⟩
  have hkl : WideAt.IsKeyLit (litI t) := iKeyed.key hkey
  by_cases e : t = q
  · subst e
    unfold putI
    rw [if_pos (rfl)]
    change Maps.has (D.put (litI t) _) (litI t) = _ ∧ (D.put (litI t) _).atKey (litI t) _ = _
    rw [Maps.has_put_same h2.isMap hkl, Maps.atKey_put_same h2.isMap hkl]
    exact ⟨rfl, rfl⟩
  · have hne : litI q ≠ litI t := fun h => e (litI_inj h.symm)
    unfold putI
    rw [if_neg e, ← (h3 q hq).1, ← (h3 q hq).2]
    change Maps.has (D.put (litI t) _) (litI q) = _ ∧ (D.put (litI t) _).atKey (litI q) _ = _
    rw [Maps.has_put_other hne, Maps.atKey_put_other hne]
    exact ⟨rfl, rfl⟩
end
end Go.Proofs.Ythfholnnkdoagaa
