/-
  Layer 8: maps of one's own: places by names (cut out of layer 10's). Own work.
-/
import Derived.Test.YthfholnnkdoagaaAdd8
import Derived.Test.YthfholnnkdoagaaRowP10
import Derived.Maps.OwnSet
import Derived.WideKeyEntry
import Derived.DeepKeys4
namespace Go.Proofs.Ythfholnnkdoagaa
set_option linter.unusedVariables false
set_option linter.unusedSimpArgs false
open Go.RowKit Go.WideElems Go.MapKept

theorem zero_int10 (w : World) : (zeroValue 3).run Try.prog w = .ok (.int .i64 0) w := by kernel_rfl
theorem sKeyed : Maps.Keyed Try.prog 9 := Maps.string_keyed Try.underlying9
def litN (t : ByteArray) : Lit := .string t.data.toList
theorem litN_inj {t u : ByteArray} (h : litN t = litN u) : t = u := by
  unfold litN at h
  simp only [Lit.string.injEq] at h
  exact ByteArray.ext (Array.ext' h)
/-- block b is a map of at most n entries that gives each name its place -/
def Places (w : World) (b n : Nat) (f : ByteArray → Option Nat) : Prop :=
  ∃ D : DataW Unit, w.ownsMap Try.prog 9 (plainElem Try.prog 3) b n D ∧ ∀ t : ByteArray, t.size ≤ maxLen → Maps.has D (litN t) = (f t).isSome ∧ D.atKey (litN t) (.lit (.int .i64 0)) = .lit (.int .i64 (((f t).getD 0 : Nat) : Int))
def putF (f : ByteArray → Option Nat) (t : ByteArray) (m : Nat) : ByteArray → Option Nat := fun q => if eqS t q = true then some m else f q
section
variable {w w' : World} {b n m : Nat} {f g : ByteArray → Option Nat} {t : ByteArray} {row : Option Nat}
theorem Places.made (w : World) : Places (w.alloc (.map #[] 0)) w.heap.size 0 (fun _ => none) :=
  ⟨_, World.ownsMap_made _ _ _ _, fun k _ => ⟨rfl, rfl⟩⟩
theorem Places.same (h : Places w b n f) (hfg : ∀ k, f k = g k) : Places w b n g := by
  obtain ⟨D, h1, h2⟩ := h
  exact ⟨D, h1, fun k hk => by rw [← hfg k]; exact h2 k hk⟩
theorem Places.kept (h : Places w b n f) (hg : w.grownBy w' row) (hne : some b ≠ row) : Places w' b n f := by
  obtain ⟨D, h1, h2⟩ := h
  exact ⟨D, h1.kept hg hne, h2⟩
theorem Places.below (h : Places w b n f) (hb : Below w.heap.size w w') : Places w' b n f :=
  h.kept (⟨hb.os, hb.tape, hb.output, hb.size, fun k hk _ => hb.block k hk⟩ : w.grownBy w' none) (by simp)
theorem Places.lt (h : Places w b n f) : b < w.heap.size := by
  obtain ⟨D, h1, h2⟩ := h
  exact h1.lt
theorem Places.look (h : Places w b n f) (hk : t.size ≤ maxLen) : (Instr.lookup 63 (.map (some b)) (.string t) true).run Try.prog w = .ok (.tuple #[.int .i64 (((f t).getD 0 : Nat) : Int), .bool (f t).isSome]) w := by
  obtain ⟨D, h1, h2⟩ := h
  obtain ⟨v, ps, hr, hv⟩ := h1.look_ok sKeyed Try.underlying63 (zero_int10 _) (plainElem_int Try.underlying3 (by decide)) (Go.WideMaps.keyOf_string_mk Try.underlying9 hk)
  obtain ⟨c, rfl, hc, hw⟩ := plainElem_int_inv Try.underlying3 hv
  have h3 := h2 t hk
  unfold litN at h3
  rw [h3.1] at hr
  have h4 := congrArg Prod.fst hc
  simp only at h4
  rw [h3.2] at h4
  simp only [DataW.lit.injEq, Lit.int.injEq, true_and] at h4
  rw [h4]
  exact hr
theorem wf10 {m : Nat} (h : m ≤ 1000000) : (Lit.int .i64 (m : Int)).wf = true := by
  have h2 : IntKind.i64.min = -9223372036854775808 := rfl
  have h3 : IntKind.i64.max = 9223372036854775807 := rfl
  simp only [Lit.wf, Bool.and_eq_true, decide_eq_true_eq]
  omega
/-- `m[t] = x` -/
theorem Places.update (h : Places w b n f) (hk : t.size ≤ maxLen) (hn : n ≤ 1000000) (hm : m ≤ 1000000) :
    ∃ w', (Instr.mapUpdate 63 (.map (some b)) (.string t) (.int .i64 (m : Int))).run Try.prog w = .ok () w' ∧ Places w' b (n + 1) (putF f t m) ∧ w.grownBy w' (some b) := by
  obtain ⟨D, h2, h3⟩ := h
  have hkey := Go.WideMaps.keyOf_string_mk (P := Try.prog) Try.underlying9 hk
  obtain ⟨w', a1, a2, a3⟩ := h2.update sKeyed Try.underlying63 (by unfold maxLen; omega) hkey (plainElem_int Try.underlying3 (wf10 hm))
  refine ⟨w', a1, ⟨_, a2, fun q hq => ?_⟩, a3⟩
  have hkl : WideAt.IsKeyLit (litN t) := sKeyed.key hkey
  by_cases e : t = q
  · subst e
    unfold putF
    rw [if_pos (eqS_self t)]
    change Maps.has (D.put (litN t) _) (litN t) = _ ∧ (D.put (litN t) _).atKey (litN t) _ = _
    rw [Maps.has_put_same h2.isMap hkl, Maps.atKey_put_same h2.isMap hkl]
    exact ⟨rfl, rfl⟩
  · have hne : litN q ≠ litN t := fun h => e (litN_inj h.symm)
    unfold putF
    rw [if_neg (fun hx => e (eqS_iff.1 hx)), ← (h3 q hq).1, ← (h3 q hq).2]
    change Maps.has (D.put (litN t) _) (litN q) = _ ∧ (D.put (litN t) _).atKey (litN q) _ = _
    rw [Maps.has_put_other hne, Maps.atKey_put_other hne]
    exact ⟨rfl, rfl⟩
end
end Go.Proofs.Ythfholnnkdoagaa
