/-
  Layer 10: maps of one's own: a set of keys; a map of places by names. Own work.
-/
import Derived.Test.YtjkmmmmbdfcnbaaOwn10
import Derived.Test.YtjkmmmmbdfcnbaaHas10
import Derived.Maps.OwnSet
import Derived.WideKeyEntry
import Derived.DeepKeys4
namespace Go.Proofs.Ytjkmmmmbdfcnbaa
set_option linter.unusedVariables false
set_option linter.unusedSimpArgs false
open Go.RowKit Go.WideElems Go.MapKept

theorem run_makeMap_n {t k e : TypeId} (n : Int) (w : World) (ht : Try.prog.underlying t = some (.map k e)) : (Instr.makeMap t (some (.int .i64 n))).run Try.prog w = .ok (.map (some w.heap.size)) (w.alloc (.map #[] 0)) := by
  unfold Instr.makeMap
  simp only [Sem.run_bind, run_underlying ht, Result.andThen_ok]
  rfl
def okKy (k : Ky) : Prop := k.g.size ≤ maxLen ∧ k.a.size ≤ maxLen ∧ k.t.size ≤ maxLen ∧ k.c.size ≤ maxLen
def litK (k : Ky) : Lit := .string (keyBytes [.string k.g.data.toList, .string k.a.data.toList, .string k.t.data.toList, .string k.c.data.toList])
theorem rowK : (45 : TypeId) < Try.prog.types.size := of_decide_eq_true (by kernel_rfl)
theorem wideK : (match Try.prog.underlying 45 with | some (.array _ _) | some (.struct _) => true | _ => false) = true := by rw [Try.underlying45]
theorem kLaw : WideMaps.KeyLaw Try.prog 45 := deep_law_laid laid_out (m := 2) (by omega) rowK (by kernel_rfl) wideK
theorem kKeyed : Maps.Keyed Try.prog 45 := Maps.Keyed.of_law kLaw
theorem key_is {k : Ky} (h : okKy k) : keyOf Try.prog 45 (.agg #[.string k.g, .string k.a, .string k.t, .string k.c]) = some (litK k) := by
  obtain ⟨h0, h1, h2, h3⟩ := h
  have hkt : Try.prog.keyType 45 = true := by kernel_rfl
  have hc : Try.prog.cellsOf 45 = 4 := by kernel_rfl
  have hs : Try.prog.cellsOf 9 = 1 := by kernel_rfl
  obtain ⟨m, hm⟩ : ∃ m, Try.prog.types.size = m + 1 := ⟨_, (show Try.prog.types.size = (Try.prog.types.size - 1) + 1 by kernel_rfl)⟩
  unfold keyOf
  simp only [Try.underlying45]
  rw [if_pos (by simp [hkt, Value.formed, Try.underlying45, hc]), hm]
  unfold Program.keyLits
  simp only [Try.underlying45, Value.cells]
  rw [if_pos ⟨by rw [hc]; rfl, by simp⟩]
  simp [List.mapM_cons, List.mapM_nil, Program.keyLits, hs, Try.underlying9, h0, h1, h2, h3, litK]
theorem litK_inj {k k' : Ky} (h : okKy k) (h' : okKy k') (e : litK k = litK k') : k = k' := by
  have := kLaw.inj (key_is h) (e ▸ key_is h')
  obtain ⟨a, b, c, d⟩ := k
  obtain ⟨a', b', c', d'⟩ := k'
  simp only [Value.agg.injEq, Array.mk.injEq, List.cons.injEq, Value.string.injEq, and_true] at this
  obtain ⟨rfl, rfl, rfl, rfl⟩ := this
  rfl
theorem zero_unit (w : World) : (zeroValue 69).run Try.prog w = .ok (.agg #[]) w := by kernel_rfl
/-- block b is a set of at most n keys, those of f -/
def KeySet (w : World) (b n : Nat) (f : Ky → Bool) : Prop :=
  ∃ D : DataW Unit, w.ownsMap Try.prog 45 unitElem b n D ∧ ∀ k, okKy k → Maps.has D (litK k) = f k
section
variable {w w' : World} {b n : Nat} {f g : Ky → Bool} {k : Ky} {row : Option Nat}
theorem KeySet.made (w : World) : KeySet (w.alloc (.map #[] 0)) w.heap.size 0 (fun _ => false) :=
  ⟨_, World.ownsMap_made _ _ _ _, fun k _ => rfl⟩
theorem KeySet.same (h : KeySet w b n f) (hfg : ∀ k, f k = g k) : KeySet w b n g := by
  obtain ⟨D, h1, h2⟩ := h
  exact ⟨D, h1, fun k hk => (h2 k hk).trans (hfg k)⟩
theorem KeySet.kept (h : KeySet w b n f) (hg : w.grownBy w' row) (hne : some b ≠ row) : KeySet w' b n f := by
  obtain ⟨D, h1, h2⟩ := h
  exact ⟨D, h1.kept hg hne, h2⟩
theorem KeySet.below (h : KeySet w b n f) (hb : Below w.heap.size w w') : KeySet w' b n f :=
  h.kept (⟨hb.os, hb.tape, hb.output, hb.size, fun k hk _ => hb.block k hk⟩ : w.grownBy w' none) (by simp)
theorem KeySet.lt (h : KeySet w b n f) : b < w.heap.size := by
  obtain ⟨D, h1, h2⟩ := h
  exact h1.lt
theorem KeySet.look (h : KeySet w b n f) (hk : okKy k) : (Instr.lookup 68 (.map (some b)) (.agg #[.string k.g, .string k.a, .string k.t, .string k.c]) true).run Try.prog w = .ok (.tuple #[.agg #[], .bool (f k)]) w := by
  obtain ⟨D, h1, h2⟩ := h
  obtain ⟨v, ps, hr, hv⟩ := h1.look_ok kKeyed Try.underlying68 (zero_unit _) unitElem_mk (key_is hk)
  rw [h2 k hk] at hr
  obtain ⟨rfl, -⟩ := unitElem_inv hv
  exact hr
/-- `m[k] = struct{}{}` -/
theorem KeySet.update (h : KeySet w b n f) (hk : okKy k) (hn : n ≤ 1000000) :
    ∃ w', (Instr.mapUpdate 68 (.map (some b)) (.agg #[.string k.g, .string k.a, .string k.t, .string k.c]) (.agg #[])).run Try.prog w = .ok () w' ∧ KeySet w' b (n + 1) (fun q => f q || sameKy k q) ∧ w.grownBy w' (some b) := by
  obtain ⟨D, h2, h3⟩ := h
  obtain ⟨w', a1, a2, a3⟩ := h2.update kKeyed Try.underlying68 (by unfold maxLen; omega) (key_is hk) unitElem_mk
  refine ⟨w', a1, ⟨_, a2, fun q hq => ?_⟩, a3⟩
  have hkl : WideAt.IsKeyLit (litK k) := kKeyed.key (key_is hk)
  by_cases e : k = q
  · subst e
    show Maps.has _ _ = (f k || sameKy k k)
    rw [Maps.has_put_same h2.isMap hkl, sameKy_iff.2 rfl, Bool.or_true]
  · have hne : litK q ≠ litK k := fun h => e (litK_inj hk hq h.symm)
    have hs : sameKy k q = false := by cases hx : sameKy k q with | false => rfl | true => exact absurd (sameKy_iff.1 hx) e
    show Maps.has _ _ = (f q || sameKy k q)
    rw [Maps.has_put_other hne, h3 q hq, hs, Bool.or_false]
end
/-! names -/
theorem zero_int10 (w : World) : (zeroValue 3).run Try.prog w = .ok (.int .i64 0) w := by kernel_rfl
theorem sKeyed : Maps.Keyed Try.prog 9 := Maps.string_keyed Try.underlying9
def litN (t : ByteArray) : Lit := .string t.data.toList
theorem litN_inj {t u : ByteArray} (h : litN t = litN u) : t = u := by
  unfold litN at h
  simp only [Lit.string.injEq] at h
  exact ByteArray.ext (Array.ext' h)
/-- block b is a map of at most n entries that gives each name its place -/
def Places (w : World) (b n : Nat) (f : ByteArray → Option Nat) : Prop :=
  ∃ D : DataW Unit, w.ownsMap Try.prog 9 (plainElem Try.prog 3) b n D ∧ ∀ t : ByteArray, t.size ≤ maxLen → Maps.has D (litN t) = (f t).isSome ∧ D.atKey (litN t) (.lit (.int .i64 0)) = .lit (.int .i64 (((f t).getD 0 : Nat) : Int))
def putF (f : ByteArray → Option Nat) (t : ByteArray) (m : Nat) : ByteArray → Option Nat := fun q => if eqS t q = true then some m else f q
section
variable {w w' : World} {b n m : Nat} {f g : ByteArray → Option Nat} {t : ByteArray} {row : Option Nat}
theorem Places.made (w : World) : Places (w.alloc (.map #[] 0)) w.heap.size 0 (fun _ => none) :=
  ⟨_, World.ownsMap_made _ _ _ _, fun k _ => ⟨rfl, rfl⟩⟩
theorem Places.same (h : Places w b n f) (hfg : ∀ k, f k = g k) : Places w b n g := by
  obtain ⟨D, h1, h2⟩ := h
  exact ⟨D, h1, fun k hk => by rw [← hfg k]; exact h2 k hk⟩
theorem Places.kept (h : Places w b n f) (hg : w.grownBy w' row) (hne : some b ≠ row) : Places w' b n f := by
  obtain ⟨D, h1, h2⟩ := h
  exact ⟨D, h1.kept hg hne, h2⟩
theorem Places.below (h : Places w b n f) (hb : Below w.heap.size w w') : Places w' b n f :=
  h.kept (⟨hb.os, hb.tape, hb.output, hb.size, fun k hk _ => hb.block k hk⟩ : w.grownBy w' none) (by simp)
theorem Places.lt (h : Places w b n f) : b < w.heap.size := by
  obtain ⟨D, h1, h2⟩ := h
  exact h1.lt
theorem Places.look (h : Places w b n f) (hk : t.size ≤ maxLen) : (Instr.lookup 60 (.map (some b)) (.string t) true).run Try.prog w = .ok (.tuple #[.int .i64 (((f t).getD 0 : Nat) : Int), .bool (f t).isSome]) w := by
  obtain ⟨D, h1, h2⟩ := h
  obtain ⟨v, ps, hr, hv⟩ := h1.look_ok sKeyed Try.underlying60 (zero_int10 _) (plainElem_int Try.underlying3 (by decide)) (Go.WideMaps.keyOf_string_mk Try.underlying9 hk)
  obtain ⟨c, rfl, hc, hw⟩ := plainElem_int_inv Try.underlying3 hv
  have h3 := h2 t hk
  unfold litN at h3
  rw [h3.1] at hr
  have h4 := congrArg Prod.fst hc
  simp only at h4
  rw [h3.2] at h4
  simp only [DataW.lit.injEq, Lit.int.injEq, true_and] at h4
  rw [h4]
  exact hr
theorem wf10 {m : Nat} (h : m ≤ 1000000) : (Lit.int .i64 (m : Int)).wf = true := by
  have h2 : IntKind.i64.min = -9223372036854775808 := rfl
  have h3 : IntKind.i64.max = 9223372036854775807 := rfl
  simp only [Lit.wf, Bool.and_eq_true, decide_eq_true_eq]
  omega
/-- `m[t] = x` -/
theorem Places.update (h : Places w b n f) (hk : t.size ≤ maxLen) (hn : n ≤ 1000000) (hm : m ≤ 1000000) :
    ∃ w', (Instr.mapUpdate 60 (.map (some b)) (.string t) (.int .i64 (m : Int))).run Try.prog w = .ok () w' ∧ Places w' b (n + 1) (putF f t m) ∧ w.grownBy w' (some b) := by
  obtain ⟨D, h2, h3⟩ := h
  have hkey := Go.WideMaps.keyOf_string_mk (P := Try.prog) Try.underlying9 hk
  obtain ⟨w', a1, a2, a3⟩ := h2.update sKeyed Try.underlying60 (by unfold maxLen; omega) hkey (plainElem_int Try.underlying3 (wf10 hm))
  refine ⟨w', a1, ⟨_, a2, fun q hq => ?_⟩, a3⟩
  have hkl : WideAt.IsKeyLit (litN t) := sKeyed.key hkey
  by_cases e : t = q
  · subst e
    unfold putF
    rw [if_pos (eqS_self t)]
    change Maps.has (D.put (litN t) _) (litN t) = _ ∧ (D.put (litN t) _).atKey (litN t) _ = _
    rw [Maps.has_put_same h2.isMap hkl, Maps.atKey_put_same h2.isMap hkl]
    exact ⟨rfl, rfl⟩
  · have hne : litN q ≠ litN t := fun h => e (litN_inj h.symm)
    unfold putF
    rw [if_neg (fun hx => e (eqS_iff.1 hx)), ← (h3 q hq).1, ← (h3 q hq).2]
    change Maps.has (D.put (litN t) _) (litN q) = _ ∧ (D.put (litN t) _).atKey (litN q) _ = _
    rw [Maps.has_put_other hne, Maps.atKey_put_other hne]
    exact ⟨rfl, rfl⟩
end
end Go.Proofs.Ytjkmmmmbdfcnbaa
