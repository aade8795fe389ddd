/-
  Layer 16: the checker's three maps. Own work.
-/
import Derived.Test.YtmiiclhhenepiaaOp16
import Derived.Maps.OwnSet
import Derived.Deep.AppendLies
import Derived.WideKeyEntry
import Derived.DeepKeys4
namespace Go.Proofs.Ytmiiclhhenepiaa
set_option linter.unusedVariables false
set_option linter.unusedSimpArgs false
open Go.RowKit Go.WideElems Go.MapKept

theorem zero_int16 (w : World) : (zeroValue 3).run Try.prog w = .ok (.int .i64 0) w := by kernel_rfl
theorem zero_unit16 (w : World) : (zeroValue 57).run Try.prog w = .ok (.agg #[]) w := by kernel_rfl
theorem zero_row16 (w : World) : (zeroValue 31).run Try.prog w = .ok (.slice none 0 0) w := by kernel_rfl
theorem uKeyed : Maps.Keyed Try.prog 59 := Maps.int_keyed Try.underlying59
theorem iKeyed : Maps.Keyed Try.prog 3 := Maps.int_keyed Try.underlying3
def litU (t : Nat) : Lit := .int .u64 (t : Int)
def litI (t : Nat) : Lit := .int .i64 (t : Int)
theorem litU_inj {t u : Nat} (h : litU t = litU u) : t = u := by
  unfold litU at h
  simp only [Lit.int.injEq, true_and] at h
  omega
theorem litI_inj {t u : Nat} (h : litI t = litI u) : t = u := by
  unfold litI at h
  simp only [Lit.int.injEq, true_and] at h
  omega
theorem wf16 {m : Nat} (h : m ≤ 1000000) : (Lit.int .i64 (m : Int)).wf = true := by
  have h2 : IntKind.i64.min = -9223372036854775808 := rfl
  have h3 : IntKind.i64.max = 9223372036854775807 := rfl
  simp only [Lit.wf, Bool.and_eq_true, decide_eq_true_eq]
  omega
theorem wfU16 {m : Nat} (h : m ≤ 18446744073709551615) : (Lit.int .u64 (m : Int)).wf = true := by
  have h2 : IntKind.u64.min = 0 := rfl
  have h3 : IntKind.u64.max = 18446744073709551615 := rfl
  simp only [Lit.wf, Bool.and_eq_true, decide_eq_true_eq]
  omega
theorem keyI16 {t : Nat} (h : t ≤ 1000000) : keyOf Try.prog 3 (.int .i64 (t : Int)) = some (litI t) := Maps.keyOf_int_mk Try.underlying3 (wf16 h)
theorem keyU16 {t : Nat} (h : t ≤ 18446744073709551615) : keyOf Try.prog 59 (.int .u64 (t : Int)) = some (litU t) := Maps.keyOf_int_mk Try.underlying59 (wfU16 h)
theorem grown_below {w w' : World} {row : Option Nat} {B : Nat} (h : w.grownBy w' row) (hB : ∀ b, row = some b → B ≤ b) (hs : B ≤ w.heap.size) : Below B w w' :=
  ⟨h.os, h.tape, h.output, h.size, fun k hk => h.block k (by omega) (fun e => by have := hB k e.symm; omega)⟩
theorem below_grown {w w' : World} (h : Below w.heap.size w w') (row : Option Nat) : w.grownBy w' row := ⟨h.os, h.tape, h.output, h.size, fun k hk _ => h.block k hk⟩

/-! the numbers of the variables -/
def pl16 (vs : List Nat) (v : Nat) : Nat := if v ∈ vs then vs.idxOf v else 0
def NumM (w : World) (b : Nat) (vs : List Nat) : Prop :=
  ∃ D : DataW Unit, w.ownsMap Try.prog 59 (plainElem Try.prog 3) b vs.length D ∧ Maps.size D = vs.length ∧
    ∀ v : Nat, v ≤ 18446744073709551615 → Maps.has D (litU v) = decide (v ∈ vs) ∧ D.atKey (litU v) (.lit (.int .i64 0)) = .lit (.int .i64 ((pl16 vs v : Nat) : Int))
section
variable {w w' : World} {b n v : Nat} {vs : List Nat} {row : Option Nat}
theorem NumM.made (w : World) : NumM (w.alloc (.map #[] 0)) w.heap.size [] :=
  ⟨_, World.ownsMap_made _ _ _ _, rfl, fun k _ => ⟨rfl, rfl⟩⟩
theorem NumM.kept (h : NumM w b vs) (hg : w.grownBy w' row) (hne : some b ≠ row) : NumM w' b vs := by
  obtain ⟨D, h1, h2⟩ := h
  exact ⟨D, h1.kept hg hne, h2⟩
theorem NumM.lt (h : NumM w b vs) : b < w.heap.size := by
  obtain ⟨D, h1, h2⟩ := h
  exact h1.lt
theorem NumM.look (h : NumM w b vs) (hk : v ≤ 18446744073709551615) : (Instr.lookup 48 (.map (some b)) (.int .u64 (v : Int)) true).run Try.prog w = .ok (.tuple #[.int .i64 ((pl16 vs v : Nat) : Int), .bool (decide (v ∈ vs))]) w := by
  obtain ⟨D, h1, h0, h2⟩ := h
  obtain ⟨u, ps, hr, hv⟩ := h1.look_ok uKeyed Try.underlying48 (zero_int16 _) (plainElem_int Try.underlying3 (by decide)) (keyU16 hk)
  obtain ⟨c, rfl, hc, hw⟩ := plainElem_int_inv Try.underlying3 hv
  have h3 := h2 v hk
  rw [h3.1] at hr
  have h4 := congrArg Prod.fst hc
  simp only at h4
  rw [h3.2] at h4
  simp only [DataW.lit.injEq, Lit.int.injEq, true_and] at h4
  rw [h4]
  exact hr
theorem NumM.len (h : NumM w b vs) (ty : TypeId) : (Builtin.len_ #[48] ty #[.map (some b)]).run Try.prog w = .ok (.int .i64 (vs.length : Int)) w := by
  obtain ⟨D, h1, h0, h2⟩ := h
  have := h1.len Try.underlying48 ty
  rw [h0] at this
  exact this
theorem NumM.push (h : NumM w b vs) (hk : v ≤ 18446744073709551615) (hn : vs.length ≤ 1000000) (hv : v ∉ vs) :
    ∃ w', (Instr.mapUpdate 48 (.map (some b)) (.int .u64 (v : Int)) (.int .i64 (vs.length : Int))).run Try.prog w = .ok () w' ∧ NumM w' b (vs ++ [v]) ∧ w.grownBy w' (some b) := by
  obtain ⟨D, h2, h0, h3⟩ := h
  have hkey := keyU16 hk
  obtain ⟨w', a1, a2, a3⟩ := h2.update uKeyed Try.underlying48 (by unfold maxLen; omega) hkey (plainElem_int Try.underlying3 (wf16 hn))
  have hkl : WideAt.IsKeyLit (litU v) := uKeyed.key hkey
  have hsz : Maps.size (D.put (litU v) (.lit (.int .i64 (vs.length : Int)))) = (vs ++ [v]).length := by
    rw [Maps.size_put (h2.tidy uKeyed), (h3 v hk).1, h0]
    simp [hv]
  refine ⟨w', a1, ⟨_, by rw [List.length_append, List.length_singleton]; exact a2, hsz, fun q hq => ?_⟩, a3⟩
  by_cases e : v = q
  · subst e
    change Maps.has (D.put (litU v) _) (litU v) = _ ∧ (D.put (litU v) _).atKey (litU v) _ = _
    rw [Maps.has_put_same h2.isMap hkl, Maps.atKey_put_same h2.isMap hkl]
    refine ⟨by simp, ?_⟩
    have : pl16 (vs ++ [v]) v = vs.length := by
      unfold pl16
      rw [if_pos (by simp), List.idxOf_append, if_neg hv]
      simp
    rw [this]
  · have hne : litU q ≠ litU v := fun h => e (litU_inj h.symm)
    have e' : ¬ q = v := fun h => e h.symm
    have e1 : decide (q ∈ vs ++ [v]) = decide (q ∈ vs) := by
      congr 1
      simp [e']
    have e2 : pl16 (vs ++ [v]) q = pl16 vs q := by
      unfold pl16
      by_cases hq2 : q ∈ vs
      · rw [if_pos (by simp [hq2]), if_pos hq2, List.idxOf_append, if_pos hq2]
      · rw [if_neg (by simp [hq2, e']), if_neg hq2]
    rw [e1, e2, ← (h3 q hq).1, ← (h3 q hq).2]
    change Maps.has (D.put (litU v) _) (litU q) = _ ∧ (D.put (litU v) _).atKey (litU q) _ = _
    rw [Maps.has_put_other hne, Maps.atKey_put_other hne]
    exact ⟨rfl, rfl⟩
end

/-! how many keys there are at most -/
def KeysLt (D : DataW Unit) (N : Nat) : Prop := ∃ ks : List Nat, ks.Nodup ∧ Maps.size D = ks.length ∧ (∀ v : Nat, Maps.has D (litI v) = true ↔ v ∈ ks) ∧ ∀ v ∈ ks, v < N
theorem nodup_lt16 : ∀ (N : Nat) (l : List Nat), l.Nodup → (∀ x ∈ l, x < N) → l.length ≤ N
  | 0, l, _, h => by
    cases l with
    | nil => exact Nat.le_refl _
    | cons a l => exact absurd (h a (by simp)) (by omega)
  | N + 1, l, hd, h => by
    have h1 := nodup_lt16 N (l.erase N) (hd.erase _) (fun x hx => by
      have := h x (List.mem_of_mem_erase hx)
      have hne : x ≠ N := fun e => by
        rw [e] at hx
        exact (List.Nodup.not_mem_erase hd) hx
      omega)
    have := List.length_erase_le (a := N) (l := l)
    by_cases hN : N ∈ l
    · rw [List.length_erase_of_mem hN] at h1
      omega
    · rw [List.erase_of_not_mem hN] at h1
      omega
section
variable {D : DataW Unit} {N N' v : Nat} {d : DataW Unit}
theorem KeysLt.size (h : KeysLt D N) : Maps.size D ≤ N := by
  obtain ⟨ks, h1, h2, _, h4⟩ := h
  rw [h2]
  exact nodup_lt16 N ks h1 h4
theorem KeysLt.mono (h : KeysLt D N) (hN : N ≤ N') : KeysLt D N' := by
  obtain ⟨ks, h1, h2, h3, h4⟩ := h
  exact ⟨ks, h1, h2, h3, fun v hv => Nat.lt_of_lt_of_le (h4 v hv) hN⟩
theorem KeysLt.put (h : KeysLt D N) (ht : Maps.Tidy D) (hm : Maps.IsMap D) (hkl : WideAt.IsKeyLit (litI v)) (hv : v < N) : KeysLt (D.put (litI v) d) N := by
  obtain ⟨ks, h1, h2, h3, h4⟩ := h
  have hh : ∀ u : Nat, Maps.has (D.put (litI v) d) (litI u) = true ↔ u = v ∨ u ∈ ks := by
    intro u
    by_cases e : u = v
    · rw [e, Maps.has_put_same hm hkl]; simp
    · rw [Maps.has_put_other (fun h => e (litI_inj h)), h3]; simp [e]
  by_cases hin : v ∈ ks
  · refine ⟨ks, h1, ?_, fun u => ?_, h4⟩
    · rw [Maps.size_put ht, if_pos ((h3 v).2 hin), h2]
    · rw [hh]
      constructor
      · rintro (rfl | h)
        · exact hin
        · exact h
      · exact .inr
  · refine ⟨v :: ks, List.nodup_cons.2 ⟨hin, h1⟩, ?_, fun u => ?_, fun u hu => ?_⟩
    · rw [Maps.size_put ht, if_neg (fun h => hin ((h3 v).1 h)), h2]; rfl
    · rw [hh]; simp
    · rcases List.mem_cons.1 hu with rfl | h
      · exact hv
      · exact h4 u h
theorem KeysLt.del (h : KeysLt D N) (ht : Maps.Tidy D) : KeysLt (D.del (litI v)) N := by
  obtain ⟨ks, h1, h2, h3, h4⟩ := h
  refine ⟨ks.erase v, h1.erase _, ?_, fun u => ?_, fun u hu => h4 u (List.mem_of_mem_erase hu)⟩
  · have := Maps.size_del (k := litI v) ht
    by_cases hin : v ∈ ks
    · rw [if_pos ((h3 v).2 hin)] at this
      rw [List.length_erase_of_mem hin]
      omega
    · rw [if_neg (fun h => hin ((h3 v).1 h))] at this
      rw [List.erase_of_not_mem hin]
      omega
  · rw [h1.mem_erase_iff]
    by_cases e : u = v
    · rw [e, Maps.has_del_same]; simp
    · rw [Maps.has_del_other (fun h => e (litI_inj h)), h3]; simp [e]
end
theorem tight16 {P : Program} {w : World} {k : TypeId} {R : Value → Option (DataW Unit × List MemPlace)} {b n : Nat} {D : DataW Unit} (h : w.ownsMap P k R b n D) : w.ownsMap P k R b (Maps.size D) D := by
  obtain ⟨es, clock, hb, F, hs, rfl⟩ := h
  exact ⟨es, clock, hb, F, by simp [Maps.size, length_sorted], rfl⟩

/-! a set of literals -/
def SetM (w : World) (b N : Nat) (T : Nat → Bool) : Prop :=
  ∃ (D : DataW Unit) (n : Nat), w.ownsMap Try.prog 3 unitElem b n D ∧ KeysLt D N ∧ ∀ v : Nat, v ≤ 1000000 → Maps.has D (litI v) = T v
def onT (T : Nat → Bool) (x : Nat) : Nat → Bool := fun q => if x = q then true else T q
def offT (T : Nat → Bool) (x : Nat) : Nat → Bool := fun q => if x = q then false else T q
section
variable {w w' : World} {b N N' v : Nat} {T : Nat → Bool} {row : Option Nat}
theorem keys0 (N : Nat) : KeysLt (.map []) N := ⟨[], by simp, rfl, fun v => by constructor <;> intro h <;> simp_all [Maps.has], by simp⟩
theorem SetM.made (w : World) (N : Nat) : SetM (w.alloc (.map #[] 0)) w.heap.size N (fun _ => false) :=
  ⟨_, _, World.ownsMap_made _ _ _ _, keys0 N, fun k _ => rfl⟩
theorem SetM.kept (h : SetM w b N T) (hg : w.grownBy w' row) (hne : some b ≠ row) : SetM w' b N T := by
  obtain ⟨D, n, h1, h2⟩ := h
  exact ⟨D, n, h1.kept hg hne, h2⟩
theorem SetM.mono (h : SetM w b N T) (hm : N ≤ N') : SetM w b N' T := by
  obtain ⟨D, n, h1, h2, h3⟩ := h
  exact ⟨D, n, h1, h2.mono hm, h3⟩
theorem SetM.lt (h : SetM w b N T) : b < w.heap.size := by
  obtain ⟨D, n, h1, h2⟩ := h
  exact h1.lt
theorem SetM.look (h : SetM w b N T) (hk : v ≤ 1000000) : (Instr.lookup 49 (.map (some b)) (.int .i64 (v : Int)) true).run Try.prog w = .ok (.tuple #[.agg #[], .bool (T v)]) w := by
  obtain ⟨D, n, h1, _, h2⟩ := h
  obtain ⟨u, ps, hr, hv⟩ := h1.look_ok iKeyed Try.underlying49 (zero_unit16 _) unitElem_mk (keyI16 hk)
  obtain ⟨rfl, _⟩ := unitElem_inv hv
  rw [h2 v hk] at hr
  exact hr
theorem SetM.add (h : SetM w b N T) (hk : v < N) (hn : N ≤ 1000000) :
    ∃ w', (Instr.mapUpdate 49 (.map (some b)) (.int .i64 (v : Int)) (.agg #[])).run Try.prog w = .ok () w' ∧ SetM w' b N (onT T v) ∧ w.grownBy w' (some b) := by
  obtain ⟨D, n, h0, h2, h3⟩ := h
  have h1 := tight16 h0
  have hsz := h2.size
  have hkey := keyI16 (t := v) (by omega)
  obtain ⟨w', a1, a2, a3⟩ := h1.update iKeyed Try.underlying49 (by unfold maxLen; omega) hkey unitElem_mk
  have hkl : WideAt.IsKeyLit (litI v) := iKeyed.key hkey
  refine ⟨w', a1, ⟨_, _, a2, h2.put (h0.tidy iKeyed) h0.isMap hkl hk, fun q hq => ?_⟩, a3⟩
  unfold onT
  by_cases e : v = q
  · subst e
    rw [if_pos rfl]
    exact Maps.has_put_same h1.isMap hkl _
  · rw [if_neg e, ← h3 q hq]
    exact Maps.has_put_other (fun h => e (litI_inj h.symm)) _
theorem SetM.drop (h : SetM w b N T) (hk : v ≤ 1000000) (ty : TypeId) :
    ∃ w', (Builtin.delete_ #[49, 3] ty #[.map (some b), .int .i64 (v : Int)]).run Try.prog w = .ok (.tuple #[]) w' ∧ SetM w' b N (offT T v) ∧ w.grownBy w' (some b) := by
  obtain ⟨D, n, h1, h2, h3⟩ := h
  obtain ⟨w', a1, a2, a3⟩ := h1.drop iKeyed Try.underlying49 (keyI16 hk) ty
  refine ⟨w', a1, ⟨_, _, a2, h2.del (h1.tidy iKeyed), fun q hq => ?_⟩, a3.grown⟩
  unfold offT
  by_cases e : v = q
  · subst e
    rw [if_pos rfl]
    exact Maps.has_del_same
  · rw [if_neg e, ← h3 q hq]
    exact Maps.has_del_other (fun h => e (litI_inj h.symm))
end
/-! rows by literals: the map holds the slices as they are -/
def sliE : Value → Option (DataW Unit × List MemPlace)
  | .slice none 0 0 => some (.nil, [])
  | .slice (some ⟨b, 0, none⟩) n c => some (.agg [.lit (.int .i64 b), .lit (.int .i64 n), .lit (.int .i64 c)], [])
  | _ => none
def sliD (v : Value) : DataW Unit := match v with
  | .slice (some ⟨b, 0, none⟩) n c => .agg [.lit (.int .i64 b), .lit (.int .i64 n), .lit (.int .i64 c)]
  | _ => .nil
def SlV (v : Value) : Prop := v = .slice none 0 0 ∨ ∃ b n c, v = .slice (some ⟨b, 0, none⟩) n c
theorem sliE_mk {v : Value} (h : SlV v) : sliE v = some (sliD v, []) := by
  rcases h with rfl | ⟨b, n, c, rfl⟩ <;> rfl
theorem sliE_inv {v : Value} {z : DataW Unit × List MemPlace} (h : sliE v = some z) : SlV v ∧ z = (sliD v, []) := by
  unfold sliE at h
  split at h
  · exact ⟨.inl rfl, (Option.some.inj h).symm⟩
  · exact ⟨.inr ⟨_, _, _, rfl⟩, (Option.some.inj h).symm⟩
  · cases h
theorem sliD_inj {v u : Value} (hv : SlV v) (hu : SlV u) (h : sliD v = sliD u) : v = u := by
  rcases hv with rfl | ⟨b, n, c, rfl⟩ <;> rcases hu with rfl | ⟨b2, n2, c2, rfl⟩
  · rfl
  · cases h
  · cases h
  · simp only [sliD, DataW.agg.injEq, List.cons.injEq, DataW.lit.injEq, Lit.int.injEq, true_and, and_true] at h
    obtain ⟨h1, h2, h3⟩ := h
    rw [show b = b2 by omega, show n = n2 by omega, show c = c2 by omega]
def SliM (w : World) (b N : Nat) (f : Nat → Value) : Prop :=
  ∃ (D : DataW Unit) (n : Nat), w.ownsMap Try.prog 3 sliE b n D ∧ KeysLt D N ∧ ∀ v : Nat, v ≤ 1000000 → SlV (f v) ∧ D.atKey (litI v) .nil = sliD (f v)
def putR (f : Nat → Value) (x : Nat) (v : Value) : Nat → Value := fun q => if x = q then v else f q
section
variable {w w' : World} {b N N' v : Nat} {f : Nat → Value} {u : Value} {row : Option Nat}
theorem SliM.made (w : World) (N : Nat) : SliM (w.alloc (.map #[] 0)) w.heap.size N (fun _ => .slice none 0 0) :=
  ⟨_, _, World.ownsMap_made _ _ _ _, keys0 N, fun k _ => ⟨.inl rfl, rfl⟩⟩
theorem SliM.kept (h : SliM w b N f) (hg : w.grownBy w' row) (hne : some b ≠ row) : SliM w' b N f := by
  obtain ⟨D, n, h1, h2⟩ := h
  exact ⟨D, n, h1.kept hg hne, h2⟩
theorem SliM.mono (h : SliM w b N f) (hm : N ≤ N') : SliM w b N' f := by
  obtain ⟨D, n, h1, h2, h3⟩ := h
  exact ⟨D, n, h1, h2.mono hm, h3⟩
theorem SliM.lt (h : SliM w b N f) : b < w.heap.size := by
  obtain ⟨D, n, h1, h2⟩ := h
  exact h1.lt
theorem SliM.look (h : SliM w b N f) (hk : v ≤ 1000000) : (Instr.lookup 50 (.map (some b)) (.int .i64 (v : Int)) false).run Try.prog w = .ok (f v) w := by
  obtain ⟨D, n, h1, _, h2⟩ := h
  obtain ⟨u, ps, hr, hv⟩ := h1.lookup iKeyed Try.underlying50 (zero_row16 _) (sliE_mk (.inl rfl)) (keyI16 hk)
  obtain ⟨h3, h4⟩ := sliE_inv hv
  have h5 := h2 v hk
  rw [show sliD (.slice none 0 0) = .nil from rfl, h5.2] at h4
  simp only [Prod.mk.injEq] at h4
  rw [sliD_inj h5.1 h3 h4.1]
  exact hr
theorem SliM.put (h : SliM w b N f) (hk : v < N) (hn : N ≤ 1000000) (hu : SlV u) :
    ∃ w', (Instr.mapUpdate 50 (.map (some b)) (.int .i64 (v : Int)) u).run Try.prog w = .ok () w' ∧ SliM w' b N (putR f v u) ∧ w.grownBy w' (some b) := by
  obtain ⟨D, n, h0, h2, h3⟩ := h
  have h1 := tight16 h0
  have hsz := h2.size
  have hkey := keyI16 (t := v) (by omega)
  obtain ⟨w', a1, a2, a3⟩ := h1.update iKeyed Try.underlying50 (by unfold maxLen; omega) hkey (sliE_mk hu)
  have hkl : WideAt.IsKeyLit (litI v) := iKeyed.key hkey
  refine ⟨w', a1, ⟨_, _, a2, h2.put (h0.tidy iKeyed) h0.isMap hkl hk, fun q hq => ?_⟩, a3⟩
  unfold putR
  by_cases e : v = q
  · subst e
    rw [if_pos rfl]
    exact ⟨hu, Maps.atKey_put_same h1.isMap hkl _ _⟩
  · rw [if_neg e, ← (h3 q hq).2]
    exact ⟨(h3 q hq).1, Maps.atKey_put_other (fun h => e (litI_inj h.symm)) _ _⟩
end
end Go.Proofs.Ytmiiclhhenepiaa
