/-
  Layer 29: the answer's work in memory: its struct, what is fixed, what is left. Own work.
-/
import Derived.Test.YtlcbfahaapodmaaRo29
namespace Go.Proofs.Ytlcbfahaapodmaa
set_option linter.unusedVariables false
set_option linter.unusedSimpArgs false
open Go.RowKit

def privK (K : Nat) (fv uv : Value) : Nat → Prop := fun b => b = K ∨ fv.ownBlock = some b ∨ uv.ownBlock = some b
structure KR (w : World) (n0 K : Nat) (cv fv uv : Value) (s : TS) : Prop where
  top : w.heap[K]? = some (.cells #[cv, fv, uv, .bool s.en] 39 (0, 0))
  fx : w.ownsRow n0 3 1 fv s.fx.length (s.fx.map iV)
  un : ∃ us : List Int, us.length = s.sg ∧ w.ownsRow n0 3 1 uv us.length (us.map iV)
  C : RdK w (privK K fv uv) cv s.C
  d1 : fv.ownBlock ≠ some K
  d2 : uv.ownBlock ≠ some K
  d3 : ∀ b, fv.ownBlock = some b → uv.ownBlock ≠ some b
  base : n0 ≤ K
section
variable {w w' : World} {n0 K : Nat} {cv fv uv v : Value} {s : TS}
theorem KR.lt (h : KR w n0 K cv fv uv s) : K < w.heap.size := (Array.getElem?_eq_some_iff.1 h.top).1
theorem KR.cell (h : KR w n0 K cv fv uv s) (i : Nat) : w.cell? ⟨K, i, none⟩ = (#[cv, fv, uv, .bool s.en] : Array Value)[i]? := cell_of_row w K i _ _ (0, 0) h.top
theorem KR.froz (h : KR w n0 K cv fv uv s) (i : Nat) : w.frozen? ⟨K, i, none⟩ = false := frozen_of_row w K i _ _ h.top
theorem KR.priv (h : KR w n0 K cv fv uv s) : ∀ b, privK K fv uv b → b < w.heap.size ∧ n0 ≤ b := fun b hb => by
  obtain ⟨us, _, hu⟩ := h.un
  rcases hb with rfl | hb | hb
  · exact ⟨h.lt, h.base⟩
  · exact ⟨(h.fx.lt b hb).2, (h.fx.lt b hb).1⟩
  · exact ⟨(hu.lt b hb).2, (hu.lt b hb).1⟩
theorem KR.grow (h : KR w n0 K cv fv uv s) (hg : w.grownBy w' none) : KR w' n0 K cv fv uv s := by
  obtain ⟨us, u1, hu⟩ := h.un
  exact ⟨(hg.block K h.lt (by simp)).trans h.top, own_kept0 h.fx hg, ⟨us, u1, own_kept0 hu hg⟩, h.C.keep (KeepW.of hg (fun b h => by cases h)), h.d1, h.d2, h.d3, h.base⟩
/-- other clauses -/
theorem KR.setC (h : KR w n0 K cv fv uv s) {cs : List (List Int)} (hC : RdK w (privK K fv uv) v cs) : KR (w.setCell ⟨K, 0, none⟩ v) n0 K v fv uv { s with C := cs } ∧ w.grownBy (w.setCell ⟨K, 0, none⟩ v) (some K) := by
  have hg : w.grownBy (w.setCell ⟨K, 0, none⟩ v) (some K) := ⟨rfl, rfl, rfl, by simp, fun k _ hk => heap_setCell_other w _ k v (fun e => hk (by simp [e]))⟩
  obtain ⟨us, u1, hu⟩ := h.un
  refine ⟨⟨by have := heap_setCell_same w K 0 _ _ v h.top; simpa using this, h.fx.kept hg ?_, ⟨us, u1, hu.kept hg ?_⟩, hC.keep (KeepW.of hg (fun b hb => .inl (Option.some.inj hb).symm)), h.d1, h.d2, h.d3, h.base⟩, hg⟩
  · exact .inr h.d1
  · exact .inr h.d2
/-- the end -/
theorem KR.setEnd (h : KR w n0 K cv fv uv s) (b : Bool) : KR (w.setCell ⟨K, 3, none⟩ (.bool b)) n0 K cv fv uv { s with en := b } ∧ w.grownBy (w.setCell ⟨K, 3, none⟩ (.bool b)) (some K) := by
  have hg : w.grownBy (w.setCell ⟨K, 3, none⟩ (.bool b)) (some K) := ⟨rfl, rfl, rfl, by simp, fun k _ hk => heap_setCell_other w _ k _ (fun e => hk (by simp [e]))⟩
  obtain ⟨us, u1, hu⟩ := h.un
  refine ⟨⟨by have := heap_setCell_same w K 3 _ _ (.bool b) h.top; simpa using this, h.fx.kept hg (.inr h.d1), ⟨us, u1, hu.kept hg (.inr h.d2)⟩, h.C.keep (KeepW.of hg (fun b hb => .inl (Option.some.inj hb).symm)), h.d1, h.d2, h.d3, h.base⟩, hg⟩
/-- a literal more that is fixed: behind the append, and the store -/
theorem KR.pushFx (h : KR w n0 K cv fv uv s) {n : Int} {g cap : Nat} (ho : w'.ownsRow n0 3 1 (.slice (some ⟨g, 0, none⟩) (s.fx.length + 1) cap) (s.fx.length + 1) (s.fx.map iV ++ [iV n])) (hg : w.grownBy w' fv.ownBlock) (hat : fv.ownBlock = some g ∨ (w.heap.size ≤ g ∧ g < w'.heap.size)) :
    w'.cell? ⟨K, 1, none⟩ = some fv ∧ w'.frozen? ⟨K, 1, none⟩ = false ∧ KR (w'.setCell ⟨K, 1, none⟩ (.slice (some ⟨g, 0, none⟩) (s.fx.length + 1) cap)) n0 K cv (.slice (some ⟨g, 0, none⟩) (s.fx.length + 1) cap) uv { s with fx := s.fx ++ [n] } := by
  have hlt := h.lt
  have hK : w'.heap[K]? = some (.cells #[cv, fv, uv, .bool s.en] 39 (0, 0)) := (hg.block K hlt (fun e => h.d1 e.symm)).trans h.top
  have hgK : g ≠ K := by
    rcases hat with hat | hat
    · exact fun e => h.d1 (by rw [hat, e])
    · omega
  have hgs : w'.grownBy (w'.setCell ⟨K, 1, none⟩ (.slice (some ⟨g, 0, none⟩) (s.fx.length + 1) cap)) (some K) := ⟨rfl, rfl, rfl, by simp, fun k _ hk => heap_setCell_other w' _ k _ (fun e => hk (by simp [e]))⟩
  obtain ⟨us, u1, hu⟩ := h.un
  have hug : uv.ownBlock ≠ some g := by
    intro e
    rcases hat with hat | hat
    · exact h.d3 g hat e
    · have := (hu.lt g e).2; omega
  refine ⟨cell_of_row w' K 1 _ _ (0, 0) hK, frozen_of_row w' K 1 _ _ hK, ⟨by have := heap_setCell_same w' K 1 _ _ (.slice (some ⟨g, 0, none⟩) (s.fx.length + 1) cap) hK; simpa using this, ?_, ⟨us, u1, ?_⟩, ?_, fun e => hgK (Option.some.inj e), h.d2, fun b hb e => ?_, h.base⟩⟩
  · have e1 : (s.fx ++ [n]).length = s.fx.length + 1 := by simp
    have e2 : (s.fx ++ [n]).map iV = s.fx.map iV ++ [iV n] := by simp
    show World.ownsRow _ n0 3 1 _ (s.fx ++ [n]).length ((s.fx ++ [n]).map iV)
    rw [e1, e2]
    exact ho.kept hgs (.inr (fun e => hgK (Option.some.inj e)))
  · have h1 := hu.kept hg (by
      cases hb : uv.ownBlock with
      | none => exact .inl rfl
      | some b => exact .inr (fun e => h.d3 b e.symm hb))
    exact h1.kept hgs (.inr h.d2)
  · have h1 : RdK w (fun b => privK K fv uv b ∨ b = g) cv s.C := h.C.less (fun b hb => by
      rcases hb with hb | rfl
      · exact .inl hb
      · rcases hat with hat | hat
        · exact .inl (.inr (.inl hat))
        · exact .inr hat.1)
    have h2 := (h1.keep (KeepW.of hg (fun b hb => .inl (.inr (.inl hb))))).keep (KeepW.of hgs (fun b hb => .inl (.inl (Option.some.inj hb).symm)))
    refine h2.less (fun b hb => .inl ?_)
    rcases hb with hb | hb | hb
    · exact .inl (.inl hb)
    · exact .inr (Option.some.inj hb).symm
    · exact .inl (.inr (.inr hb))
  · cases hb
    exact hug e
theorem KR.keepUn (h : KR w n0 K cv fv uv s) (hg : w.grownBy w' uv.ownBlock) (u : Value) : KeepW (privK K fv uv) w (w'.setCell ⟨K, 2, none⟩ u) := fun b hb hp => by
  rw [heap_setCell_other w' _ b u (fun e => hp (.inl (by simpa using e)))]
  exact hg.block b hb (fun e => hp (.inr (.inr e.symm)))
/-- a unit more -/
theorem KR.pushUn (h : KR w n0 K cv fv uv s) {n : Int} {g cap : Nat} {us : List Int} (hus : us.length = s.sg) (hu : w.ownsRow n0 3 1 uv us.length (us.map iV)) (ho : w'.ownsRow n0 3 1 (.slice (some ⟨g, 0, none⟩) (us.length + 1) cap) (us.length + 1) (us.map iV ++ [iV n])) (hg : w.grownBy w' uv.ownBlock) (hat : uv.ownBlock = some g ∨ (w.heap.size ≤ g ∧ g < w'.heap.size)) :
    w'.cell? ⟨K, 2, none⟩ = some uv ∧ w'.frozen? ⟨K, 2, none⟩ = false ∧ KR (w'.setCell ⟨K, 2, none⟩ (.slice (some ⟨g, 0, none⟩) (us.length + 1) cap)) n0 K cv fv (.slice (some ⟨g, 0, none⟩) (us.length + 1) cap) { s with sg := s.sg + 1 } := by
  have hlt := h.lt
  have hK : w'.heap[K]? = some (.cells #[cv, fv, uv, .bool s.en] 39 (0, 0)) := (hg.block K hlt (fun e => h.d2 e.symm)).trans h.top
  have hgK : g ≠ K := by
    rcases hat with hat | hat
    · exact fun e => h.d2 (by rw [hat, e])
    · omega
  have hgs : w'.grownBy (w'.setCell ⟨K, 2, none⟩ (.slice (some ⟨g, 0, none⟩) (us.length + 1) cap)) (some K) := ⟨rfl, rfl, rfl, by simp, fun k _ hk => heap_setCell_other w' _ k _ (fun e => hk (by simp [e]))⟩
  have hfg : fv.ownBlock ≠ some g := by
    intro e
    rcases hat with hat | hat
    · exact h.d3 g e hat
    · have := (h.fx.lt g e).2; omega
  refine ⟨cell_of_row w' K 2 _ _ (0, 0) hK, frozen_of_row w' K 2 _ _ hK, ⟨by have := heap_setCell_same w' K 2 _ _ (.slice (some ⟨g, 0, none⟩) (us.length + 1) cap) hK; simpa using this, ?_, ⟨us ++ [n], by rw [List.length_append, hus]; rfl, ?_⟩, ?_, h.d1, fun e => hgK (Option.some.inj e), fun b hb e => ?_, h.base⟩⟩
  · have h1 := h.fx.kept hg (by
      cases hb : fv.ownBlock with
      | none => exact .inl rfl
      | some b => exact .inr (fun e => h.d3 b hb e.symm))
    exact h1.kept hgs (.inr h.d1)
  · have e1 : (us ++ [n]).length = us.length + 1 := by simp
    have e2 : (us ++ [n]).map iV = us.map iV ++ [iV n] := by simp
    rw [e1, e2]
    exact ho.kept hgs (.inr (fun e => hgK (Option.some.inj e)))
  · have h1 : RdK w (fun b => privK K fv uv b ∨ b = g) cv s.C := h.C.less (fun b hb => by
      rcases hb with hb | rfl
      · exact .inl hb
      · rcases hat with hat | hat
        · exact .inl (.inr (.inr hat))
        · exact .inr hat.1)
    have h2 := (h1.keep (KeepW.of hg (fun b hb => .inl (.inr (.inr hb))))).keep (KeepW.of hgs (fun b hb => .inl (.inl (Option.some.inj hb).symm)))
    refine h2.less (fun b hb => .inl ?_)
    rcases hb with hb | hb | hb
    · exact .inl (.inl hb)
    · exact .inl (.inr (.inl hb))
    · exact .inr (Option.some.inj hb).symm
  · have e2 : g = b := Option.some.inj e
    subst e2
    exact hfg hb
end
end Go.Proofs.Ytlcbfahaapodmaa
