/-
  Layer 5: the contracts of printInterval and Print. Own work.
-/
import Derived.Test.YtnghagikchffiaaDoorBack5
import Derived.Laws.StructEq
namespace Go.Proofs.YtnghagikchffiaaDoor
set_option linter.unusedVariables false
set_option linter.unusedSimpArgs false
open Go.RowKit Go.Joins

def prB (p : Iv) : ByteArray :=
  if oneI p then ⟨#[91]⟩ ++ p.lo.ver ++ ⟨#[93]⟩ else (if p.lo.cl then ⟨#[91]⟩ else ⟨#[40]⟩) ++ p.lo.ver ++ ⟨#[44]⟩ ++ p.hi.ver ++ (if p.hi.cl then ⟨#[93]⟩ else ⟨#[41]⟩)
theorem app_list (a b : ByteArray) : (a ++ b).data.toList = a.data.toList ++ b.data.toList := by simp
theorem prB_list (p : Iv) : (prB p).data.toList = prL p := by
  unfold prB prL vE
  split
  · simp [app_list]
  · cases p.lo.cl <;> cases p.hi.cl <;> simp [app_list]
def smallV (p : Iv) : Prop := p.lo.ver.size ≤ 100 ∧ p.hi.ver.size ≤ 100
set_option maxRecDepth 100000 in
set_option maxHeartbeats 1000000 in
theorem printI_at (p : Iv) (hs : smallV p) (w : World) :
    Calls Tryd.prog 36 #[ivV p] w fun e w' => e = .returned (.string (prB p)) ∧ Below w.heap.size w w' := by
  have hpb : prB p = if oneI p then ⟨#[91]⟩ ++ p.lo.ver ++ ⟨#[93]⟩ else (if p.lo.cl then ⟨#[91]⟩ else ⟨#[40]⟩) ++ p.lo.ver ++ ⟨#[44]⟩ ++ p.hi.ver ++ (if p.hi.cl then ⟨#[93]⟩ else ⟨#[41]⟩) := rfl
  generalize prB p = out at hpb
  have hon : oneI p = (p.lo.has && (p.lo.cl && enEq p.lo p.hi)) := rfl
  have hee : enEq p.lo p.hi = ((p.lo.has == p.hi.has) && ((p.lo.ver.toList == p.hi.ver.toList) && (p.lo.cl == p.hi.cl))) := rfl
  obtain ⟨⟨lh, lv, lc⟩, ⟨hh, hv, hc⟩⟩ := p
  unfold smallV at hs
  unfold ivV
  simp only at hs hpb hon hee ⊢
  obtain ⟨s1, s2⟩ := hs
  have s1I : (lv.size : Int) ≤ 100 := by omega
  have s2I : (hv.size : Int) ≤ 100 := by omega
  have HB := Lib.hid ((Below.refl w.heap.size w).alloc (Nat.le_refl _) (.cells #[.bool lh, .string lv, .bool lc, .bool hh, .string hv, .bool hc] 61))
  rw [hee] at hon
  clear hee
  generalize hvv : (lv.toList == hv.toList) = bv at hon
  have hcase : (lh && (lc && (hh && (bv && hc)))) = oneI ⟨⟨lh, lv, lc⟩, ⟨hh, hv, hc⟩⟩ := by
    rw [hon]
    cases lh <;> cases lc <;> cases hh <;> cases hc <;> cases bv <;> rfl
  rw [← hcase] at hpb
  have HPB := Lib.hid hpb
  clear hpb hon hcase
  cases lh <;> cases lc <;> cases hh <;> cases hc <;> cases bv
  all_goals
    go_enter Tryd.func36, Tryd.ntmps36
    go_wp2
    go_ret
    exact ⟨by rw [HPB.out]; rfl, HB.out⟩
end Go.Proofs.YtnghagikchffiaaDoor
