/-
  Layer 5: the contracts of mayEnd and May. Own work.
-/
import Derived.Test.YtnghagikchffiaaDoorEnd5
import Derived.Test.YtnghagikchffiaaDoorIds
import Derived.Deep.RegionWith
import Derived.Deep.RegionLaw
namespace Go.Proofs.YtnghagikchffiaaDoor
set_option linter.unusedVariables false
set_option linter.unusedSimpArgs false
open Go.RowKit

def mayEndB (e : En) : Bool := if e.has then mayVer e.ver else decide (e.ver.size = 0) && !e.cl
theorem empty_eq (s : ByteArray) : (s.toList == ([] : List UInt8)) = decide (s.size = 0) := isEmpty_beq s
set_option maxHeartbeats 1000000 in
theorem mayEnd_at (e : En) (he : smallE e) (w : World) :
    Calls Tryd.prog 44 #[enV e] w fun r w' => r = .returned (.bool (mayEndB e)) ∧ Below w.heap.size w w' := by
  have hm := fun w => MayVer_any e.ver (by unfold smallE at he; omega) w
  have HM := Lib.hid hm
  have hb := (Below.refl w.heap.size w).alloc (Nat.le_refl _) (.cells #[.bool e.has, .string e.ver, .bool e.cl] 58)
  have HB := Lib.hid hb
  have hee := empty_eq e.ver
  obtain ⟨eh, ev, ec⟩ := e
  clear hm hb
  unfold enV
  simp only at hee
  cases eh
  · have hr : mayEndB ⟨false, ev, ec⟩ = (decide (ev.size = 0) && !ec) := rfl
    have HR := Lib.hid hr
    clear hr
    by_cases h0 : ev.size = 0
    · obtain rfl : ev = ByteArray.empty := by
        have h1 : ev.data.toList = [] := List.eq_nil_of_length_eq_zero (by simpa using h0)
        apply ByteArray.ext
        apply Array.toList_inj.1
        rw [h1]; rfl
      cases ec
      all_goals
        go_enter Tryd.func44, Tryd.ntmps44
        go_wp2
        go_ret
        exact ⟨rfl, HB.out⟩
    · have hne : ¬ ev = ByteArray.empty := fun e => h0 (by rw [e]; rfl)
      have hf : mayEndB ⟨false, ev, ec⟩ = false := by rw [HR.out, decide_eq_false h0]; rfl
      have HF := Lib.hid hf
      clear hf
      go_enter Tryd.func44, Tryd.ntmps44
      go_wp2
      go_ret
      exact ⟨ret_bool HF.out.symm, HB.out⟩
  · go_enter Tryd.func44, Tryd.ntmps44
    go_wp2_with fail
    refine (HM.out _).mono ?_
    rintro e w2 ⟨rfl, rfl⟩
    go_wp2
    go_ret
    exact ⟨rfl, HB.out⟩
/-- an interval by itself -/
def okI (p : Iv) : Bool := mayEndB p.lo && mayEndB p.hi && !(p.lo.has && p.hi.has && !someB p.lo p.hi)
/-- each interval may be, and each lies behind the one ahead -/
def okRow : List Iv → Bool
  | [] => true
  | [p] => okI p
  | p :: q :: r => okI p && apartB p.hi q.lo && okRow (q :: r)
def mayB (hard : Bool) (ver : ByteArray) (l : List Iv) : Bool :=
  if hard then decide (ver.size = 0) && decide (1 ≤ l.length) && decide (l.length ≤ 1024) && okRow l else mayVer ver && decide (l.length = 0)
/-- the first k of them -/
def okTo (l : List Iv) : Nat → Bool
  | 0 => true
  | k + 1 => okTo l k && okI (l.getD k default) && (k == 0 || apartB (l.getD (k - 1) default).hi (l.getD k default).lo)
theorem okTo_cons (p q : Iv) (r : List Iv) : ∀ k, okTo (p :: q :: r) (k + 2) = (okI p && apartB p.hi q.lo && okTo (q :: r) (k + 1))
  | 0 => by
    simp [okTo]
    cases okI p <;> cases apartB p.hi q.lo <;> simp
  | k + 1 => by
    have ih := okTo_cons p q r k
    rw [okTo, ih]
    rw [show okTo (q :: r) (k + 1 + 1) = (okTo (q :: r) (k + 1) && okI ((q :: r).getD (k + 1) default) && ((k + 1) == 0 || apartB ((q :: r).getD (k + 1 - 1) default).hi ((q :: r).getD (k + 1) default).lo)) from rfl]
    simp [Bool.and_assoc]
theorem okRow_to : ∀ l : List Iv, okRow l = okTo l l.length
  | [] => rfl
  | [p] => by simp [okRow, okTo]
  | p :: q :: r => by
    have ih := okRow_to (q :: r)
    rw [okRow, ih]
    exact (okTo_cons p q r r.length).symm
theorem okTo_stop {l : List Iv} {k : Nat} (h : okTo l k = false) : ∀ n, k ≤ n → okTo l n = false
  | 0, hk => by have : k = 0 := by omega
                subst this; exact h
  | n + 1, hk => by
    by_cases hn : k = n + 1
    · subst hn; exact h
    · rw [okTo, okTo_stop h n (by omega)]; rfl
end Go.Proofs.YtnghagikchffiaaDoor
