/-
  Layer 16: what follows by units is true: for ProofSound. Own work.
-/
import Derived.Test.YtmiiclhhenepiaaOq16
namespace Go.Proofs.Ytmiiclhhenepiaa
set_option linter.unusedVariables false
set_option linter.unusedSimpArgs false
open Go.RowKit

theorem holds_neg16 {cs : List (List Int)} {ts : List Bool} (h : holdsI cs ts < 0) : ∀ c ∈ cs, anyT ts c = true := by
  unfold holdsI at h
  cases hf : cs.findIdx? (fun c => !anyT ts c) with
  | none =>
    intro c hc
    have := List.findIdx?_eq_none_iff.1 hf c hc
    simpa using this
  | some j =>
    rw [hf] at h
    simp only at h
    omega
theorem trueB_opp {n : Int} (ts : List Bool) (h : n ≠ 0) : trueB (-n) ts = !trueB n ts := by
  rcases Int.lt_trichotomy n 0 with hn | hn | hn
  · rw [trueB_pos (-n) ts (by omega), trueB_neg n ts (by omega), Bool.not_not]
  · exact absurd hn h
  · rw [trueB_neg (-n) ts (by omega), trueB_pos n ts (by omega), Int.neg_neg]
theorem trueFrom_zero : ∀ (ts : List Bool) (k : Nat), trueFrom 0 k ts = false
  | [], k => by simp [trueFrom]
  | t :: ts, k => by
    unfold trueFrom
    rw [if_neg (by omega), if_neg (by omega)]
    exact trueFrom_zero ts (k + 1)
theorem fol_sound16 {cs : List (List Int)} {ts : List Bool} {c : List Int} (hall : ∀ c ∈ cs, anyT ts c = true) (h : Fol cs c) : anyT ts c = true := by
  obtain ⟨m, hm, ht⟩ := fol_true (tr := fun n => trueB n ts) (fun n hn => trueB_opp ts hn) (trueFrom_zero ts 0) (fun x hx => by
    have := hall x hx
    unfold anyT at this
    rw [List.any_eq_true] at this
    obtain ⟨m, h1, h2⟩ := this
    exact ⟨m, h1, h2⟩) h
  unfold anyT
  rw [List.any_eq_true]
  exact ⟨m, hm, ht⟩
theorem check_sound16 {cs : List (List Int)} {ts : List Bool} {z : Int} (hall : ∀ c ∈ cs, anyT ts c = true) (h : CheckR cs [[]] z) : ¬ z = -1 := by
  rintro rfl
  rcases h with ⟨i, c, _, _, _, h⟩ | ⟨h, _⟩
  · omega
  · have h1 := h 0 [] rfl
    rw [List.take_zero, List.append_nil] at h1
    have := fol_sound16 hall h1
    simp [anyT] at this
end Go.Proofs.Ytmiiclhhenepiaa
