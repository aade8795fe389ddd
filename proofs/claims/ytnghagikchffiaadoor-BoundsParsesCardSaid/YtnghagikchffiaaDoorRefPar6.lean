/-
  Layer 4: the steps of a word in the answer. Own work.
-/
import Derived.Test.YtnghagikchffiaaDoorRefPar5
namespace Go.Proofs.YtnghagikchffiaaDoor
set_option linter.unusedVariables false
set_option linter.unusedSimpArgs false
open Go.RowKit

/-- a word in the answer's own steps -/
def wS1 (t : List UInt8) : List UInt8 := if t = [103, 97] ∨ t = [102, 105, 110, 97, 108] ∨ t = [114, 101, 108, 101, 97, 115, 101] then [] else t
def wS2 (t : List UInt8) : List UInt8 := if t = [99, 114] then [114, 99] else t
def wS (nr : Bool) (a b t : List UInt8) : List UInt8 := if nr = true ∧ t = a then b else t
theorem wordP_stages (t : List UInt8) (nr : Bool) : wordP t nr = wS nr [109] [109, 105, 108, 101, 115, 116, 111, 110, 101] (wS nr [98] [98, 101, 116, 97] (wS nr [97] [97, 108, 112, 104, 97] (wS2 (wS1 t)))) := by
  unfold wordP
  by_cases h1 : t = [103, 97] ∨ t = [102, 105, 110, 97, 108] ∨ t = [114, 101, 108, 101, 97, 115, 101]
  · rw [if_pos h1]
    have e : wS1 t = [] := by unfold wS1; rw [if_pos h1]
    rw [e]; cases nr <;> decide
  · rw [if_neg h1]
    have e : wS1 t = t := by unfold wS1; rw [if_neg h1]
    rw [e]
    by_cases h2 : t = [99, 114]
    · rw [if_pos h2, h2]; cases nr <;> decide
    · rw [if_neg h2]
      have e2 : wS2 t = t := by unfold wS2; rw [if_neg h2]
      rw [e2]
      cases nr
      · rfl
      · rw [if_neg (by decide)]
        by_cases h3 : t = [97]
        · rw [if_pos h3, h3]; decide
        · rw [if_neg h3]
          have e3 : wS true [97] [97, 108, 112, 104, 97] t = t := by unfold wS; rw [if_neg (fun h => h3 h.2)]
          rw [e3]
          by_cases h4 : t = [98]
          · rw [if_pos h4, h4]; decide
          · rw [if_neg h4]
            have e4 : wS true [98] [98, 101, 116, 97] t = t := by unfold wS; rw [if_neg (fun h => h4 h.2)]
            rw [e4]
            by_cases h5 : t = [109]
            · rw [if_pos h5, h5]; decide
            · rw [if_neg h5]
              unfold wS; rw [if_neg (fun h => h5 h.2)]
end Go.Proofs.YtnghagikchffiaaDoor
