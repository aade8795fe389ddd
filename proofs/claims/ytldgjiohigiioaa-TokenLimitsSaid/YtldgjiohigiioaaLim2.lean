/-
  Layer 2: a text of one letter alone, on lists. Own work.
-/
import Derived.Test.YtldgjiohigiioaaRise2
namespace Go.Proofs.Ytldgjiohigiioaa
set_option linter.unusedVariables false
set_option linter.unusedSimpArgs false
open Go.RowKit

def xs2 (n : Nat) : List UInt8 := List.replicate n 120
theorem tx_x : tx 120 = true := by kernel_rfl
theorem let_xs : ∀ (m f : Nat) (acc : List UInt8), m < f → letM 60 true f acc (xs2 m) = .ok (acc ++ xs2 m) []
  | m, 0, acc, h => by omega
  | 0, f + 1, acc, h => by
    have : xs2 0 = [] := rfl
    rw [this, letM, if_pos rfl, List.append_nil]
  | m + 1, f + 1, acc, h => by
    have : xs2 (m + 1) = 120 :: xs2 m := List.replicate_succ
    rw [this, letM, if_neg (by decide), if_neg (by decide), if_neg (by rw [tx_x]; decide), let_xs m f _ (by omega)]
    simp
theorem len_xs (n : Nat) : (xs2 n).length = n := List.length_replicate
theorem all_xs {n : Nat} (h : n ≤ 65536) : allM (xs2 n) = .ok (if n = 0 then [] else [⟨4, [], [], xs2 n, 0⟩]) [] := by
  unfold allM
  rw [if_neg (by rw [len_xs]; omega), len_xs]
  cases n with
  | zero => rfl
  | succ m =>
    have e : xs2 (m + 1) = 120 :: xs2 m := List.replicate_succ
    have hp : pieceM ((xs2 (m + 1)).length - (xs2 (m + 1)).length) (xs2 (m + 1)) = .ok ⟨4, [], [], xs2 (m + 1), 0⟩ [] := by
      rw [Nat.sub_self, e, pieceM, if_pos (by decide), ← e, let_xs (m + 1) _ [] (by rw [len_xs]; omega)]
      rfl
    rw [goM, if_neg (by rw [e]; simp), hp, if_neg (by omega)]
    show goM (xs2 (m + 1)) (m + 1) ([] ++ [_]) [] = _
    rw [goM, if_pos rfl]
    rfl
theorem all_xs_big {n : Nat} (h : 65536 < n) : allM (xs2 n) = .bad 2 (xs2 n) := by
  unfold allM
  rw [if_pos (by rw [len_xs]; exact h)]
end Go.Proofs.Ytldgjiohigiioaa
