/-
  Layer 3: the contracts of slices.EqualFunc at elements and of tree.Same. Own work.
-/
import Derived.Test.YtpbkidmdfibaoaaGreatDoorSame3
import Derived.Test.YtpbkidmdfibaoaaGreatDoorAttr2
namespace Go.Proofs.YtpbkidmdfibaoaaGreatDoor
set_option linter.unusedVariables false
set_option linter.unusedSimpArgs false
open Go.RowKit

/-- an element as a value -/
def nodeV (x : Tr) (va vk : Value) : Value := .agg #[.string (str x.n), va, vk, .string (str x.t)]
/-- function f tells whether this tree and any other one are the same -/
def SameAt (f : FuncId) (x : Tr) : Prop :=
  ∀ (y : Tr) (va vk va' vk' : Value) (w : World), NdV w (allF w) x va vk → NdV w (allF w) y va' vk' → Calls Tryz.prog f #[nodeV x va vk, nodeV y va' vk'] w fun e w' => e = .returned (.bool (eqT x y)) ∧ Below w.heap.size w w'
theorem node_cells {w : World} {F : Nat → Prop} {x : Tr} {va vk : Value} (h : NdV w F x va vk) : ∃ a c b d, va = .slice a x.ats.length c ∧ vk = .slice b x.ks.length d := by
  obtain ⟨a, c, h1⟩ := h.ats.shape
  obtain ⟨b, d, h2⟩ := h.rd.shape
  exact ⟨a, c, b, d, h1, h2⟩
end Go.Proofs.YtpbkidmdfibaoaaGreatDoor
