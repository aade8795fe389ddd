/-
  What every card of this seat needs: a world that holds the listed tables, and MaxLen's cell out of the world's shape. Own work.
-/
import Derived.Test.YtpbkidmdfibaoaaGreatDoorCards
import Derived.Test.YtpbkidmdfibaoaaGreatDoorTie
import Derived.Test.YtpbkidmdfibaoaaGreatDoorLaw
import Derived.Deep.DeepHandedRow
import Derived.Lib.LaidTab
import Derived.Test.YtpbkidmdfibaoaaGreatDoorShelf
namespace Go.Proofs.YtpbkidmdfibaoaaGreatDoor
set_option linter.unusedVariables false
set_option linter.unusedSimpArgs false
open Go.ChangeShapes Go.WideShapes Go.ChangeAt Go.RowKit


def flat1 : DataW Unit → List Value
  | .lit (.int k n) => [.int k n]
  | _ => []
def flat2 : DataW Unit → List Value
  | .agg l => l.flatMap flat1
  | _ => []
def flat3 : DataW Unit → List Value
  | .agg l => l.flatMap flat2
  | _ => []

def fillWith (l : List Value) : Obj → Obj
  | .cells _ t frozen => .cells l.toArray t frozen
  | o => o
/-- a world whose tables hold what their initialisers lay -/
noncomputable def laidWorld (args : Array Value) (os : Os) : World :=
  { World.holding Tryz.prog os ⟨#[], args, []⟩ with heap := ((World.holding Tryz.prog os ⟨#[], args, []⟩).heap.modify 1 (fillWith (flat2 Rows.laid_unicode_utf8_first))).modify 2 (fillWith (flat3 Rows.laid_unicode_utf8_acceptRanges)) }
end Go.Proofs.YtpbkidmdfibaoaaGreatDoor
