/-
  Layer 1: what each byte is: contracts of the byte functions of package chars and of its answer. Own work.
-/
import Derived.Test.YthfholnnkdoagaaRows
import Derived.Test.YthfholnnkdoagaaBase
namespace Go.Proofs.Ythfholnnkdoagaa
set_option linter.unusedVariables false
set_option linter.unusedSimpArgs false
open Go.RowKit

def isBlank (c : Int) : Bool := c == 32 || c == 9 || c == 10 || c == 13
def isDigit (c : Int) : Bool := decide (48 ≤ c) && decide (c ≤ 57)
def isFirst (c : Int) : Bool := decide (65 ≤ c) && decide (c ≤ 90) || decide (97 ≤ c) && decide (c ≤ 122) || c == 95
def isMark (c : Int) : Bool := c == 46 || c == 45 || c == 58
def isName (c : Int) : Bool := isFirst c || isDigit c || isMark c
def isText (c : Int) : Bool := decide (32 ≤ c) || isBlank c

end Go.Proofs.Ythfholnnkdoagaa
