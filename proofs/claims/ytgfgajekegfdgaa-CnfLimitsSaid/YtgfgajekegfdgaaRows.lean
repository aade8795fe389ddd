/-
  No cell of these rows narrows 'for every input' (looked for: loops, veiled, ifaces, maps, wideKeys, modest, calm, conditions, laid).
  DERIVED. THE GIVEN ROWS OF THIS SEAT. 6 by the template 'for every input the law returns true; each argument reads behind the call as it read before'; 0 by the template 'total and deterministic' (their statements: YtgfgajekegfdgaaTotals.lean).
  GIVEN WITH THE SEED: the statements are not yours to turn. If you find one false, say at which input.
  Laid BY PROGRAM, IN A SANDBOX (cutbox-rows.mjs): the forced cells as the released guide's own fill.sh prints them over the translation 6ee62c2d8f292619… (all of the seat's roots in one cut). By AI agents, Wed Nov 11 2026. No macro, syntax, notation, axiom, sorry.
-/
import Derived.Test.YtgfgajekegfdgaaChecked
import GoSem.Claim
import GoSem.ClaimJoined
import GoSem.ClaimMapViews
import Derived.JoinedTies
import Derived.KernelRfl
namespace Go.Proofs.Ytgfgajekegfdgaa
/- THE CELL 'sum', in the pinned program and in every row, IS THE sha256 OF THE DUMP (.gsa) THAT YtgfgajekegfdgaaProg.lean LOADS. Nothing in Lean hashes anything: it is a label: what it is worth is what the hold of that sum in a sandbox is worth. -/
noncomputable def Try.pinned : Pinned := { name := "ytgfgajekegfdgaa", sum := "6ee62c2d8f292619e4d543133142e0a26d7d5d23572e06d890d94b89812a56ed", checked := Try.checked }
namespace Rows
def none {H : Type} : Left H := { results := [], args := [] }

/-- 'pomacelaw17.CnfMays': WHATEVER THE INPUT: true; the input reads as it did. -/
def cnfMaysSpec : ChangeSpec := { name := "cnfMays", fn := fun _ => fun
  | [d] => { results := [.lit (.bool true)], args := [d] }
  | _ => none }
def cnfMaysRow : OpenClaim := { program := "ytgfgajekegfdgaa", sum := "6ee62c2d8f292619e4d543133142e0a26d7d5d23572e06d890d94b89812a56ed", func := "pomace/pomacelaw17.CnfMays", spec := "cnfMays", unfollowed := true, recurses := true, plainKeys := false, apart := false }
def CnfMaysSaid : Prop := cnfMaysRow.holds Try.pinned (OpenSpec.ofChange cnfMaysSpec)

/-- ITS FALSE NEIGHBOUR: 'it returns false'. Refute it at one input. -/
def cnfMaysWrong : ChangeSpec := { name := "cnfMays", fn := fun _ => fun
  | [d] => { results := [.lit (.bool false)], args := [d] }
  | _ => none }
def CnfMaysWrongFalsely : Prop := cnfMaysRow.holds Try.pinned (OpenSpec.ofChange cnfMaysWrong)

/-- 'pomacelaw17.CnfEncodes': WHATEVER THE INPUT: true; the input reads as it did. -/
def cnfEncodesSpec : ChangeSpec := { name := "cnfEncodes", fn := fun _ => fun
  | [d] => { results := [.lit (.bool true)], args := [d] }
  | _ => none }
def cnfEncodesRow : OpenClaim := { program := "ytgfgajekegfdgaa", sum := "6ee62c2d8f292619e4d543133142e0a26d7d5d23572e06d890d94b89812a56ed", func := "pomace/pomacelaw17.CnfEncodes", spec := "cnfEncodes", unfollowed := true, recurses := true, plainKeys := false, apart := false }
def CnfEncodesSaid : Prop := cnfEncodesRow.holds Try.pinned (OpenSpec.ofChange cnfEncodesSpec)

/-- ITS FALSE NEIGHBOUR: 'it returns false'. Refute it at one input. -/
def cnfEncodesWrong : ChangeSpec := { name := "cnfEncodes", fn := fun _ => fun
  | [d] => { results := [.lit (.bool false)], args := [d] }
  | _ => none }
def CnfEncodesWrongFalsely : Prop := cnfEncodesRow.holds Try.pinned (OpenSpec.ofChange cnfEncodesWrong)

/-- 'pomacelaw17.CnfTakes': WHATEVER THE INPUT: true; the input reads as it did. -/
def cnfTakesSpec : ChangeSpec := { name := "cnfTakes", fn := fun _ => fun
  | [d1, d2, d3] => { results := [.lit (.bool true)], args := [d1, d2, d3] }
  | _ => none }
def cnfTakesRow : OpenClaim := { program := "ytgfgajekegfdgaa", sum := "6ee62c2d8f292619e4d543133142e0a26d7d5d23572e06d890d94b89812a56ed", func := "pomace/pomacelaw17.CnfTakes", spec := "cnfTakes", unfollowed := true, recurses := true, plainKeys := false, apart := false }
def CnfTakesSaid : Prop := cnfTakesRow.holds Try.pinned (OpenSpec.ofChange cnfTakesSpec)

/-- ITS FALSE NEIGHBOUR: 'it returns false'. Refute it at one input. -/
def cnfTakesWrong : ChangeSpec := { name := "cnfTakes", fn := fun _ => fun
  | [d1, d2, d3] => { results := [.lit (.bool false)], args := [d1, d2, d3] }
  | _ => none }
def CnfTakesWrongFalsely : Prop := cnfTakesRow.holds Try.pinned (OpenSpec.ofChange cnfTakesWrong)

/-- 'pomacelaw17.CnfMeans': WHATEVER THE INPUT: true; the input reads as it did. -/
def cnfMeansSpec : ChangeSpec := { name := "cnfMeans", fn := fun _ => fun
  | [d1, d2] => { results := [.lit (.bool true)], args := [d1, d2] }
  | _ => none }
def cnfMeansRow : OpenClaim := { program := "ytgfgajekegfdgaa", sum := "6ee62c2d8f292619e4d543133142e0a26d7d5d23572e06d890d94b89812a56ed", func := "pomace/pomacelaw17.CnfMeans", spec := "cnfMeans", unfollowed := true, recurses := true, plainKeys := false, apart := false }
def CnfMeansSaid : Prop := cnfMeansRow.holds Try.pinned (OpenSpec.ofChange cnfMeansSpec)

/-- ITS FALSE NEIGHBOUR: 'it returns false'. Refute it at one input. -/
def cnfMeansWrong : ChangeSpec := { name := "cnfMeans", fn := fun _ => fun
  | [d1, d2] => { results := [.lit (.bool false)], args := [d1, d2] }
  | _ => none }
def CnfMeansWrongFalsely : Prop := cnfMeansRow.holds Try.pinned (OpenSpec.ofChange cnfMeansWrong)

/-- 'pomacelaw17.CnfLess': WHATEVER THE INPUT: true; the input reads as it did. -/
def cnfLessSpec : ChangeSpec := { name := "cnfLess", fn := fun _ => fun
  | [d1, d2] => { results := [.lit (.bool true)], args := [d1, d2] }
  | _ => none }
def cnfLessRow : OpenClaim := { program := "ytgfgajekegfdgaa", sum := "6ee62c2d8f292619e4d543133142e0a26d7d5d23572e06d890d94b89812a56ed", func := "pomace/pomacelaw17.CnfLess", spec := "cnfLess", unfollowed := true, recurses := true, plainKeys := false, apart := false }
def CnfLessSaid : Prop := cnfLessRow.holds Try.pinned (OpenSpec.ofChange cnfLessSpec)

/-- ITS FALSE NEIGHBOUR: 'it returns false'. Refute it at one input. -/
def cnfLessWrong : ChangeSpec := { name := "cnfLess", fn := fun _ => fun
  | [d1, d2] => { results := [.lit (.bool false)], args := [d1, d2] }
  | _ => none }
def CnfLessWrongFalsely : Prop := cnfLessRow.holds Try.pinned (OpenSpec.ofChange cnfLessWrong)

/-- 'pomacelaw17.CnfLimits': WHATEVER THE INPUT: true; the input reads as it did. -/
def cnfLimitsSpec : ChangeSpec := { name := "cnfLimits", fn := fun _ => fun
  | [d1, d2] => { results := [.lit (.bool true)], args := [d1, d2] }
  | _ => none }
def cnfLimitsRow : OpenClaim := { program := "ytgfgajekegfdgaa", sum := "6ee62c2d8f292619e4d543133142e0a26d7d5d23572e06d890d94b89812a56ed", func := "pomace/pomacelaw17.CnfLimits", spec := "cnfLimits", unfollowed := true, recurses := true, plainKeys := false, apart := false }
def CnfLimitsSaid : Prop := cnfLimitsRow.holds Try.pinned (OpenSpec.ofChange cnfLimitsSpec)

/-- ITS FALSE NEIGHBOUR: 'it returns false'. Refute it at one input. -/
def cnfLimitsWrong : ChangeSpec := { name := "cnfLimits", fn := fun _ => fun
  | [d1, d2] => { results := [.lit (.bool false)], args := [d1, d2] }
  | _ => none }
def CnfLimitsWrongFalsely : Prop := cnfLimitsRow.holds Try.pinned (OpenSpec.ofChange cnfLimitsWrong)

/- THE SECOND FORM. 'bulk': how many values and letters a reading holds, each counted each time it is reached (what is shared counts as often as it is met; a slice's spare places count too). A statement '..UptoSaid' is the law's where the arguments, and the package variables that the reading takes, are together of bulk at most 1048576: NARROWER than '..Said'. Prove '..Said' where nothing that the law and all that it calls make is longer than what came in: it says more and counts as full. Else prove '..UptoSaid'. A law counts once. -/
mutual
def uptoBulk {H : Type} : DataW H → Nat
  | .lit (.string bytes) => bytes.length + 1
  | .lit _ => 1
  | .nil => 1
  | .ptr d => uptoBulk d + 1
  | .slice elems spare => uptoBulkAll elems + uptoBulkAll spare + 1
  | .agg parts => uptoBulkAll parts + 1
  | .iface _ d => uptoBulk d + 1
  | .map entries => uptoBulkEntries entries + 1
  | .held _ => 1
def uptoBulkAll {H : Type} : List (DataW H) → Nat
  | [] => 0
  | d :: r => uptoBulk d + uptoBulkAll r
def uptoBulkEntries {H : Type} : List (Lit × DataW H) → Nat
  | [] => 0
  | x :: r => uptoBulkEntry x + uptoBulkEntries r
def uptoBulkEntry {H : Type} : Lit × DataW H → Nat
  | (.string bytes, d) => bytes.length + uptoBulk d + 1
  | (_, d) => uptoBulk d + 1
 end
def uptoSmall : (H : Type) → List (DataW H) → Bool := fun _ ds => decide (uptoBulkAll ds ≤ 1048576)
def OpenSpec.upto (s : _root_.Go.ChangeSpec) : _root_.Go.OpenSpec := { _root_.Go.OpenSpec.ofChange s with cond := some uptoSmall }

/-- 'pomacelaw17.CnfMays', WHERE WHAT IT READS IS OF BULK AT MOST 1048576: true; the input reads as it did. -/
def cnfMaysUptoRow : OpenClaim := { program := "ytgfgajekegfdgaa", sum := "6ee62c2d8f292619e4d543133142e0a26d7d5d23572e06d890d94b89812a56ed", func := "pomace/pomacelaw17.CnfMays", spec := "cnfMays", unfollowed := true, recurses := true, plainKeys := false, apart := false, narrowed := true }
def CnfMaysUptoSaid : Prop := cnfMaysUptoRow.holds Try.pinned (OpenSpec.upto cnfMaysSpec)

/-- 'pomacelaw17.CnfEncodes', WHERE WHAT IT READS IS OF BULK AT MOST 1048576: true; the input reads as it did. -/
def cnfEncodesUptoRow : OpenClaim := { program := "ytgfgajekegfdgaa", sum := "6ee62c2d8f292619e4d543133142e0a26d7d5d23572e06d890d94b89812a56ed", func := "pomace/pomacelaw17.CnfEncodes", spec := "cnfEncodes", unfollowed := true, recurses := true, plainKeys := false, apart := false, narrowed := true }
def CnfEncodesUptoSaid : Prop := cnfEncodesUptoRow.holds Try.pinned (OpenSpec.upto cnfEncodesSpec)

/-- 'pomacelaw17.CnfTakes', WHERE WHAT IT READS IS OF BULK AT MOST 1048576: true; the input reads as it did. -/
def cnfTakesUptoRow : OpenClaim := { program := "ytgfgajekegfdgaa", sum := "6ee62c2d8f292619e4d543133142e0a26d7d5d23572e06d890d94b89812a56ed", func := "pomace/pomacelaw17.CnfTakes", spec := "cnfTakes", unfollowed := true, recurses := true, plainKeys := false, apart := false, narrowed := true }
def CnfTakesUptoSaid : Prop := cnfTakesUptoRow.holds Try.pinned (OpenSpec.upto cnfTakesSpec)

/-- 'pomacelaw17.CnfMeans', WHERE WHAT IT READS IS OF BULK AT MOST 1048576: true; the input reads as it did. -/
def cnfMeansUptoRow : OpenClaim := { program := "ytgfgajekegfdgaa", sum := "6ee62c2d8f292619e4d543133142e0a26d7d5d23572e06d890d94b89812a56ed", func := "pomace/pomacelaw17.CnfMeans", spec := "cnfMeans", unfollowed := true, recurses := true, plainKeys := false, apart := false, narrowed := true }
def CnfMeansUptoSaid : Prop := cnfMeansUptoRow.holds Try.pinned (OpenSpec.upto cnfMeansSpec)

/-- 'pomacelaw17.CnfLess', WHERE WHAT IT READS IS OF BULK AT MOST 1048576: true; the input reads as it did. -/
def cnfLessUptoRow : OpenClaim := { program := "ytgfgajekegfdgaa", sum := "6ee62c2d8f292619e4d543133142e0a26d7d5d23572e06d890d94b89812a56ed", func := "pomace/pomacelaw17.CnfLess", spec := "cnfLess", unfollowed := true, recurses := true, plainKeys := false, apart := false, narrowed := true }
def CnfLessUptoSaid : Prop := cnfLessUptoRow.holds Try.pinned (OpenSpec.upto cnfLessSpec)

/-- 'pomacelaw17.CnfLimits', WHERE WHAT IT READS IS OF BULK AT MOST 1048576: true; the input reads as it did. -/
def cnfLimitsUptoRow : OpenClaim := { program := "ytgfgajekegfdgaa", sum := "6ee62c2d8f292619e4d543133142e0a26d7d5d23572e06d890d94b89812a56ed", func := "pomace/pomacelaw17.CnfLimits", spec := "cnfLimits", unfollowed := true, recurses := true, plainKeys := false, apart := false, narrowed := true }
def CnfLimitsUptoSaid : Prop := cnfLimitsUptoRow.holds Try.pinned (OpenSpec.upto cnfLimitsSpec)

end Rows
end Go.Proofs.Ytgfgajekegfdgaa
