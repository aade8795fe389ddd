/-
  No cell of these rows narrows 'for every input' (looked for: loops, veiled, ifaces, maps, wideKeys, modest, calm, conditions, laid).
  DERIVED. THE GIVEN ROWS OF THIS SEAT. 4 by the template 'for every input the law returns true; each argument reads behind the call as it read before'; 0 by the template 'total and deterministic' (their statements: YtfgoalgfpcalgaaTotals.lean).
  GIVEN WITH THE SEED: the statements are not yours to turn. If you find one false, say at which input.
  Laid BY PROGRAM, IN A SANDBOX (cutbox-rows.mjs): the forced cells as the released guide's own fill.sh prints them over the translation 84d75390eb4f43ee… (all of the seat's roots in one cut). By AI agents, Wed Nov 11 2026. No macro, syntax, notation, axiom, sorry.
-/
import Derived.Test.YtfgoalgfpcalgaaChecked
import GoSem.Claim
import GoSem.ClaimJoined
import GoSem.ClaimMapViews
import Derived.JoinedTies
import Derived.KernelRfl
namespace Go.Proofs.Ytfgoalgfpcalgaa
/- THE CELL 'sum', in the pinned program and in every row, IS THE sha256 OF THE DUMP (.gsa) THAT YtfgoalgfpcalgaaProg.lean LOADS. Nothing in Lean hashes anything: it is a label: what it is worth is what the hold of that sum in a sandbox is worth. -/
noncomputable def Try.pinned : Pinned := { name := "ytfgoalgfpcalgaa", sum := "84d75390eb4f43ee19a9ff9b246e9bd564e3086803010e5efe624743ebf43155", checked := Try.checked }
namespace Rows
def none {H : Type} : Left H := { results := [], args := [] }

/-- 'pomacelaw21.WeighClauses': WHATEVER THE INPUT: true; the input reads as it did. -/
def weighClausesSpec : ChangeSpec := { name := "weighClauses", fn := fun _ => fun
  | [d1, d2, d3] => { results := [.lit (.bool true)], args := [d1, d2, d3] }
  | _ => none }
def weighClausesRow : OpenClaim := { program := "ytfgoalgfpcalgaa", sum := "84d75390eb4f43ee19a9ff9b246e9bd564e3086803010e5efe624743ebf43155", func := "pomace/pomacelaw21.WeighClauses", spec := "weighClauses", unfollowed := true, recurses := true, apart := false }
def WeighClausesSaid : Prop := weighClausesRow.holds Try.pinned (OpenSpec.ofChange weighClausesSpec)

/-- ITS FALSE NEIGHBOUR: 'it returns false'. Refute it at one input. -/
def weighClausesWrong : ChangeSpec := { name := "weighClauses", fn := fun _ => fun
  | [d1, d2, d3] => { results := [.lit (.bool false)], args := [d1, d2, d3] }
  | _ => none }
def WeighClausesWrongFalsely : Prop := weighClausesRow.holds Try.pinned (OpenSpec.ofChange weighClausesWrong)

/-- 'pomacelaw21.WeighCounts': WHATEVER THE INPUT: true; the input reads as it did. -/
def weighCountsSpec : ChangeSpec := { name := "weighCounts", fn := fun _ => fun
  | [d1, d2] => { results := [.lit (.bool true)], args := [d1, d2] }
  | _ => none }
def weighCountsRow : OpenClaim := { program := "ytfgoalgfpcalgaa", sum := "84d75390eb4f43ee19a9ff9b246e9bd564e3086803010e5efe624743ebf43155", func := "pomace/pomacelaw21.WeighCounts", spec := "weighCounts", unfollowed := true, recurses := true, apart := false }
def WeighCountsSaid : Prop := weighCountsRow.holds Try.pinned (OpenSpec.ofChange weighCountsSpec)

/-- ITS FALSE NEIGHBOUR: 'it returns false'. Refute it at one input. -/
def weighCountsWrong : ChangeSpec := { name := "weighCounts", fn := fun _ => fun
  | [d1, d2] => { results := [.lit (.bool false)], args := [d1, d2] }
  | _ => none }
def WeighCountsWrongFalsely : Prop := weighCountsRow.holds Try.pinned (OpenSpec.ofChange weighCountsWrong)

/-- 'pomacelaw21.WeighMeans': WHATEVER THE INPUT: true; the input reads as it did. -/
def weighMeansSpec : ChangeSpec := { name := "weighMeans", fn := fun _ => fun
  | [d1, d2, d3] => { results := [.lit (.bool true)], args := [d1, d2, d3] }
  | _ => none }
def weighMeansRow : OpenClaim := { program := "ytfgoalgfpcalgaa", sum := "84d75390eb4f43ee19a9ff9b246e9bd564e3086803010e5efe624743ebf43155", func := "pomace/pomacelaw21.WeighMeans", spec := "weighMeans", unfollowed := true, recurses := true, apart := false }
def WeighMeansSaid : Prop := weighMeansRow.holds Try.pinned (OpenSpec.ofChange weighMeansSpec)

/-- ITS FALSE NEIGHBOUR: 'it returns false'. Refute it at one input. -/
def weighMeansWrong : ChangeSpec := { name := "weighMeans", fn := fun _ => fun
  | [d1, d2, d3] => { results := [.lit (.bool false)], args := [d1, d2, d3] }
  | _ => none }
def WeighMeansWrongFalsely : Prop := weighMeansRow.holds Try.pinned (OpenSpec.ofChange weighMeansWrong)

/-- 'pomacelaw21.WeighNew': WHATEVER THE INPUT: true; the input reads as it did. -/
def weighNewSpec : ChangeSpec := { name := "weighNew", fn := fun _ => fun
  | [d1, d2] => { results := [.lit (.bool true)], args := [d1, d2] }
  | _ => none }
def weighNewRow : OpenClaim := { program := "ytfgoalgfpcalgaa", sum := "84d75390eb4f43ee19a9ff9b246e9bd564e3086803010e5efe624743ebf43155", func := "pomace/pomacelaw21.WeighNew", spec := "weighNew", unfollowed := true, recurses := true, apart := false }
def WeighNewSaid : Prop := weighNewRow.holds Try.pinned (OpenSpec.ofChange weighNewSpec)

/-- ITS FALSE NEIGHBOUR: 'it returns false'. Refute it at one input. -/
def weighNewWrong : ChangeSpec := { name := "weighNew", fn := fun _ => fun
  | [d1, d2] => { results := [.lit (.bool false)], args := [d1, d2] }
  | _ => none }
def WeighNewWrongFalsely : Prop := weighNewRow.holds Try.pinned (OpenSpec.ofChange weighNewWrong)

/- THE SECOND FORM. 'bulk': how many values and letters a reading holds, each counted each time it is reached (what is shared counts as often as it is met; a slice's spare places count too). A statement '..UptoSaid' is the law's where the arguments, and the package variables that the reading takes, are together of bulk at most 1048576: NARROWER than '..Said'. Prove '..Said' where nothing that the law and all that it calls make is longer than what came in: it says more and counts as full. Else prove '..UptoSaid'. A law counts once. -/
mutual
def uptoBulk {H : Type} : DataW H → Nat
  | .lit (.string bytes) => bytes.length + 1
  | .lit _ => 1
  | .nil => 1
  | .ptr d => uptoBulk d + 1
  | .slice elems spare => uptoBulkAll elems + uptoBulkAll spare + 1
  | .agg parts => uptoBulkAll parts + 1
  | .iface _ d => uptoBulk d + 1
  | .map entries => uptoBulkEntries entries + 1
  | .held _ => 1
def uptoBulkAll {H : Type} : List (DataW H) → Nat
  | [] => 0
  | d :: r => uptoBulk d + uptoBulkAll r
def uptoBulkEntries {H : Type} : List (Lit × DataW H) → Nat
  | [] => 0
  | x :: r => uptoBulkEntry x + uptoBulkEntries r
def uptoBulkEntry {H : Type} : Lit × DataW H → Nat
  | (.string bytes, d) => bytes.length + uptoBulk d + 1
  | (_, d) => uptoBulk d + 1
 end
def uptoSmall : (H : Type) → List (DataW H) → Bool := fun _ ds => decide (uptoBulkAll ds ≤ 1048576)
def OpenSpec.upto (s : _root_.Go.ChangeSpec) : _root_.Go.OpenSpec := { _root_.Go.OpenSpec.ofChange s with cond := some uptoSmall }

/-- 'pomacelaw21.WeighClauses', WHERE WHAT IT READS IS OF BULK AT MOST 1048576: true; the input reads as it did. -/
def weighClausesUptoRow : OpenClaim := { program := "ytfgoalgfpcalgaa", sum := "84d75390eb4f43ee19a9ff9b246e9bd564e3086803010e5efe624743ebf43155", func := "pomace/pomacelaw21.WeighClauses", spec := "weighClauses", unfollowed := true, recurses := true, apart := false, narrowed := true }
def WeighClausesUptoSaid : Prop := weighClausesUptoRow.holds Try.pinned (OpenSpec.upto weighClausesSpec)

/-- 'pomacelaw21.WeighCounts', WHERE WHAT IT READS IS OF BULK AT MOST 1048576: true; the input reads as it did. -/
def weighCountsUptoRow : OpenClaim := { program := "ytfgoalgfpcalgaa", sum := "84d75390eb4f43ee19a9ff9b246e9bd564e3086803010e5efe624743ebf43155", func := "pomace/pomacelaw21.WeighCounts", spec := "weighCounts", unfollowed := true, recurses := true, apart := false, narrowed := true }
def WeighCountsUptoSaid : Prop := weighCountsUptoRow.holds Try.pinned (OpenSpec.upto weighCountsSpec)

/-- 'pomacelaw21.WeighMeans', WHERE WHAT IT READS IS OF BULK AT MOST 1048576: true; the input reads as it did. -/
def weighMeansUptoRow : OpenClaim := { program := "ytfgoalgfpcalgaa", sum := "84d75390eb4f43ee19a9ff9b246e9bd564e3086803010e5efe624743ebf43155", func := "pomace/pomacelaw21.WeighMeans", spec := "weighMeans", unfollowed := true, recurses := true, apart := false, narrowed := true }
def WeighMeansUptoSaid : Prop := weighMeansUptoRow.holds Try.pinned (OpenSpec.upto weighMeansSpec)

/-- 'pomacelaw21.WeighNew', WHERE WHAT IT READS IS OF BULK AT MOST 1048576: true; the input reads as it did. -/
def weighNewUptoRow : OpenClaim := { program := "ytfgoalgfpcalgaa", sum := "84d75390eb4f43ee19a9ff9b246e9bd564e3086803010e5efe624743ebf43155", func := "pomace/pomacelaw21.WeighNew", spec := "weighNew", unfollowed := true, recurses := true, apart := false, narrowed := true }
def WeighNewUptoSaid : Prop := weighNewUptoRow.holds Try.pinned (OpenSpec.upto weighNewSpec)

end Rows
end Go.Proofs.Ytfgoalgfpcalgaa
