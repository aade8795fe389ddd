/-
  No cell of these rows narrows 'for every input' (looked for: loops, veiled, ifaces, maps, wideKeys, modest, calm, conditions, laid).
  DERIVED. THE GIVEN ROWS OF THIS SEAT. 3 by the template 'for every input the law returns true; each argument reads behind the call as it read before'; 0 by the template 'total and deterministic' (their statements: YtjkmmmmbdfcnbaaTotals.lean).
  GIVEN WITH THE SEED: the statements are not yours to turn. If you find one false, say at which input.
  Laid BY PROGRAM, IN A SANDBOX (cutbox-rows.mjs): the forced cells as the released guide's own fill.sh prints them over the translation 6a806bb269ef3a3a… (all of the seat's roots in one cut). By AI agents, Wed Nov 11 2026. No macro, syntax, notation, axiom, sorry.
-/
import Derived.Test.YtjkmmmmbdfcnbaaChecked
import GoSem.Claim
import GoSem.ClaimJoined
import GoSem.ClaimMapViews
import Derived.JoinedTies
import Derived.KernelRfl
namespace Go.Proofs.Ytjkmmmmbdfcnbaa
/- THE CELL 'sum', in the pinned program and in every row, IS THE sha256 OF THE DUMP (.gsa) THAT YtjkmmmmbdfcnbaaProg.lean LOADS. Nothing in Lean hashes anything: it is a label: what it is worth is what the hold of that sum in a sandbox is worth. -/
noncomputable def Try.pinned : Pinned := { name := "ytjkmmmmbdfcnbaa", sum := "6a806bb269ef3a3afea567d4c2197cc71bf293aede8cffa4fe8b7d972ecdf8cb", checked := Try.checked }
namespace Rows
def none {H : Type} : Left H := { results := [], args := [] }

/-- 'pomacelaw10.ChainMerges': WHATEVER THE INPUT: true; the input reads as it did. -/
def chainMergesSpec : ChangeSpec := { name := "chainMerges", fn := fun _ => fun
  | [d1, d2] => { results := [.lit (.bool true)], args := [d1, d2] }
  | _ => none }
def chainMergesRow : OpenClaim := { program := "ytjkmmmmbdfcnbaa", sum := "6a806bb269ef3a3afea567d4c2197cc71bf293aede8cffa4fe8b7d972ecdf8cb", func := "pomace/pomacelaw10.ChainMerges", spec := "chainMerges", unfollowed := true, recurses := true, plainKeys := false, apart := false }
def ChainMergesSaid : Prop := chainMergesRow.holds Try.pinned (OpenSpec.ofChange chainMergesSpec)

/-- ITS FALSE NEIGHBOUR: 'it returns false'. Refute it at one input. -/
def chainMergesWrong : ChangeSpec := { name := "chainMerges", fn := fun _ => fun
  | [d1, d2] => { results := [.lit (.bool false)], args := [d1, d2] }
  | _ => none }
def ChainMergesWrongFalsely : Prop := chainMergesRow.holds Try.pinned (OpenSpec.ofChange chainMergesWrong)

/-- 'pomacelaw10.ChainTogether': WHATEVER THE INPUT: true; the input reads as it did. -/
def chainTogetherSpec : ChangeSpec := { name := "chainTogether", fn := fun _ => fun
  | [d1, d2, d3] => { results := [.lit (.bool true)], args := [d1, d2, d3] }
  | _ => none }
def chainTogetherRow : OpenClaim := { program := "ytjkmmmmbdfcnbaa", sum := "6a806bb269ef3a3afea567d4c2197cc71bf293aede8cffa4fe8b7d972ecdf8cb", func := "pomace/pomacelaw10.ChainTogether", spec := "chainTogether", unfollowed := true, recurses := true, plainKeys := false, apart := false }
def ChainTogetherSaid : Prop := chainTogetherRow.holds Try.pinned (OpenSpec.ofChange chainTogetherSpec)

/-- ITS FALSE NEIGHBOUR: 'it returns false'. Refute it at one input. -/
def chainTogetherWrong : ChangeSpec := { name := "chainTogether", fn := fun _ => fun
  | [d1, d2, d3] => { results := [.lit (.bool false)], args := [d1, d2, d3] }
  | _ => none }
def ChainTogetherWrongFalsely : Prop := chainTogetherRow.holds Try.pinned (OpenSpec.ofChange chainTogetherWrong)

/-- 'pomacelaw10.ChainCounts': WHATEVER THE INPUT: true; the input reads as it did. -/
def chainCountsSpec : ChangeSpec := { name := "chainCounts", fn := fun _ => fun
  | [d1, d2] => { results := [.lit (.bool true)], args := [d1, d2] }
  | _ => none }
def chainCountsRow : OpenClaim := { program := "ytjkmmmmbdfcnbaa", sum := "6a806bb269ef3a3afea567d4c2197cc71bf293aede8cffa4fe8b7d972ecdf8cb", func := "pomace/pomacelaw10.ChainCounts", spec := "chainCounts", unfollowed := true, recurses := true, plainKeys := false, apart := false }
def ChainCountsSaid : Prop := chainCountsRow.holds Try.pinned (OpenSpec.ofChange chainCountsSpec)

/-- ITS FALSE NEIGHBOUR: 'it returns false'. Refute it at one input. -/
def chainCountsWrong : ChangeSpec := { name := "chainCounts", fn := fun _ => fun
  | [d1, d2] => { results := [.lit (.bool false)], args := [d1, d2] }
  | _ => none }
def ChainCountsWrongFalsely : Prop := chainCountsRow.holds Try.pinned (OpenSpec.ofChange chainCountsWrong)

/- THE SECOND FORM. 'bulk': how many values and letters a reading holds, each counted each time it is reached (what is shared counts as often as it is met; a slice's spare places count too). A statement '..UptoSaid' is the law's where the arguments, and the package variables that the reading takes, are together of bulk at most 1048576: NARROWER than '..Said'. Prove '..Said' where nothing that the law and all that it calls make is longer than what came in: it says more and counts as full. Else prove '..UptoSaid'. A law counts once. -/
mutual
def uptoBulk {H : Type} : DataW H → Nat
  | .lit (.string bytes) => bytes.length + 1
  | .lit _ => 1
  | .nil => 1
  | .ptr d => uptoBulk d + 1
  | .slice elems spare => uptoBulkAll elems + uptoBulkAll spare + 1
  | .agg parts => uptoBulkAll parts + 1
  | .iface _ d => uptoBulk d + 1
  | .map entries => uptoBulkEntries entries + 1
  | .held _ => 1
def uptoBulkAll {H : Type} : List (DataW H) → Nat
  | [] => 0
  | d :: r => uptoBulk d + uptoBulkAll r
def uptoBulkEntries {H : Type} : List (Lit × DataW H) → Nat
  | [] => 0
  | x :: r => uptoBulkEntry x + uptoBulkEntries r
def uptoBulkEntry {H : Type} : Lit × DataW H → Nat
  | (.string bytes, d) => bytes.length + uptoBulk d + 1
  | (_, d) => uptoBulk d + 1
 end
def uptoSmall : (H : Type) → List (DataW H) → Bool := fun _ ds => decide (uptoBulkAll ds ≤ 1048576)
def OpenSpec.upto (s : _root_.Go.ChangeSpec) : _root_.Go.OpenSpec := { _root_.Go.OpenSpec.ofChange s with cond := some uptoSmall }

/-- 'pomacelaw10.ChainMerges', WHERE WHAT IT READS IS OF BULK AT MOST 1048576: true; the input reads as it did. -/
def chainMergesUptoRow : OpenClaim := { program := "ytjkmmmmbdfcnbaa", sum := "6a806bb269ef3a3afea567d4c2197cc71bf293aede8cffa4fe8b7d972ecdf8cb", func := "pomace/pomacelaw10.ChainMerges", spec := "chainMerges", unfollowed := true, recurses := true, plainKeys := false, apart := false, narrowed := true }
def ChainMergesUptoSaid : Prop := chainMergesUptoRow.holds Try.pinned (OpenSpec.upto chainMergesSpec)

/-- 'pomacelaw10.ChainTogether', WHERE WHAT IT READS IS OF BULK AT MOST 1048576: true; the input reads as it did. -/
def chainTogetherUptoRow : OpenClaim := { program := "ytjkmmmmbdfcnbaa", sum := "6a806bb269ef3a3afea567d4c2197cc71bf293aede8cffa4fe8b7d972ecdf8cb", func := "pomace/pomacelaw10.ChainTogether", spec := "chainTogether", unfollowed := true, recurses := true, plainKeys := false, apart := false, narrowed := true }
def ChainTogetherUptoSaid : Prop := chainTogetherUptoRow.holds Try.pinned (OpenSpec.upto chainTogetherSpec)

/-- 'pomacelaw10.ChainCounts', WHERE WHAT IT READS IS OF BULK AT MOST 1048576: true; the input reads as it did. -/
def chainCountsUptoRow : OpenClaim := { program := "ytjkmmmmbdfcnbaa", sum := "6a806bb269ef3a3afea567d4c2197cc71bf293aede8cffa4fe8b7d972ecdf8cb", func := "pomace/pomacelaw10.ChainCounts", spec := "chainCounts", unfollowed := true, recurses := true, plainKeys := false, apart := false, narrowed := true }
def ChainCountsUptoSaid : Prop := chainCountsUptoRow.holds Try.pinned (OpenSpec.upto chainCountsSpec)

end Rows
end Go.Proofs.Ytjkmmmmbdfcnbaa
