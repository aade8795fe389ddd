/-
  No cell of these rows narrows 'for every input' (looked for: loops, veiled, ifaces, maps, wideKeys, modest, calm, conditions, laid).
  DERIVED. THE GIVEN ROWS OF THIS SEAT. 8 by the template 'for every input the law returns true; each argument reads behind the call as it read before'; 0 by the template 'total and deterministic' (their statements: YthfholnnkdoagaaTotals.lean).
  GIVEN WITH THE SEED: the statements are not yours to turn. If you find one false, say at which input.
  Laid BY PROGRAM, IN A SANDBOX (cutbox-rows.mjs): the forced cells as the released guide's own fill.sh prints them over the translation 3f2eb43ac87a9f60… (all of the seat's roots in one cut). By AI agents, Wed Nov 11 2026. No macro, syntax, notation, axiom, sorry.
-/
import Derived.Test.YthfholnnkdoagaaChecked
import GoSem.Claim
import GoSem.ClaimJoined
import GoSem.ClaimMapViews
import Derived.JoinedTies
import Derived.KernelRfl
namespace Go.Proofs.Ythfholnnkdoagaa
/- THE CELL 'sum', in the pinned program and in every row, IS THE sha256 OF THE DUMP (.gsa) THAT YthfholnnkdoagaaProg.lean LOADS. Nothing in Lean hashes anything: it is a label: what it is worth is what the hold of that sum in a sandbox is worth. -/
noncomputable def Try.pinned : Pinned := { name := "ythfholnnkdoagaa", sum := "3f2eb43ac87a9f6047ac72e6263fcb358fec53361864c5241a99098b5c54ef87", checked := Try.checked }
namespace Rows
def none {H : Type} : Left H := { results := [], args := [] }

/-- 'pomacelaw08.PropRefs': WHATEVER THE INPUT: true; the input reads as it did. -/
def propRefsSpec : ChangeSpec := { name := "propRefs", fn := fun _ => fun
  | [d] => { results := [.lit (.bool true)], args := [d] }
  | _ => none }
def propRefsRow : OpenClaim := { program := "ythfholnnkdoagaa", sum := "3f2eb43ac87a9f6047ac72e6263fcb358fec53361864c5241a99098b5c54ef87", func := "pomace/pomacelaw08.PropRefs", spec := "propRefs", inPlace := ["internal/bytealg.IndexByteString", "internal/bytealg.IndexString", "internal/abi.NoEscape", "sync/atomic.AddInt64", "sync/atomic.LoadInt64"], unfollowed := true, recurses := true, named := ["internal/bytealg.MaxLen"], apart := false }
def PropRefsSaid : Prop := propRefsRow.holds Try.pinned (OpenSpec.ofChange propRefsSpec)

/-- ITS FALSE NEIGHBOUR: 'it returns false'. Refute it at one input. -/
def propRefsWrong : ChangeSpec := { name := "propRefs", fn := fun _ => fun
  | [d] => { results := [.lit (.bool false)], args := [d] }
  | _ => none }
def PropRefsWrongFalsely : Prop := propRefsRow.holds Try.pinned (OpenSpec.ofChange propRefsWrong)

/-- 'pomacelaw08.PropPuts': WHATEVER THE INPUT: true; the input reads as it did. -/
def propPutsSpec : ChangeSpec := { name := "propPuts", fn := fun _ => fun
  | [d1, d2, d3] => { results := [.lit (.bool true)], args := [d1, d2, d3] }
  | _ => none }
def propPutsRow : OpenClaim := { program := "ythfholnnkdoagaa", sum := "3f2eb43ac87a9f6047ac72e6263fcb358fec53361864c5241a99098b5c54ef87", func := "pomace/pomacelaw08.PropPuts", spec := "propPuts", inPlace := ["internal/abi.NoEscape", "internal/bytealg.IndexByteString", "internal/bytealg.IndexString", "sync/atomic.AddInt64", "sync/atomic.LoadInt64"], unfollowed := true, recurses := true, named := ["internal/bytealg.MaxLen"], apart := false }
def PropPutsSaid : Prop := propPutsRow.holds Try.pinned (OpenSpec.ofChange propPutsSpec)

/-- ITS FALSE NEIGHBOUR: 'it returns false'. Refute it at one input. -/
def propPutsWrong : ChangeSpec := { name := "propPuts", fn := fun _ => fun
  | [d1, d2, d3] => { results := [.lit (.bool false)], args := [d1, d2, d3] }
  | _ => none }
def PropPutsWrongFalsely : Prop := propPutsRow.holds Try.pinned (OpenSpec.ofChange propPutsWrong)

/-- 'pomacelaw08.PropExpands': WHATEVER THE INPUT: true; the input reads as it did. -/
def propExpandsSpec : ChangeSpec := { name := "propExpands", fn := fun _ => fun
  | [d1, d2] => { results := [.lit (.bool true)], args := [d1, d2] }
  | _ => none }
def propExpandsRow : OpenClaim := { program := "ythfholnnkdoagaa", sum := "3f2eb43ac87a9f6047ac72e6263fcb358fec53361864c5241a99098b5c54ef87", func := "pomace/pomacelaw08.PropExpands", spec := "propExpands", inPlace := ["internal/abi.NoEscape", "internal/bytealg.IndexByteString", "internal/bytealg.IndexString", "sync/atomic.AddInt64", "sync/atomic.LoadInt64"], unfollowed := true, recurses := true, named := ["internal/bytealg.MaxLen"], apart := false }
def PropExpandsSaid : Prop := propExpandsRow.holds Try.pinned (OpenSpec.ofChange propExpandsSpec)

/-- ITS FALSE NEIGHBOUR: 'it returns false'. Refute it at one input. -/
def propExpandsWrong : ChangeSpec := { name := "propExpands", fn := fun _ => fun
  | [d1, d2] => { results := [.lit (.bool false)], args := [d1, d2] }
  | _ => none }
def PropExpandsWrongFalsely : Prop := propExpandsRow.holds Try.pinned (OpenSpec.ofChange propExpandsWrong)

/-- 'pomacelaw08.PropAll': WHATEVER THE INPUT: true; the input reads as it did. -/
def propAllSpec : ChangeSpec := { name := "propAll", fn := fun _ => fun
  | [d] => { results := [.lit (.bool true)], args := [d] }
  | _ => none }
def propAllRow : OpenClaim := { program := "ythfholnnkdoagaa", sum := "3f2eb43ac87a9f6047ac72e6263fcb358fec53361864c5241a99098b5c54ef87", func := "pomace/pomacelaw08.PropAll", spec := "propAll", inPlace := ["internal/abi.NoEscape", "internal/bytealg.IndexByteString", "internal/bytealg.IndexString", "sync/atomic.AddInt64", "sync/atomic.LoadInt64"], unfollowed := true, recurses := true, named := ["internal/bytealg.MaxLen"], apart := false }
def PropAllSaid : Prop := propAllRow.holds Try.pinned (OpenSpec.ofChange propAllSpec)

/-- ITS FALSE NEIGHBOUR: 'it returns false'. Refute it at one input. -/
def propAllWrong : ChangeSpec := { name := "propAll", fn := fun _ => fun
  | [d] => { results := [.lit (.bool false)], args := [d] }
  | _ => none }
def PropAllWrongFalsely : Prop := propAllRow.holds Try.pinned (OpenSpec.ofChange propAllWrong)

/-- 'pomacelaw08.PropPlain': WHATEVER THE INPUT: true; the input reads as it did. -/
def propPlainSpec : ChangeSpec := { name := "propPlain", fn := fun _ => fun
  | [d1, d2, d3] => { results := [.lit (.bool true)], args := [d1, d2, d3] }
  | _ => none }
def propPlainRow : OpenClaim := { program := "ythfholnnkdoagaa", sum := "3f2eb43ac87a9f6047ac72e6263fcb358fec53361864c5241a99098b5c54ef87", func := "pomace/pomacelaw08.PropPlain", spec := "propPlain", inPlace := ["internal/abi.NoEscape", "internal/bytealg.IndexByteString", "internal/bytealg.IndexString", "sync/atomic.AddInt64", "sync/atomic.LoadInt64"], unfollowed := true, recurses := true, named := ["internal/bytealg.MaxLen"], apart := false }
def PropPlainSaid : Prop := propPlainRow.holds Try.pinned (OpenSpec.ofChange propPlainSpec)

/-- ITS FALSE NEIGHBOUR: 'it returns false'. Refute it at one input. -/
def propPlainWrong : ChangeSpec := { name := "propPlain", fn := fun _ => fun
  | [d1, d2, d3] => { results := [.lit (.bool false)], args := [d1, d2, d3] }
  | _ => none }
def PropPlainWrongFalsely : Prop := propPlainRow.holds Try.pinned (OpenSpec.ofChange propPlainWrong)

/-- 'pomacelaw08.PropTurned': WHATEVER THE INPUT: true; the input reads as it did. -/
def propTurnedSpec : ChangeSpec := { name := "propTurned", fn := fun _ => fun
  | [d1, d2, d3] => { results := [.lit (.bool true)], args := [d1, d2, d3] }
  | _ => none }
def propTurnedRow : OpenClaim := { program := "ythfholnnkdoagaa", sum := "3f2eb43ac87a9f6047ac72e6263fcb358fec53361864c5241a99098b5c54ef87", func := "pomace/pomacelaw08.PropTurned", spec := "propTurned", inPlace := ["internal/abi.NoEscape", "internal/bytealg.IndexByteString", "internal/bytealg.IndexString", "sync/atomic.AddInt64", "sync/atomic.LoadInt64"], unfollowed := true, recurses := true, named := ["internal/bytealg.MaxLen"], apart := false }
def PropTurnedSaid : Prop := propTurnedRow.holds Try.pinned (OpenSpec.ofChange propTurnedSpec)

/-- ITS FALSE NEIGHBOUR: 'it returns false'. Refute it at one input. -/
def propTurnedWrong : ChangeSpec := { name := "propTurned", fn := fun _ => fun
  | [d1, d2, d3] => { results := [.lit (.bool false)], args := [d1, d2, d3] }
  | _ => none }
def PropTurnedWrongFalsely : Prop := propTurnedRow.holds Try.pinned (OpenSpec.ofChange propTurnedWrong)

/-- 'pomacelaw08.PropRound': WHATEVER THE INPUT: true; the input reads as it did. -/
def propRoundSpec : ChangeSpec := { name := "propRound", fn := fun _ => fun
  | [d1, d2] => { results := [.lit (.bool true)], args := [d1, d2] }
  | _ => none }
def propRoundRow : OpenClaim := { program := "ythfholnnkdoagaa", sum := "3f2eb43ac87a9f6047ac72e6263fcb358fec53361864c5241a99098b5c54ef87", func := "pomace/pomacelaw08.PropRound", spec := "propRound", inPlace := ["internal/abi.NoEscape", "internal/bytealg.IndexByteString", "internal/bytealg.IndexString", "sync/atomic.AddInt64", "sync/atomic.LoadInt64"], unfollowed := true, recurses := true, named := ["internal/bytealg.MaxLen"], apart := false }
def PropRoundSaid : Prop := propRoundRow.holds Try.pinned (OpenSpec.ofChange propRoundSpec)

/-- ITS FALSE NEIGHBOUR: 'it returns false'. Refute it at one input. -/
def propRoundWrong : ChangeSpec := { name := "propRound", fn := fun _ => fun
  | [d1, d2] => { results := [.lit (.bool false)], args := [d1, d2] }
  | _ => none }
def PropRoundWrongFalsely : Prop := propRoundRow.holds Try.pinned (OpenSpec.ofChange propRoundWrong)

/-- 'pomacelaw08.PropGreat': WHATEVER THE INPUT: true; the input reads as it did. -/
def propGreatSpec : ChangeSpec := { name := "propGreat", fn := fun _ => fun
  | [d1, d2, d3] => { results := [.lit (.bool true)], args := [d1, d2, d3] }
  | _ => none }
def propGreatRow : OpenClaim := { program := "ythfholnnkdoagaa", sum := "3f2eb43ac87a9f6047ac72e6263fcb358fec53361864c5241a99098b5c54ef87", func := "pomace/pomacelaw08.PropGreat", spec := "propGreat", inPlace := ["internal/abi.NoEscape", "internal/bytealg.IndexByteString", "internal/bytealg.IndexString", "sync/atomic.AddInt64", "sync/atomic.LoadInt64"], unfollowed := true, recurses := true, named := ["internal/bytealg.MaxLen"], apart := false }
def PropGreatSaid : Prop := propGreatRow.holds Try.pinned (OpenSpec.ofChange propGreatSpec)

/-- ITS FALSE NEIGHBOUR: 'it returns false'. Refute it at one input. -/
def propGreatWrong : ChangeSpec := { name := "propGreat", fn := fun _ => fun
  | [d1, d2, d3] => { results := [.lit (.bool false)], args := [d1, d2, d3] }
  | _ => none }
def PropGreatWrongFalsely : Prop := propGreatRow.holds Try.pinned (OpenSpec.ofChange propGreatWrong)

/- THE SECOND FORM. 'bulk': how many values and letters a reading holds, each counted each time it is reached (what is shared counts as often as it is met; a slice's spare places count too). A statement '..UptoSaid' is the law's where the arguments, and the package variables that the reading takes, are together of bulk at most 1048576: NARROWER than '..Said'. Prove '..Said' where nothing that the law and all that it calls make is longer than what came in: it says more and counts as full. Else prove '..UptoSaid'. A law counts once. -/
mutual
def uptoBulk {H : Type} : DataW H → Nat
  | .lit (.string bytes) => bytes.length + 1
  | .lit _ => 1
  | .nil => 1
  | .ptr d => uptoBulk d + 1
  | .slice elems spare => uptoBulkAll elems + uptoBulkAll spare + 1
  | .agg parts => uptoBulkAll parts + 1
  | .iface _ d => uptoBulk d + 1
  | .map entries => uptoBulkEntries entries + 1
  | .held _ => 1
def uptoBulkAll {H : Type} : List (DataW H) → Nat
  | [] => 0
  | d :: r => uptoBulk d + uptoBulkAll r
def uptoBulkEntries {H : Type} : List (Lit × DataW H) → Nat
  | [] => 0
  | x :: r => uptoBulkEntry x + uptoBulkEntries r
def uptoBulkEntry {H : Type} : Lit × DataW H → Nat
  | (.string bytes, d) => bytes.length + uptoBulk d + 1
  | (_, d) => uptoBulk d + 1
 end
def uptoSmall : (H : Type) → List (DataW H) → Bool := fun _ ds => decide (uptoBulkAll ds ≤ 1048576)
def OpenSpec.upto (s : _root_.Go.ChangeSpec) : _root_.Go.OpenSpec := { _root_.Go.OpenSpec.ofChange s with cond := some uptoSmall }

/-- 'pomacelaw08.PropRefs', WHERE WHAT IT READS IS OF BULK AT MOST 1048576: true; the input reads as it did. -/
def propRefsUptoRow : OpenClaim := { program := "ythfholnnkdoagaa", sum := "3f2eb43ac87a9f6047ac72e6263fcb358fec53361864c5241a99098b5c54ef87", func := "pomace/pomacelaw08.PropRefs", spec := "propRefs", inPlace := ["internal/bytealg.IndexByteString", "internal/bytealg.IndexString", "internal/abi.NoEscape", "sync/atomic.AddInt64", "sync/atomic.LoadInt64"], unfollowed := true, recurses := true, named := ["internal/bytealg.MaxLen"], apart := false, narrowed := true }
def PropRefsUptoSaid : Prop := propRefsUptoRow.holds Try.pinned (OpenSpec.upto propRefsSpec)

/-- 'pomacelaw08.PropPuts', WHERE WHAT IT READS IS OF BULK AT MOST 1048576: true; the input reads as it did. -/
def propPutsUptoRow : OpenClaim := { program := "ythfholnnkdoagaa", sum := "3f2eb43ac87a9f6047ac72e6263fcb358fec53361864c5241a99098b5c54ef87", func := "pomace/pomacelaw08.PropPuts", spec := "propPuts", inPlace := ["internal/abi.NoEscape", "internal/bytealg.IndexByteString", "internal/bytealg.IndexString", "sync/atomic.AddInt64", "sync/atomic.LoadInt64"], unfollowed := true, recurses := true, named := ["internal/bytealg.MaxLen"], apart := false, narrowed := true }
def PropPutsUptoSaid : Prop := propPutsUptoRow.holds Try.pinned (OpenSpec.upto propPutsSpec)

/-- 'pomacelaw08.PropExpands', WHERE WHAT IT READS IS OF BULK AT MOST 1048576: true; the input reads as it did. -/
def propExpandsUptoRow : OpenClaim := { program := "ythfholnnkdoagaa", sum := "3f2eb43ac87a9f6047ac72e6263fcb358fec53361864c5241a99098b5c54ef87", func := "pomace/pomacelaw08.PropExpands", spec := "propExpands", inPlace := ["internal/abi.NoEscape", "internal/bytealg.IndexByteString", "internal/bytealg.IndexString", "sync/atomic.AddInt64", "sync/atomic.LoadInt64"], unfollowed := true, recurses := true, named := ["internal/bytealg.MaxLen"], apart := false, narrowed := true }
def PropExpandsUptoSaid : Prop := propExpandsUptoRow.holds Try.pinned (OpenSpec.upto propExpandsSpec)

/-- 'pomacelaw08.PropAll', WHERE WHAT IT READS IS OF BULK AT MOST 1048576: true; the input reads as it did. -/
def propAllUptoRow : OpenClaim := { program := "ythfholnnkdoagaa", sum := "3f2eb43ac87a9f6047ac72e6263fcb358fec53361864c5241a99098b5c54ef87", func := "pomace/pomacelaw08.PropAll", spec := "propAll", inPlace := ["internal/abi.NoEscape", "internal/bytealg.IndexByteString", "internal/bytealg.IndexString", "sync/atomic.AddInt64", "sync/atomic.LoadInt64"], unfollowed := true, recurses := true, named := ["internal/bytealg.MaxLen"], apart := false, narrowed := true }
def PropAllUptoSaid : Prop := propAllUptoRow.holds Try.pinned (OpenSpec.upto propAllSpec)

/-- 'pomacelaw08.PropPlain', WHERE WHAT IT READS IS OF BULK AT MOST 1048576: true; the input reads as it did. -/
def propPlainUptoRow : OpenClaim := { program := "ythfholnnkdoagaa", sum := "3f2eb43ac87a9f6047ac72e6263fcb358fec53361864c5241a99098b5c54ef87", func := "pomace/pomacelaw08.PropPlain", spec := "propPlain", inPlace := ["internal/abi.NoEscape", "internal/bytealg.IndexByteString", "internal/bytealg.IndexString", "sync/atomic.AddInt64", "sync/atomic.LoadInt64"], unfollowed := true, recurses := true, named := ["internal/bytealg.MaxLen"], apart := false, narrowed := true }
def PropPlainUptoSaid : Prop := propPlainUptoRow.holds Try.pinned (OpenSpec.upto propPlainSpec)

/-- 'pomacelaw08.PropTurned', WHERE WHAT IT READS IS OF BULK AT MOST 1048576: true; the input reads as it did. -/
def propTurnedUptoRow : OpenClaim := { program := "ythfholnnkdoagaa", sum := "3f2eb43ac87a9f6047ac72e6263fcb358fec53361864c5241a99098b5c54ef87", func := "pomace/pomacelaw08.PropTurned", spec := "propTurned", inPlace := ["internal/abi.NoEscape", "internal/bytealg.IndexByteString", "internal/bytealg.IndexString", "sync/atomic.AddInt64", "sync/atomic.LoadInt64"], unfollowed := true, recurses := true, named := ["internal/bytealg.MaxLen"], apart := false, narrowed := true }
def PropTurnedUptoSaid : Prop := propTurnedUptoRow.holds Try.pinned (OpenSpec.upto propTurnedSpec)

/-- 'pomacelaw08.PropRound', WHERE WHAT IT READS IS OF BULK AT MOST 1048576: true; the input reads as it did. -/
def propRoundUptoRow : OpenClaim := { program := "ythfholnnkdoagaa", sum := "3f2eb43ac87a9f6047ac72e6263fcb358fec53361864c5241a99098b5c54ef87", func := "pomace/pomacelaw08.PropRound", spec := "propRound", inPlace := ["internal/abi.NoEscape", "internal/bytealg.IndexByteString", "internal/bytealg.IndexString", "sync/atomic.AddInt64", "sync/atomic.LoadInt64"], unfollowed := true, recurses := true, named := ["internal/bytealg.MaxLen"], apart := false, narrowed := true }
def PropRoundUptoSaid : Prop := propRoundUptoRow.holds Try.pinned (OpenSpec.upto propRoundSpec)

/-- 'pomacelaw08.PropGreat', WHERE WHAT IT READS IS OF BULK AT MOST 1048576: true; the input reads as it did. -/
def propGreatUptoRow : OpenClaim := { program := "ythfholnnkdoagaa", sum := "3f2eb43ac87a9f6047ac72e6263fcb358fec53361864c5241a99098b5c54ef87", func := "pomace/pomacelaw08.PropGreat", spec := "propGreat", inPlace := ["internal/abi.NoEscape", "internal/bytealg.IndexByteString", "internal/bytealg.IndexString", "sync/atomic.AddInt64", "sync/atomic.LoadInt64"], unfollowed := true, recurses := true, named := ["internal/bytealg.MaxLen"], apart := false, narrowed := true }
def PropGreatUptoSaid : Prop := propGreatUptoRow.holds Try.pinned (OpenSpec.upto propGreatSpec)

end Rows
end Go.Proofs.Ythfholnnkdoagaa
