/-
  No cell of these rows narrows 'for every input' (looked for: loops, veiled, ifaces, maps, wideKeys, modest, calm, conditions, laid).
  DERIVED. THE GIVEN ROWS OF THIS SEAT. 4 by the template 'for every input the law returns true; each argument reads behind the call as it read before'; 0 by the template 'total and deterministic' (their statements: YtlcbfahaapodmaaTotals.lean).
  GIVEN WITH THE SEED: the statements are not yours to turn. If you find one false, say at which input.
  Laid BY PROGRAM, IN A SANDBOX (cutbox-rows.mjs): the forced cells as the released guide's own fill.sh prints them over the translation 947d0845943ec90d… (all of the seat's roots in one cut). By AI agents, Wed Nov 11 2026. No macro, syntax, notation, axiom, sorry.
-/
import Derived.Test.YtlcbfahaapodmaaChecked
import GoSem.Claim
import GoSem.ClaimJoined
import GoSem.ClaimMapViews
import Derived.JoinedTies
import Derived.KernelRfl
namespace Go.Proofs.Ytlcbfahaapodmaa
/- THE CELL 'sum', in the pinned program and in every row, IS THE sha256 OF THE DUMP (.gsa) THAT YtlcbfahaapodmaaProg.lean LOADS. Nothing in Lean hashes anything: it is a label: what it is worth is what the hold of that sum in a sandbox is worth. -/
noncomputable def Try.pinned : Pinned := { name := "ytlcbfahaapodmaa", sum := "947d0845943ec90da0c43462a4a13dde2f884aadd281d34c976292c6cc1ab0f9", checked := Try.checked }
namespace Rows
def none {H : Type} : Left H := { results := [], args := [] }

/-- 'pomacelaw29.TrimTrims': WHATEVER THE INPUT: true; the input reads as it did. -/
def trimTrimsSpec : ChangeSpec := { name := "trimTrims", fn := fun _ => fun
  | [d] => { results := [.lit (.bool true)], args := [d] }
  | _ => none }
def trimTrimsRow : OpenClaim := { program := "ytlcbfahaapodmaa", sum := "947d0845943ec90da0c43462a4a13dde2f884aadd281d34c976292c6cc1ab0f9", func := "pomace/pomacelaw29.TrimTrims", spec := "trimTrims", unfollowed := true, recurses := true, apart := false }
def TrimTrimsSaid : Prop := trimTrimsRow.holds Try.pinned (OpenSpec.ofChange trimTrimsSpec)

/-- ITS FALSE NEIGHBOUR: 'it returns false'. Refute it at one input. -/
def trimTrimsWrong : ChangeSpec := { name := "trimTrims", fn := fun _ => fun
  | [d] => { results := [.lit (.bool false)], args := [d] }
  | _ => none }
def TrimTrimsWrongFalsely : Prop := trimTrimsRow.holds Try.pinned (OpenSpec.ofChange trimTrimsWrong)

/-- 'pomacelaw29.TrimGrows': WHATEVER THE INPUT: true; the input reads as it did. -/
def trimGrowsSpec : ChangeSpec := { name := "trimGrows", fn := fun _ => fun
  | [d1, d2] => { results := [.lit (.bool true)], args := [d1, d2] }
  | _ => none }
def trimGrowsRow : OpenClaim := { program := "ytlcbfahaapodmaa", sum := "947d0845943ec90da0c43462a4a13dde2f884aadd281d34c976292c6cc1ab0f9", func := "pomace/pomacelaw29.TrimGrows", spec := "trimGrows", unfollowed := true, recurses := true, apart := false }
def TrimGrowsSaid : Prop := trimGrowsRow.holds Try.pinned (OpenSpec.ofChange trimGrowsSpec)

/-- ITS FALSE NEIGHBOUR: 'it returns false'. Refute it at one input. -/
def trimGrowsWrong : ChangeSpec := { name := "trimGrows", fn := fun _ => fun
  | [d1, d2] => { results := [.lit (.bool false)], args := [d1, d2] }
  | _ => none }
def TrimGrowsWrongFalsely : Prop := trimGrowsRow.holds Try.pinned (OpenSpec.ofChange trimGrowsWrong)

/-- 'pomacelaw29.TrimMeans': WHATEVER THE INPUT: true; the input reads as it did. -/
def trimMeansSpec : ChangeSpec := { name := "trimMeans", fn := fun _ => fun
  | [d1, d2] => { results := [.lit (.bool true)], args := [d1, d2] }
  | _ => none }
def trimMeansRow : OpenClaim := { program := "ytlcbfahaapodmaa", sum := "947d0845943ec90da0c43462a4a13dde2f884aadd281d34c976292c6cc1ab0f9", func := "pomace/pomacelaw29.TrimMeans", spec := "trimMeans", unfollowed := true, recurses := true, apart := false }
def TrimMeansSaid : Prop := trimMeansRow.holds Try.pinned (OpenSpec.ofChange trimMeansSpec)

/-- ITS FALSE NEIGHBOUR: 'it returns false'. Refute it at one input. -/
def trimMeansWrong : ChangeSpec := { name := "trimMeans", fn := fun _ => fun
  | [d1, d2] => { results := [.lit (.bool false)], args := [d1, d2] }
  | _ => none }
def TrimMeansWrongFalsely : Prop := trimMeansRow.holds Try.pinned (OpenSpec.ofChange trimMeansWrong)

/-- 'pomacelaw29.TrimEnds': WHATEVER THE INPUT: true; the input reads as it did. -/
def trimEndsSpec : ChangeSpec := { name := "trimEnds", fn := fun _ => fun
  | [d] => { results := [.lit (.bool true)], args := [d] }
  | _ => none }
def trimEndsRow : OpenClaim := { program := "ytlcbfahaapodmaa", sum := "947d0845943ec90da0c43462a4a13dde2f884aadd281d34c976292c6cc1ab0f9", func := "pomace/pomacelaw29.TrimEnds", spec := "trimEnds", unfollowed := true, recurses := true, apart := false }
def TrimEndsSaid : Prop := trimEndsRow.holds Try.pinned (OpenSpec.ofChange trimEndsSpec)

/-- ITS FALSE NEIGHBOUR: 'it returns false'. Refute it at one input. -/
def trimEndsWrong : ChangeSpec := { name := "trimEnds", fn := fun _ => fun
  | [d] => { results := [.lit (.bool false)], args := [d] }
  | _ => none }
def TrimEndsWrongFalsely : Prop := trimEndsRow.holds Try.pinned (OpenSpec.ofChange trimEndsWrong)

/- THE SECOND FORM. 'bulk': how many values and letters a reading holds, each counted each time it is reached (what is shared counts as often as it is met; a slice's spare places count too). A statement '..UptoSaid' is the law's where the arguments, and the package variables that the reading takes, are together of bulk at most 1048576: NARROWER than '..Said'. Prove '..Said' where nothing that the law and all that it calls make is longer than what came in: it says more and counts as full. Else prove '..UptoSaid'. A law counts once. -/
mutual
def uptoBulk {H : Type} : DataW H → Nat
  | .lit (.string bytes) => bytes.length + 1
  | .lit _ => 1
  | .nil => 1
  | .ptr d => uptoBulk d + 1
  | .slice elems spare => uptoBulkAll elems + uptoBulkAll spare + 1
  | .agg parts => uptoBulkAll parts + 1
  | .iface _ d => uptoBulk d + 1
  | .map entries => uptoBulkEntries entries + 1
  | .held _ => 1
def uptoBulkAll {H : Type} : List (DataW H) → Nat
  | [] => 0
  | d :: r => uptoBulk d + uptoBulkAll r
def uptoBulkEntries {H : Type} : List (Lit × DataW H) → Nat
  | [] => 0
  | x :: r => uptoBulkEntry x + uptoBulkEntries r
def uptoBulkEntry {H : Type} : Lit × DataW H → Nat
  | (.string bytes, d) => bytes.length + uptoBulk d + 1
  | (_, d) => uptoBulk d + 1
 end
def uptoSmall : (H : Type) → List (DataW H) → Bool := fun _ ds => decide (uptoBulkAll ds ≤ 1048576)
def OpenSpec.upto (s : _root_.Go.ChangeSpec) : _root_.Go.OpenSpec := { _root_.Go.OpenSpec.ofChange s with cond := some uptoSmall }

/-- 'pomacelaw29.TrimTrims', WHERE WHAT IT READS IS OF BULK AT MOST 1048576: true; the input reads as it did. -/
def trimTrimsUptoRow : OpenClaim := { program := "ytlcbfahaapodmaa", sum := "947d0845943ec90da0c43462a4a13dde2f884aadd281d34c976292c6cc1ab0f9", func := "pomace/pomacelaw29.TrimTrims", spec := "trimTrims", unfollowed := true, recurses := true, apart := false, narrowed := true }
def TrimTrimsUptoSaid : Prop := trimTrimsUptoRow.holds Try.pinned (OpenSpec.upto trimTrimsSpec)

/-- 'pomacelaw29.TrimGrows', WHERE WHAT IT READS IS OF BULK AT MOST 1048576: true; the input reads as it did. -/
def trimGrowsUptoRow : OpenClaim := { program := "ytlcbfahaapodmaa", sum := "947d0845943ec90da0c43462a4a13dde2f884aadd281d34c976292c6cc1ab0f9", func := "pomace/pomacelaw29.TrimGrows", spec := "trimGrows", unfollowed := true, recurses := true, apart := false, narrowed := true }
def TrimGrowsUptoSaid : Prop := trimGrowsUptoRow.holds Try.pinned (OpenSpec.upto trimGrowsSpec)

/-- 'pomacelaw29.TrimMeans', WHERE WHAT IT READS IS OF BULK AT MOST 1048576: true; the input reads as it did. -/
def trimMeansUptoRow : OpenClaim := { program := "ytlcbfahaapodmaa", sum := "947d0845943ec90da0c43462a4a13dde2f884aadd281d34c976292c6cc1ab0f9", func := "pomace/pomacelaw29.TrimMeans", spec := "trimMeans", unfollowed := true, recurses := true, apart := false, narrowed := true }
def TrimMeansUptoSaid : Prop := trimMeansUptoRow.holds Try.pinned (OpenSpec.upto trimMeansSpec)

/-- 'pomacelaw29.TrimEnds', WHERE WHAT IT READS IS OF BULK AT MOST 1048576: true; the input reads as it did. -/
def trimEndsUptoRow : OpenClaim := { program := "ytlcbfahaapodmaa", sum := "947d0845943ec90da0c43462a4a13dde2f884aadd281d34c976292c6cc1ab0f9", func := "pomace/pomacelaw29.TrimEnds", spec := "trimEnds", unfollowed := true, recurses := true, apart := false, narrowed := true }
def TrimEndsUptoSaid : Prop := trimEndsUptoRow.holds Try.pinned (OpenSpec.upto trimEndsSpec)

end Rows
end Go.Proofs.Ytlcbfahaapodmaa
