/-
  DERIVED. GIVEN WITH THE SEED: THE CARDS: each row of YtcmojpfolmcaoaaDoorRows.lean that lists a variable, with what it lists TIED to the program's text (the seventh form; the later family's looks); each row that meets fmt, with fmt's text TOLD by the authors' own Lean function (tested against real Go, not proved from fmt's source: count such statements apart). THE CARD IS WHAT COUNTS. Prove the row's statement (the work); the ties are given (YtcmojpfolmcaoaaDoorTie.lean); close each card by the builder's one call (the guide's Derived/Test/ToyasCard.lean, 'card_holds'). Laid BY PROGRAM, IN A SANDBOX (cutbox-door.mjs). By AI agents, Wed Nov 11 2026. No macro, syntax, notation, axiom, sorry.
-/
import Derived.Test.YtcmojpfolmcaoaaDoorRows
import GoSem.ClaimSeven
namespace Go.Proofs.YtcmojpfolmcaoaaDoor
namespace Rows

/-- THE TIED CARD OF 'pomacelaw24.LockMays'. -/
def lockMaysCard : Claim7 := { stood := { row := lockMaysRow, standIns := [], harness := (true, "2b1bd9257e2ad0c1c1af4068e344c8be69747b0723a7c37770a3437b438aab81"), looks := false }, kinds := [], alts := [], laidByText := true, laidKinds := [.data, .data, .data, .data, .pinned], laidTests := true, laidLooks := .later }
def LockMaysCardSaid : Prop := Claim7.holds Tryd.pinned (.plain (OpenSpec.ofChange lockMaysSpec)) lockMaysCard

/-- THE TIED CARD OF 'pomacelaw24.LockParses'. -/
def lockParsesCard : Claim7 := { stood := { row := lockParsesRow, standIns := [], harness := (true, "2b1bd9257e2ad0c1c1af4068e344c8be69747b0723a7c37770a3437b438aab81"), looks := false }, kinds := [], alts := [], laidByText := true, laidKinds := [.data, .data, .data, .data, .pinned], laidTests := true, laidLooks := .later }
def LockParsesCardSaid : Prop := Claim7.holds Tryd.pinned (.plain (OpenSpec.ofChange lockParsesSpec)) lockParsesCard

/-- THE TIED CARD OF 'pomacelaw24.LockBack'. -/
def lockBackCard : Claim7 := { stood := { row := lockBackRow, standIns := [], harness := (true, "2b1bd9257e2ad0c1c1af4068e344c8be69747b0723a7c37770a3437b438aab81"), looks := false }, kinds := [], alts := [], laidByText := true, laidKinds := [.data, .data, .data, .data, .pinned], laidTests := true, laidLooks := .later }
def LockBackCardSaid : Prop := Claim7.holds Tryd.pinned (.plain (OpenSpec.ofChange lockBackSpec)) lockBackCard

/-- THE TIED CARD OF 'pomacelaw24.LockStays'. -/
def lockStaysCard : Claim7 := { stood := { row := lockStaysRow, standIns := [], harness := (true, "2b1bd9257e2ad0c1c1af4068e344c8be69747b0723a7c37770a3437b438aab81"), looks := false }, kinds := [], alts := [], laidByText := true, laidKinds := [.data, .data, .data, .data, .pinned], laidTests := true, laidLooks := .later }
def LockStaysCardSaid : Prop := Claim7.holds Tryd.pinned (.plain (OpenSpec.ofChange lockStaysSpec)) lockStaysCard

/-- THE SECOND FORM's CARD OF 'pomacelaw24.LockMays'. -/
def lockMaysUptoCard : Claim7 := { stood := { row := lockMaysUptoRow, standIns := [], harness := (true, "2b1bd9257e2ad0c1c1af4068e344c8be69747b0723a7c37770a3437b438aab81"), looks := false }, kinds := [], alts := [], laidByText := true, laidKinds := [.data, .data, .data, .data, .pinned], laidTests := true, laidLooks := .later }
def LockMaysUptoCardSaid : Prop := Claim7.holds Tryd.pinned (.plain (OpenSpec.upto lockMaysSpec)) lockMaysUptoCard

/-- THE SECOND FORM's CARD OF 'pomacelaw24.LockParses'. -/
def lockParsesUptoCard : Claim7 := { stood := { row := lockParsesUptoRow, standIns := [], harness := (true, "2b1bd9257e2ad0c1c1af4068e344c8be69747b0723a7c37770a3437b438aab81"), looks := false }, kinds := [], alts := [], laidByText := true, laidKinds := [.data, .data, .data, .data, .pinned], laidTests := true, laidLooks := .later }
def LockParsesUptoCardSaid : Prop := Claim7.holds Tryd.pinned (.plain (OpenSpec.upto lockParsesSpec)) lockParsesUptoCard

/-- THE SECOND FORM's CARD OF 'pomacelaw24.LockBack'. -/
def lockBackUptoCard : Claim7 := { stood := { row := lockBackUptoRow, standIns := [], harness := (true, "2b1bd9257e2ad0c1c1af4068e344c8be69747b0723a7c37770a3437b438aab81"), looks := false }, kinds := [], alts := [], laidByText := true, laidKinds := [.data, .data, .data, .data, .pinned], laidTests := true, laidLooks := .later }
def LockBackUptoCardSaid : Prop := Claim7.holds Tryd.pinned (.plain (OpenSpec.upto lockBackSpec)) lockBackUptoCard

/-- THE SECOND FORM's CARD OF 'pomacelaw24.LockStays'. -/
def lockStaysUptoCard : Claim7 := { stood := { row := lockStaysUptoRow, standIns := [], harness := (true, "2b1bd9257e2ad0c1c1af4068e344c8be69747b0723a7c37770a3437b438aab81"), looks := false }, kinds := [], alts := [], laidByText := true, laidKinds := [.data, .data, .data, .data, .pinned], laidTests := true, laidLooks := .later }
def LockStaysUptoCardSaid : Prop := Claim7.holds Tryd.pinned (.plain (OpenSpec.upto lockStaysSpec)) lockStaysUptoCard
end Rows
end Go.Proofs.YtcmojpfolmcaoaaDoor
