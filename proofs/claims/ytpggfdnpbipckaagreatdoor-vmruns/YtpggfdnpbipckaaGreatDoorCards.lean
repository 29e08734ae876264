/-
  DERIVED. GIVEN WITH THE SEED: THE CARDS: each row of YtpggfdnpbipckaaGreatDoorRows.lean that lists a variable, with what it lists TIED to the program's text (the seventh form; the later family's looks); each row that meets fmt, with fmt's text TOLD by the authors' own Lean function (tested against real Go, not proved from fmt's source: count such statements apart). THE CARD IS WHAT COUNTS. Prove the row's statement (the work); the ties are given (YtpggfdnpbipckaaGreatDoorTie.lean); close each card by the builder's one call (the guide's Derived/Test/ToyasCard.lean, 'card_holds'). Laid BY PROGRAM, IN A SANDBOX (cutbox-door.mjs). By AI agents, Wed Nov 11 2026. No macro, syntax, notation, axiom, sorry.
-/
import Derived.Test.YtpggfdnpbipckaaGreatDoorRows
import GoSem.ClaimSeven
namespace Go.Proofs.YtpggfdnpbipckaaGreatDoor
namespace Rows

/-- THE TIED CARD OF 'staithelaw6.VmRuns'. -/
def vmRunsCard : Claim7 := { stood := { row := vmRunsRow, standIns := [], harness := (true, "9434fe4fa7a4db0d9b3f21739d874bb04f8c5843cd6409bf789b447a90f91536"), looks := true }, kinds := [], alts := [], laidByText := true, laidKinds := [.data, .data, .data, .sentinel, .sentinel], laidTests := true, laidLooks := .later }
def VmRunsCardSaid : Prop := Claim7.holds Tryz.pinned (.plain (OpenSpec.ofChange vmRunsSpec)) vmRunsCard

/-- THE TIED CARD OF 'staithelaw6.VmFuel'. -/
def vmFuelCard : Claim7 := { stood := { row := vmFuelRow, standIns := [], harness := (true, "9434fe4fa7a4db0d9b3f21739d874bb04f8c5843cd6409bf789b447a90f91536"), looks := true }, kinds := [], alts := [], laidByText := true, laidKinds := [.data, .data, .data, .sentinel, .sentinel], laidTests := true, laidLooks := .later }
def VmFuelCardSaid : Prop := Claim7.holds Tryz.pinned (.plain (OpenSpec.ofChange vmFuelSpec)) vmFuelCard

/-- THE TIED CARD OF 'staithelaw6.VmBounds'. -/
def vmBoundsCard : Claim7 := { stood := { row := vmBoundsRow, standIns := [], harness := (true, "9434fe4fa7a4db0d9b3f21739d874bb04f8c5843cd6409bf789b447a90f91536"), looks := true }, kinds := [], alts := [], laidByText := true, laidKinds := [.data, .data, .data, .sentinel, .sentinel], laidTests := true, laidLooks := .later }
def VmBoundsCardSaid : Prop := Claim7.holds Tryz.pinned (.plain (OpenSpec.ofChange vmBoundsSpec)) vmBoundsCard

/-- THE TIED CARD OF 'staithelaw6.VmArith'. -/
def vmArithCard : Claim7 := { stood := { row := vmArithRow, standIns := [], harness := (true, "9434fe4fa7a4db0d9b3f21739d874bb04f8c5843cd6409bf789b447a90f91536"), looks := true }, kinds := [], alts := [], laidByText := true, laidKinds := [.data, .data, .data, .sentinel, .sentinel], laidTests := true, laidLooks := .later }
def VmArithCardSaid : Prop := Claim7.holds Tryz.pinned (.plain (OpenSpec.ofChange vmArithSpec)) vmArithCard

/-- THE TIED CARD OF 'staithelaw6.VmValues'. -/
def vmValuesCard : Claim7 := { stood := { row := vmValuesRow, standIns := [], harness := (true, "9434fe4fa7a4db0d9b3f21739d874bb04f8c5843cd6409bf789b447a90f91536"), looks := true }, kinds := [], alts := [], laidByText := true, laidKinds := [.data, .data, .data, .sentinel, .sentinel], laidTests := true, laidLooks := .later }
def VmValuesCardSaid : Prop := Claim7.holds Tryz.pinned (.plain (OpenSpec.ofChange vmValuesSpec)) vmValuesCard

/-- THE TIED CARD OF 'staithelaw6.VmStack'. -/
def vmStackCard : Claim7 := { stood := { row := vmStackRow, standIns := [], harness := (true, "9434fe4fa7a4db0d9b3f21739d874bb04f8c5843cd6409bf789b447a90f91536"), looks := true }, kinds := [], alts := [], laidByText := true, laidKinds := [.data, .data, .data, .sentinel, .sentinel], laidTests := true, laidLooks := .later }
def VmStackCardSaid : Prop := Claim7.holds Tryz.pinned (.plain (OpenSpec.ofChange vmStackSpec)) vmStackCard

/-- THE SECOND FORM's CARD OF 'staithelaw6.VmRuns'. -/
def vmRunsUptoCard : Claim7 := { stood := { row := vmRunsUptoRow, standIns := [], harness := (true, "9434fe4fa7a4db0d9b3f21739d874bb04f8c5843cd6409bf789b447a90f91536"), looks := true }, kinds := [], alts := [], laidByText := true, laidKinds := [.data, .data, .data, .sentinel, .sentinel], laidTests := true, laidLooks := .later }
def VmRunsUptoCardSaid : Prop := Claim7.holds Tryz.pinned (.plain (OpenSpec.upto vmRunsSpec)) vmRunsUptoCard

/-- THE SECOND FORM's CARD OF 'staithelaw6.VmFuel'. -/
def vmFuelUptoCard : Claim7 := { stood := { row := vmFuelUptoRow, standIns := [], harness := (true, "9434fe4fa7a4db0d9b3f21739d874bb04f8c5843cd6409bf789b447a90f91536"), looks := true }, kinds := [], alts := [], laidByText := true, laidKinds := [.data, .data, .data, .sentinel, .sentinel], laidTests := true, laidLooks := .later }
def VmFuelUptoCardSaid : Prop := Claim7.holds Tryz.pinned (.plain (OpenSpec.upto vmFuelSpec)) vmFuelUptoCard

/-- THE SECOND FORM's CARD OF 'staithelaw6.VmBounds'. -/
def vmBoundsUptoCard : Claim7 := { stood := { row := vmBoundsUptoRow, standIns := [], harness := (true, "9434fe4fa7a4db0d9b3f21739d874bb04f8c5843cd6409bf789b447a90f91536"), looks := true }, kinds := [], alts := [], laidByText := true, laidKinds := [.data, .data, .data, .sentinel, .sentinel], laidTests := true, laidLooks := .later }
def VmBoundsUptoCardSaid : Prop := Claim7.holds Tryz.pinned (.plain (OpenSpec.upto vmBoundsSpec)) vmBoundsUptoCard

/-- THE SECOND FORM's CARD OF 'staithelaw6.VmArith'. -/
def vmArithUptoCard : Claim7 := { stood := { row := vmArithUptoRow, standIns := [], harness := (true, "9434fe4fa7a4db0d9b3f21739d874bb04f8c5843cd6409bf789b447a90f91536"), looks := true }, kinds := [], alts := [], laidByText := true, laidKinds := [.data, .data, .data, .sentinel, .sentinel], laidTests := true, laidLooks := .later }
def VmArithUptoCardSaid : Prop := Claim7.holds Tryz.pinned (.plain (OpenSpec.upto vmArithSpec)) vmArithUptoCard

/-- THE SECOND FORM's CARD OF 'staithelaw6.VmValues'. -/
def vmValuesUptoCard : Claim7 := { stood := { row := vmValuesUptoRow, standIns := [], harness := (true, "9434fe4fa7a4db0d9b3f21739d874bb04f8c5843cd6409bf789b447a90f91536"), looks := true }, kinds := [], alts := [], laidByText := true, laidKinds := [.data, .data, .data, .sentinel, .sentinel], laidTests := true, laidLooks := .later }
def VmValuesUptoCardSaid : Prop := Claim7.holds Tryz.pinned (.plain (OpenSpec.upto vmValuesSpec)) vmValuesUptoCard

/-- THE SECOND FORM's CARD OF 'staithelaw6.VmStack'. -/
def vmStackUptoCard : Claim7 := { stood := { row := vmStackUptoRow, standIns := [], harness := (true, "9434fe4fa7a4db0d9b3f21739d874bb04f8c5843cd6409bf789b447a90f91536"), looks := true }, kinds := [], alts := [], laidByText := true, laidKinds := [.data, .data, .data, .sentinel, .sentinel], laidTests := true, laidLooks := .later }
def VmStackUptoCardSaid : Prop := Claim7.holds Tryz.pinned (.plain (OpenSpec.upto vmStackSpec)) vmStackUptoCard
end Rows
end Go.Proofs.YtpggfdnpbipckaaGreatDoor
