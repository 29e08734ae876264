/-
  DERIVED. GIVEN WITH THE SEED: THE CARDS: each row of YtpggfdnpbipckabGreatDoorRows.lean that lists a variable, with what it lists TIED to the program's text (the seventh form; the later family's looks); each row that meets fmt, with fmt's text TOLD by the authors' own Lean function (tested against real Go, not proved from fmt's source: count such statements apart). THE CARD IS WHAT COUNTS. Prove the row's statement (the work); the ties are given (YtpggfdnpbipckabGreatDoorTie.lean); close each card by the builder's one call (the guide's Derived/Test/ToyasCard.lean, 'card_holds'). Laid BY PROGRAM, IN A SANDBOX (cutbox-door.mjs). By AI agents, Wed Nov 11 2026. No macro, syntax, notation, axiom, sorry.
-/
import Derived.Test.YtpggfdnpbipckabGreatDoorRows
import GoSem.ClaimSeven
namespace Go.Proofs.YtpggfdnpbipckabGreatDoor
namespace Rows

/-- THE TIED CARD OF 'staithelaw6.VmKinds'. -/
def vmKindsCard : Claim7 := { stood := { row := vmKindsRow, standIns := [], harness := (true, "5188a8eacce42a0a74f307735ffd0bf12a00f2f50480a22b90208b6cf53b0389"), looks := true }, kinds := [], alts := [], laidByText := true, laidKinds := [.data, .data, .data, .sentinel, .sentinel], laidTests := true, laidLooks := .later }
def VmKindsCardSaid : Prop := Claim7.holds Tryz.pinned (.plain (OpenSpec.ofChange vmKindsSpec)) vmKindsCard

/-- THE TIED CARD OF 'staithelaw6.VmSums'. -/
def vmSumsCard : Claim7 := { stood := { row := vmSumsRow, standIns := [], harness := (true, "5188a8eacce42a0a74f307735ffd0bf12a00f2f50480a22b90208b6cf53b0389"), looks := true }, kinds := [], alts := [], laidByText := true, laidKinds := [.data, .data, .data, .sentinel, .sentinel], laidTests := true, laidLooks := .later }
def VmSumsCardSaid : Prop := Claim7.holds Tryz.pinned (.plain (OpenSpec.ofChange vmSumsSpec)) vmSumsCard

/-- THE SECOND FORM's CARD OF 'staithelaw6.VmKinds'. -/
def vmKindsUptoCard : Claim7 := { stood := { row := vmKindsUptoRow, standIns := [], harness := (true, "5188a8eacce42a0a74f307735ffd0bf12a00f2f50480a22b90208b6cf53b0389"), looks := true }, kinds := [], alts := [], laidByText := true, laidKinds := [.data, .data, .data, .sentinel, .sentinel], laidTests := true, laidLooks := .later }
def VmKindsUptoCardSaid : Prop := Claim7.holds Tryz.pinned (.plain (OpenSpec.upto vmKindsSpec)) vmKindsUptoCard

/-- THE SECOND FORM's CARD OF 'staithelaw6.VmSums'. -/
def vmSumsUptoCard : Claim7 := { stood := { row := vmSumsUptoRow, standIns := [], harness := (true, "5188a8eacce42a0a74f307735ffd0bf12a00f2f50480a22b90208b6cf53b0389"), looks := true }, kinds := [], alts := [], laidByText := true, laidKinds := [.data, .data, .data, .sentinel, .sentinel], laidTests := true, laidLooks := .later }
def VmSumsUptoCardSaid : Prop := Claim7.holds Tryz.pinned (.plain (OpenSpec.upto vmSumsSpec)) vmSumsUptoCard
end Rows
end Go.Proofs.YtpggfdnpbipckabGreatDoor
