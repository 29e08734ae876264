/-
  DERIVED. GIVEN WITH THE SEED: THE CARDS: each row of YtobgobmfhgagbaaGreatDoorRows.lean that lists a variable, with what it lists TIED to the program's text (the seventh form; the later family's looks); each row that meets fmt, with fmt's text TOLD by the authors' own Lean function (tested against real Go, not proved from fmt's source: count such statements apart). THE CARD IS WHAT COUNTS. Prove the row's statement (the work); the ties are given (YtobgobmfhgagbaaGreatDoorTie.lean); close each card by the builder's one call (the guide's Derived/Test/ToyasCard.lean, 'card_holds'). Laid BY PROGRAM, IN A SANDBOX (cutbox-door.mjs). By AI agents, Wed Nov 11 2026. No macro, syntax, notation, axiom, sorry.
-/
import Derived.Test.YtobgobmfhgagbaaGreatDoorRows
import GoSem.ClaimSeven
namespace Go.Proofs.YtobgobmfhgagbaaGreatDoor
namespace Rows

/-- THE TIED CARD OF 'staithelaw9.FoldEmpty'. -/
def foldEmptyCard : Claim7 := { stood := { row := foldEmptyRow, standIns := [], harness := (true, "0ad79234aa15243e33389b231f02c5a98c252cd2033f231d60e45f557995b514"), looks := true }, kinds := [], alts := [], laidByText := true, laidKinds := [.data, .data, .data, .sentinel, .sentinel], laidTests := true, laidLooks := .later }
def FoldEmptyCardSaid : Prop := Claim7.holds Tryz.pinned (.plain (OpenSpec.ofChange foldEmptySpec)) foldEmptyCard

/-- THE SECOND FORM's CARD OF 'staithelaw9.FoldEmpty'. -/
def foldEmptyUptoCard : Claim7 := { stood := { row := foldEmptyUptoRow, standIns := [], harness := (true, "0ad79234aa15243e33389b231f02c5a98c252cd2033f231d60e45f557995b514"), looks := true }, kinds := [], alts := [], laidByText := true, laidKinds := [.data, .data, .data, .sentinel, .sentinel], laidTests := true, laidLooks := .later }
def FoldEmptyUptoCardSaid : Prop := Claim7.holds Tryz.pinned (.plain (OpenSpec.upto foldEmptySpec)) foldEmptyUptoCard
end Rows
end Go.Proofs.YtobgobmfhgagbaaGreatDoor
