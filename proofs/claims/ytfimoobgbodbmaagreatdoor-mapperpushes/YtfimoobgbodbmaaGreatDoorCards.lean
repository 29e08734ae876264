/-
  DERIVED. GIVEN WITH THE SEED: THE CARDS: each row of YtfimoobgbodbmaaGreatDoorRows.lean that lists a variable, with what it lists TIED to the program's text (the seventh form; the later family's looks); each row that meets fmt, with fmt's text TOLD by the authors' own Lean function (tested against real Go, not proved from fmt's source: count such statements apart). THE CARD IS WHAT COUNTS. Prove the row's statement (the work); the ties are given (YtfimoobgbodbmaaGreatDoorTie.lean); close each card by the builder's one call (the guide's Derived/Test/ToyasCard.lean, 'card_holds'). Laid BY PROGRAM, IN A SANDBOX (cutbox-door.mjs). By AI agents, Wed Nov 11 2026. No macro, syntax, notation, axiom, sorry.
-/
import Derived.Test.YtfimoobgbodbmaaGreatDoorRows
import GoSem.ClaimSeven
namespace Go.Proofs.YtfimoobgbodbmaaGreatDoor
namespace Rows

/-- THE TIED CARD OF 'staithelaw19.MapperScript'. -/
def mapperScriptCard : Claim7 := { stood := { row := mapperScriptRow, standIns := [], harness := (true, "9d3f61a860bbf91562f1c08defb054c6bc0c3b79cd6e9e96d028be792315fdfb"), looks := true }, kinds := [], alts := [], laidByText := true, laidKinds := [.data, .data, .data, .sentinel, .sentinel], laidTests := true, laidLooks := .later }
def MapperScriptCardSaid : Prop := Claim7.holds Tryz.pinned (.plain (OpenSpec.ofChange mapperScriptSpec)) mapperScriptCard

/-- THE TIED CARD OF 'staithelaw19.MapperWhole'. -/
def mapperWholeCard : Claim7 := { stood := { row := mapperWholeRow, standIns := [], harness := (true, "9d3f61a860bbf91562f1c08defb054c6bc0c3b79cd6e9e96d028be792315fdfb"), looks := true }, kinds := [], alts := [], laidByText := true, laidKinds := [.data, .data, .data, .sentinel, .sentinel], laidTests := true, laidLooks := .later }
def MapperWholeCardSaid : Prop := Claim7.holds Tryz.pinned (.plain (OpenSpec.ofChange mapperWholeSpec)) mapperWholeCard

/-- THE TIED CARD OF 'staithelaw19.MapperPushes'. -/
def mapperPushesCard : Claim7 := { stood := { row := mapperPushesRow, standIns := [], harness := (true, "9d3f61a860bbf91562f1c08defb054c6bc0c3b79cd6e9e96d028be792315fdfb"), looks := true }, kinds := [], alts := [], laidByText := true, laidKinds := [.data, .data, .data, .sentinel, .sentinel], laidTests := true, laidLooks := .later }
def MapperPushesCardSaid : Prop := Claim7.holds Tryz.pinned (.plain (OpenSpec.ofChange mapperPushesSpec)) mapperPushesCard

/-- THE TIED CARD OF 'staithelaw19.MapperNone'. -/
def mapperNoneCard : Claim7 := { stood := { row := mapperNoneRow, standIns := [], harness := (true, "9d3f61a860bbf91562f1c08defb054c6bc0c3b79cd6e9e96d028be792315fdfb"), looks := true }, kinds := [], alts := [], laidByText := true, laidKinds := [.data, .data, .data, .sentinel, .sentinel], laidTests := true, laidLooks := .later }
def MapperNoneCardSaid : Prop := Claim7.holds Tryz.pinned (.plain (OpenSpec.ofChange mapperNoneSpec)) mapperNoneCard

/-- THE SECOND FORM's CARD OF 'staithelaw19.MapperScript'. -/
def mapperScriptUptoCard : Claim7 := { stood := { row := mapperScriptUptoRow, standIns := [], harness := (true, "9d3f61a860bbf91562f1c08defb054c6bc0c3b79cd6e9e96d028be792315fdfb"), looks := true }, kinds := [], alts := [], laidByText := true, laidKinds := [.data, .data, .data, .sentinel, .sentinel], laidTests := true, laidLooks := .later }
def MapperScriptUptoCardSaid : Prop := Claim7.holds Tryz.pinned (.plain (OpenSpec.upto mapperScriptSpec)) mapperScriptUptoCard

/-- THE SECOND FORM's CARD OF 'staithelaw19.MapperWhole'. -/
def mapperWholeUptoCard : Claim7 := { stood := { row := mapperWholeUptoRow, standIns := [], harness := (true, "9d3f61a860bbf91562f1c08defb054c6bc0c3b79cd6e9e96d028be792315fdfb"), looks := true }, kinds := [], alts := [], laidByText := true, laidKinds := [.data, .data, .data, .sentinel, .sentinel], laidTests := true, laidLooks := .later }
def MapperWholeUptoCardSaid : Prop := Claim7.holds Tryz.pinned (.plain (OpenSpec.upto mapperWholeSpec)) mapperWholeUptoCard

/-- THE SECOND FORM's CARD OF 'staithelaw19.MapperPushes'. -/
def mapperPushesUptoCard : Claim7 := { stood := { row := mapperPushesUptoRow, standIns := [], harness := (true, "9d3f61a860bbf91562f1c08defb054c6bc0c3b79cd6e9e96d028be792315fdfb"), looks := true }, kinds := [], alts := [], laidByText := true, laidKinds := [.data, .data, .data, .sentinel, .sentinel], laidTests := true, laidLooks := .later }
def MapperPushesUptoCardSaid : Prop := Claim7.holds Tryz.pinned (.plain (OpenSpec.upto mapperPushesSpec)) mapperPushesUptoCard

/-- THE SECOND FORM's CARD OF 'staithelaw19.MapperNone'. -/
def mapperNoneUptoCard : Claim7 := { stood := { row := mapperNoneUptoRow, standIns := [], harness := (true, "9d3f61a860bbf91562f1c08defb054c6bc0c3b79cd6e9e96d028be792315fdfb"), looks := true }, kinds := [], alts := [], laidByText := true, laidKinds := [.data, .data, .data, .sentinel, .sentinel], laidTests := true, laidLooks := .later }
def MapperNoneUptoCardSaid : Prop := Claim7.holds Tryz.pinned (.plain (OpenSpec.upto mapperNoneSpec)) mapperNoneUptoCard
end Rows
end Go.Proofs.YtfimoobgbodbmaaGreatDoor
