/-
  DERIVED. GIVEN WITH THE SEED: THE CARDS: each row of YtoeofhhmkkpjbaaDoorRows.lean that lists a variable, with what it lists TIED to the program's text (the seventh form; the later family's looks); each row that meets fmt, with fmt's text TOLD by the authors' own Lean function (tested against real Go, not proved from fmt's source: count such statements apart). THE CARD IS WHAT COUNTS. Prove the row's statement (the work); the ties are given (YtoeofhhmkkpjbaaDoorTie.lean); close each card by the builder's one call (the guide's Derived/Test/ToyasCard.lean, 'card_holds'). Laid BY PROGRAM, IN A SANDBOX (cutbox-door.mjs). By AI agents, Wed Nov 11 2026. No macro, syntax, notation, axiom, sorry.
-/
import Derived.Test.YtoeofhhmkkpjbaaDoorRows
import GoSem.ClaimSeven
namespace Go.Proofs.YtoeofhhmkkpjbaaDoor
namespace Rows

/-- THE TIED CARD OF 'laws.FnExactWordOk'. -/
def fnExactWordOkCard : Claim7 := { stood := { row := fnExactWordOkRow, standIns := [], harness := (true, "9167a5c6c1ecf7db80bd5f8121cc51899fa6beefd3e21174be95c7384ebf9354"), looks := true }, kinds := [], alts := [], laidByText := true, laidKinds := [.data, .pinned], laidTests := true, laidLooks := .later }
def FnExactWordOkCardSaid : Prop := Claim7.holds Tryd.pinned (.plain (OpenSpec.ofChange fnExactWordOkSpec)) fnExactWordOkCard

/-- THE TIED CARD OF 'laws.FnExactOpWord'. -/
def fnExactOpWordCard : Claim7 := { stood := { row := fnExactOpWordRow, standIns := [], harness := (true, "9167a5c6c1ecf7db80bd5f8121cc51899fa6beefd3e21174be95c7384ebf9354"), looks := true }, kinds := [], alts := [], laidByText := true, laidKinds := [.data], laidTests := true, laidLooks := .later }
def FnExactOpWordCardSaid : Prop := Claim7.holds Tryd.pinned (.plain (OpenSpec.ofChange fnExactOpWordSpec)) fnExactOpWordCard

/-- THE TIED CARD OF 'laws.FnExactInsOk'. -/
def fnExactInsOkCard : Claim7 := { stood := { row := fnExactInsOkRow, standIns := [], harness := (true, "9167a5c6c1ecf7db80bd5f8121cc51899fa6beefd3e21174be95c7384ebf9354"), looks := true }, kinds := [], alts := [], laidByText := true, laidKinds := [.data], laidTests := true, laidLooks := .later }
def FnExactInsOkCardSaid : Prop := Claim7.holds Tryd.pinned (.plain (OpenSpec.ofChange fnExactInsOkSpec)) fnExactInsOkCard

/-- THE TIED CARD OF 'laws.FnExactInsText'. -/
def fnExactInsTextCard : Claim7 := { stood := { row := fnExactInsTextRow, standIns := [], harness := (true, "9167a5c6c1ecf7db80bd5f8121cc51899fa6beefd3e21174be95c7384ebf9354"), looks := true }, kinds := [], alts := [], laidByText := true, laidKinds := [.data, .data, .data, .data], laidTests := true, laidLooks := .later }
def FnExactInsTextCardSaid : Prop := Claim7.holds Tryd.pinned (.plain (OpenSpec.ofChange fnExactInsTextSpec)) fnExactInsTextCard

/-- THE TIED CARD OF 'laws.FnExactReadIns'. -/
def fnExactReadInsCard : Claim7 := { stood := { row := fnExactReadInsRow, standIns := [], harness := (true, "9167a5c6c1ecf7db80bd5f8121cc51899fa6beefd3e21174be95c7384ebf9354"), looks := true }, kinds := [], alts := [], laidByText := true, laidKinds := [.data, .data, .data, .sentinel, .sentinel, .data], laidTests := true, laidLooks := .later }
def FnExactReadInsCardSaid : Prop := Claim7.holds Tryd.pinned (.plain (OpenSpec.ofChange fnExactReadInsSpec)) fnExactReadInsCard

/-- THE TIED CARD OF 'laws.FnExactModuleShape'. -/
def fnExactModuleShapeCard : Claim7 := { stood := { row := fnExactModuleShapeRow, standIns := [], harness := (true, "9167a5c6c1ecf7db80bd5f8121cc51899fa6beefd3e21174be95c7384ebf9354"), looks := true }, kinds := [], alts := [], laidByText := true, laidKinds := [.data, .data, .pinned], laidTests := true, laidLooks := .later }
def FnExactModuleShapeCardSaid : Prop := Claim7.holds Tryd.pinned (.plain (OpenSpec.ofChange fnExactModuleShapeSpec)) fnExactModuleShapeCard

/-- THE TIED CARD OF 'laws.FnExactCoreOf'. -/
def fnExactCoreOfCard : Claim7 := { stood := { row := fnExactCoreOfRow, standIns := [], harness := (true, "9167a5c6c1ecf7db80bd5f8121cc51899fa6beefd3e21174be95c7384ebf9354"), looks := true }, kinds := [], alts := [], laidByText := true, laidKinds := [.data, .data, .pinned], laidTests := true, laidLooks := .later }
def FnExactCoreOfCardSaid : Prop := Claim7.holds Tryd.pinned (.plain (OpenSpec.ofChange fnExactCoreOfSpec)) fnExactCoreOfCard

/-- THE TIED CARD OF 'laws.FnExactImportOf'. -/
def fnExactImportOfCard : Claim7 := { stood := { row := fnExactImportOfRow, standIns := [], harness := (true, "9167a5c6c1ecf7db80bd5f8121cc51899fa6beefd3e21174be95c7384ebf9354"), looks := true }, kinds := [], alts := [], laidByText := true, laidKinds := [.data, .data, .pinned], laidTests := true, laidLooks := .later }
def FnExactImportOfCardSaid : Prop := Claim7.holds Tryd.pinned (.plain (OpenSpec.ofChange fnExactImportOfSpec)) fnExactImportOfCard

/-- THE TIED CARD OF 'laws.FnExactBlocksOf'. -/
def fnExactBlocksOfCard : Claim7 := { stood := { row := fnExactBlocksOfRow, standIns := [], harness := (true, "9167a5c6c1ecf7db80bd5f8121cc51899fa6beefd3e21174be95c7384ebf9354"), looks := true }, kinds := [], alts := [], laidByText := true, laidKinds := [.data, .data, .pinned], laidTests := true, laidLooks := .later }
def FnExactBlocksOfCardSaid : Prop := Claim7.holds Tryd.pinned (.plain (OpenSpec.ofChange fnExactBlocksOfSpec)) fnExactBlocksOfCard

/-- THE SECOND FORM's CARD OF 'laws.FnExactWordOk'. -/
def fnExactWordOkUptoCard : Claim7 := { stood := { row := fnExactWordOkUptoRow, standIns := [], harness := (true, "9167a5c6c1ecf7db80bd5f8121cc51899fa6beefd3e21174be95c7384ebf9354"), looks := true }, kinds := [], alts := [], laidByText := true, laidKinds := [.data, .pinned], laidTests := true, laidLooks := .later }
def FnExactWordOkUptoCardSaid : Prop := Claim7.holds Tryd.pinned (.plain (OpenSpec.upto fnExactWordOkSpec)) fnExactWordOkUptoCard

/-- THE SECOND FORM's CARD OF 'laws.FnExactOpWord'. -/
def fnExactOpWordUptoCard : Claim7 := { stood := { row := fnExactOpWordUptoRow, standIns := [], harness := (true, "9167a5c6c1ecf7db80bd5f8121cc51899fa6beefd3e21174be95c7384ebf9354"), looks := true }, kinds := [], alts := [], laidByText := true, laidKinds := [.data], laidTests := true, laidLooks := .later }
def FnExactOpWordUptoCardSaid : Prop := Claim7.holds Tryd.pinned (.plain (OpenSpec.upto fnExactOpWordSpec)) fnExactOpWordUptoCard

/-- THE SECOND FORM's CARD OF 'laws.FnExactInsOk'. -/
def fnExactInsOkUptoCard : Claim7 := { stood := { row := fnExactInsOkUptoRow, standIns := [], harness := (true, "9167a5c6c1ecf7db80bd5f8121cc51899fa6beefd3e21174be95c7384ebf9354"), looks := true }, kinds := [], alts := [], laidByText := true, laidKinds := [.data], laidTests := true, laidLooks := .later }
def FnExactInsOkUptoCardSaid : Prop := Claim7.holds Tryd.pinned (.plain (OpenSpec.upto fnExactInsOkSpec)) fnExactInsOkUptoCard

/-- THE SECOND FORM's CARD OF 'laws.FnExactInsText'. -/
def fnExactInsTextUptoCard : Claim7 := { stood := { row := fnExactInsTextUptoRow, standIns := [], harness := (true, "9167a5c6c1ecf7db80bd5f8121cc51899fa6beefd3e21174be95c7384ebf9354"), looks := true }, kinds := [], alts := [], laidByText := true, laidKinds := [.data, .data, .data, .data], laidTests := true, laidLooks := .later }
def FnExactInsTextUptoCardSaid : Prop := Claim7.holds Tryd.pinned (.plain (OpenSpec.upto fnExactInsTextSpec)) fnExactInsTextUptoCard

/-- THE SECOND FORM's CARD OF 'laws.FnExactReadIns'. -/
def fnExactReadInsUptoCard : Claim7 := { stood := { row := fnExactReadInsUptoRow, standIns := [], harness := (true, "9167a5c6c1ecf7db80bd5f8121cc51899fa6beefd3e21174be95c7384ebf9354"), looks := true }, kinds := [], alts := [], laidByText := true, laidKinds := [.data, .data, .data, .sentinel, .sentinel, .data], laidTests := true, laidLooks := .later }
def FnExactReadInsUptoCardSaid : Prop := Claim7.holds Tryd.pinned (.plain (OpenSpec.upto fnExactReadInsSpec)) fnExactReadInsUptoCard

/-- THE SECOND FORM's CARD OF 'laws.FnExactModuleShape'. -/
def fnExactModuleShapeUptoCard : Claim7 := { stood := { row := fnExactModuleShapeUptoRow, standIns := [], harness := (true, "9167a5c6c1ecf7db80bd5f8121cc51899fa6beefd3e21174be95c7384ebf9354"), looks := true }, kinds := [], alts := [], laidByText := true, laidKinds := [.data, .data, .pinned], laidTests := true, laidLooks := .later }
def FnExactModuleShapeUptoCardSaid : Prop := Claim7.holds Tryd.pinned (.plain (OpenSpec.upto fnExactModuleShapeSpec)) fnExactModuleShapeUptoCard

/-- THE SECOND FORM's CARD OF 'laws.FnExactCoreOf'. -/
def fnExactCoreOfUptoCard : Claim7 := { stood := { row := fnExactCoreOfUptoRow, standIns := [], harness := (true, "9167a5c6c1ecf7db80bd5f8121cc51899fa6beefd3e21174be95c7384ebf9354"), looks := true }, kinds := [], alts := [], laidByText := true, laidKinds := [.data, .data, .pinned], laidTests := true, laidLooks := .later }
def FnExactCoreOfUptoCardSaid : Prop := Claim7.holds Tryd.pinned (.plain (OpenSpec.upto fnExactCoreOfSpec)) fnExactCoreOfUptoCard

/-- THE SECOND FORM's CARD OF 'laws.FnExactImportOf'. -/
def fnExactImportOfUptoCard : Claim7 := { stood := { row := fnExactImportOfUptoRow, standIns := [], harness := (true, "9167a5c6c1ecf7db80bd5f8121cc51899fa6beefd3e21174be95c7384ebf9354"), looks := true }, kinds := [], alts := [], laidByText := true, laidKinds := [.data, .data, .pinned], laidTests := true, laidLooks := .later }
def FnExactImportOfUptoCardSaid : Prop := Claim7.holds Tryd.pinned (.plain (OpenSpec.upto fnExactImportOfSpec)) fnExactImportOfUptoCard

/-- THE SECOND FORM's CARD OF 'laws.FnExactBlocksOf'. -/
def fnExactBlocksOfUptoCard : Claim7 := { stood := { row := fnExactBlocksOfUptoRow, standIns := [], harness := (true, "9167a5c6c1ecf7db80bd5f8121cc51899fa6beefd3e21174be95c7384ebf9354"), looks := true }, kinds := [], alts := [], laidByText := true, laidKinds := [.data, .data, .pinned], laidTests := true, laidLooks := .later }
def FnExactBlocksOfUptoCardSaid : Prop := Claim7.holds Tryd.pinned (.plain (OpenSpec.upto fnExactBlocksOfSpec)) fnExactBlocksOfUptoCard
end Rows
end Go.Proofs.YtoeofhhmkkpjbaaDoor
