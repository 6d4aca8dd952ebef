/-
  DERIVED. GIVEN WITH THE SEED: THE CARDS: each row of YtfmfkbdmphfkfaaDoorRows.lean that lists a variable, with what it lists TIED to the program's text (the seventh form; the later family's looks); each row that meets fmt, with fmt's text TOLD by the authors' own Lean function (tested against real Go, not proved from fmt's source: count such statements apart). THE CARD IS WHAT COUNTS. Prove the row's statement (the work); the ties are given (YtfmfkbdmphfkfaaDoorTie.lean); close each card by the builder's one call (the guide's Derived/Test/ToyasCard.lean, 'card_holds'). Laid BY PROGRAM, IN A SANDBOX (cutbox-door.mjs). By AI agents, Wed Nov 11 2026. No macro, syntax, notation, axiom, sorry.
-/
import Derived.Test.YtfmfkbdmphfkfaaDoorRows
import GoSem.ClaimSeven
namespace Go.Proofs.YtfmfkbdmphfkfaaDoor
namespace Rows

/-- THE TIED CARD OF 'laws.FnExactFuncOk'. -/
def fnExactFuncOkCard : Claim7 := { stood := { row := fnExactFuncOkRow, standIns := [], harness := (true, "00abb6066ff02a9a428bf0ab1f39a55ff94cc704a1253faa307f55f57993a37a"), looks := false }, kinds := [], alts := [], laidByText := true, laidKinds := [.data, .pinned], laidTests := true, laidLooks := .later }
def FnExactFuncOkCardSaid : Prop := Claim7.holds Tryd.pinned (.plain (OpenSpec.ofChange fnExactFuncOkSpec)) fnExactFuncOkCard

/-- THE TIED CARD OF 'laws.FnExactParamsOf'. -/
def fnExactParamsOfCard : Claim7 := { stood := { row := fnExactParamsOfRow, standIns := [], harness := (true, "00abb6066ff02a9a428bf0ab1f39a55ff94cc704a1253faa307f55f57993a37a"), looks := false }, kinds := [], alts := [], laidByText := true, laidKinds := [.data, .pinned], laidTests := true, laidLooks := .later }
def FnExactParamsOfCardSaid : Prop := Claim7.holds Tryd.pinned (.plain (OpenSpec.ofChange fnExactParamsOfSpec)) fnExactParamsOfCard

/-- THE SECOND FORM's CARD OF 'laws.FnExactFuncOk'. -/
def fnExactFuncOkUptoCard : Claim7 := { stood := { row := fnExactFuncOkUptoRow, standIns := [], harness := (true, "00abb6066ff02a9a428bf0ab1f39a55ff94cc704a1253faa307f55f57993a37a"), looks := false }, kinds := [], alts := [], laidByText := true, laidKinds := [.data, .pinned], laidTests := true, laidLooks := .later }
def FnExactFuncOkUptoCardSaid : Prop := Claim7.holds Tryd.pinned (.plain (OpenSpec.upto fnExactFuncOkSpec)) fnExactFuncOkUptoCard

/-- THE SECOND FORM's CARD OF 'laws.FnExactParamsOf'. -/
def fnExactParamsOfUptoCard : Claim7 := { stood := { row := fnExactParamsOfUptoRow, standIns := [], harness := (true, "00abb6066ff02a9a428bf0ab1f39a55ff94cc704a1253faa307f55f57993a37a"), looks := false }, kinds := [], alts := [], laidByText := true, laidKinds := [.data, .pinned], laidTests := true, laidLooks := .later }
def FnExactParamsOfUptoCardSaid : Prop := Claim7.holds Tryd.pinned (.plain (OpenSpec.upto fnExactParamsOfSpec)) fnExactParamsOfUptoCard
end Rows
end Go.Proofs.YtfmfkbdmphfkfaaDoor
