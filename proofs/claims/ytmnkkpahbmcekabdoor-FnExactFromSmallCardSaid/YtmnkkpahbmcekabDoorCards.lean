/-
  DERIVED. GIVEN WITH THE SEED: THE CARDS: each row of YtmnkkpahbmcekabDoorRows.lean that lists a variable, with what it lists TIED to the program's text (the seventh form; the later family's looks); each row that meets fmt, with fmt's text TOLD by the authors' own Lean function (tested against real Go, not proved from fmt's source: count such statements apart). THE CARD IS WHAT COUNTS. Prove the row's statement (the work); the ties are given (YtmnkkpahbmcekabDoorTie.lean); close each card by the builder's one call (the guide's Derived/Test/ToyasCard.lean, 'card_holds'). Laid BY PROGRAM, IN A SANDBOX (cutbox-door.mjs). By AI agents, Wed Nov 11 2026. No macro, syntax, notation, axiom, sorry.
-/
import Derived.Test.YtmnkkpahbmcekabDoorRows
import GoSem.ClaimSeven
namespace Go.Proofs.YtmnkkpahbmcekabDoor
namespace Rows

/-- THE TIED CARD OF 'laws.FnExactFromSmall'. -/
def fnExactFromSmallCard : Claim7 := { stood := { row := fnExactFromSmallRow, standIns := [], harness := (true, "bc23ee51462d6e5825fd9d5d987f1d230ea1b5e1538f62c1c2a2302fe6b08395"), looks := false }, kinds := [], alts := [], laidByText := true, laidKinds := [.wider], laidTests := true, laidLooks := .later }
def FnExactFromSmallCardSaid : Prop := Claim7.holds Tryd.pinned (.plain (OpenSpec.ofChange fnExactFromSmallSpec)) fnExactFromSmallCard

/-- THE TIED CARD OF 'laws.FnExactParamsOf'. -/
def fnExactParamsOfCard : Claim7 := { stood := { row := fnExactParamsOfRow, standIns := [], harness := (true, "bc23ee51462d6e5825fd9d5d987f1d230ea1b5e1538f62c1c2a2302fe6b08395"), looks := false }, kinds := [], alts := [], laidByText := true, laidKinds := [.data, .pinned], laidTests := true, laidLooks := .later }
def FnExactParamsOfCardSaid : Prop := Claim7.holds Tryd.pinned (.plain (OpenSpec.ofChange fnExactParamsOfSpec)) fnExactParamsOfCard

/-- THE SECOND FORM's CARD OF 'laws.FnExactFromSmall'. -/
def fnExactFromSmallUptoCard : Claim7 := { stood := { row := fnExactFromSmallUptoRow, standIns := [], harness := (true, "bc23ee51462d6e5825fd9d5d987f1d230ea1b5e1538f62c1c2a2302fe6b08395"), looks := false }, kinds := [], alts := [], laidByText := true, laidKinds := [.wider], laidTests := true, laidLooks := .later }
def FnExactFromSmallUptoCardSaid : Prop := Claim7.holds Tryd.pinned (.plain (OpenSpec.upto fnExactFromSmallSpec)) fnExactFromSmallUptoCard

/-- THE SECOND FORM's CARD OF 'laws.FnExactParamsOf'. -/
def fnExactParamsOfUptoCard : Claim7 := { stood := { row := fnExactParamsOfUptoRow, standIns := [], harness := (true, "bc23ee51462d6e5825fd9d5d987f1d230ea1b5e1538f62c1c2a2302fe6b08395"), looks := false }, kinds := [], alts := [], laidByText := true, laidKinds := [.data, .pinned], laidTests := true, laidLooks := .later }
def FnExactParamsOfUptoCardSaid : Prop := Claim7.holds Tryd.pinned (.plain (OpenSpec.upto fnExactParamsOfSpec)) fnExactParamsOfUptoCard
end Rows
end Go.Proofs.YtmnkkpahbmcekabDoor
