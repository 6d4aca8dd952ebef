/-
  DERIVED. GIVEN WITH THE SEED: THE CARDS: each row of YtmofgjngigbnpacDoorRows.lean that lists a variable, with what it lists TIED to the program's text (the seventh form; the later family's looks); each row that meets fmt, with fmt's text TOLD by the authors' own Lean function (tested against real Go, not proved from fmt's source: count such statements apart). THE CARD IS WHAT COUNTS. Prove the row's statement (the work); the ties are given (YtmofgjngigbnpacDoorTie.lean); close each card by the builder's one call (the guide's Derived/Test/ToyasCard.lean, 'card_holds'). Laid BY PROGRAM, IN A SANDBOX (cutbox-door.mjs). By AI agents, Wed Nov 11 2026. No macro, syntax, notation, axiom, sorry.
-/
import Derived.Test.YtmofgjngigbnpacDoorRows
import GoSem.ClaimSeven
namespace Go.Proofs.YtmofgjngigbnpacDoor
namespace Rows

/-- THE TIED CARD OF 'laws.FnExactNumRange'. -/
def fnExactNumRangeCard : Claim7 := { stood := { row := fnExactNumRangeRow, standIns := [], harness := (true, "b727a523c947bad689ef09fc33a2370c027dcceed90cef8f458fe388cbe9429d"), looks := false }, kinds := [], alts := [], laidByText := true, laidKinds := [.data], laidTests := true, laidLooks := .later }
def FnExactNumRangeCardSaid : Prop := Claim7.holds Tryd.pinned (.plain (OpenSpec.ofChange fnExactNumRangeSpec)) fnExactNumRangeCard

/-- THE SECOND FORM's CARD OF 'laws.FnExactNumRange'. -/
def fnExactNumRangeUptoCard : Claim7 := { stood := { row := fnExactNumRangeUptoRow, standIns := [], harness := (true, "b727a523c947bad689ef09fc33a2370c027dcceed90cef8f458fe388cbe9429d"), looks := false }, kinds := [], alts := [], laidByText := true, laidKinds := [.data], laidTests := true, laidLooks := .later }
def FnExactNumRangeUptoCardSaid : Prop := Claim7.holds Tryd.pinned (.plain (OpenSpec.upto fnExactNumRangeSpec)) fnExactNumRangeUptoCard
end Rows
end Go.Proofs.YtmofgjngigbnpacDoor
