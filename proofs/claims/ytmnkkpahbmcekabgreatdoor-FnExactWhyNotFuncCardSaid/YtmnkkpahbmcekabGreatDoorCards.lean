/-
  DERIVED. GIVEN WITH THE SEED: THE CARDS: each row of YtmnkkpahbmcekabGreatDoorRows.lean that lists a variable, with what it lists TIED to the program's text (the seventh form; the later family's looks); each row that meets fmt, with fmt's text TOLD by the authors' own Lean function (tested against real Go, not proved from fmt's source: count such statements apart). THE CARD IS WHAT COUNTS. Prove the row's statement (the work); the ties are given (YtmnkkpahbmcekabGreatDoorTie.lean); close each card by the builder's one call (the guide's Derived/Test/ToyasCard.lean, 'card_holds'). Laid BY PROGRAM, IN A SANDBOX (cutbox-door.mjs). By AI agents, Wed Nov 11 2026. No macro, syntax, notation, axiom, sorry.
-/
import Derived.Test.YtmnkkpahbmcekabGreatDoorRows
import GoSem.ClaimSeven
namespace Go.Proofs.YtmnkkpahbmcekabGreatDoor
namespace Rows

/-- THE TIED CARD OF 'laws.FnExactFuncServes'. -/
def fnExactFuncServesCard : Claim7 := { stood := { row := fnExactFuncServesRow, standIns := [], harness := (true, "c8283824a769feb0500acd26099a1b9bf5cab18a1a9cee7d28e6cd4ff9fa66a1"), looks := false }, kinds := [], alts := [], laidByText := true, laidKinds := [.data, .data, .data, .data, .wider, .pinned], laidTests := true, laidLooks := .later }
def FnExactFuncServesCardSaid : Prop := Claim7.holds Tryz.pinned (.plain (OpenSpec.ofChange fnExactFuncServesSpec)) fnExactFuncServesCard

/-- THE TIED CARD OF 'laws.FnExactWhyNotFunc'. -/
def fnExactWhyNotFuncCard : Claim7 := { stood := { row := fnExactWhyNotFuncRow, standIns := [], harness := (true, "c8283824a769feb0500acd26099a1b9bf5cab18a1a9cee7d28e6cd4ff9fa66a1"), looks := false }, kinds := [], alts := [], laidByText := true, laidKinds := [.data, .data, .data, .data, .wider, .pinned], laidTests := true, laidLooks := .later }
def FnExactWhyNotFuncCardSaid : Prop := Claim7.holds Tryz.pinned (.plain (OpenSpec.ofChange fnExactWhyNotFuncSpec)) fnExactWhyNotFuncCard

/-- THE SECOND FORM's CARD OF 'laws.FnExactFuncServes'. -/
def fnExactFuncServesUptoCard : Claim7 := { stood := { row := fnExactFuncServesUptoRow, standIns := [], harness := (true, "c8283824a769feb0500acd26099a1b9bf5cab18a1a9cee7d28e6cd4ff9fa66a1"), looks := false }, kinds := [], alts := [], laidByText := true, laidKinds := [.data, .data, .data, .data, .wider, .pinned], laidTests := true, laidLooks := .later }
def FnExactFuncServesUptoCardSaid : Prop := Claim7.holds Tryz.pinned (.plain (OpenSpec.upto fnExactFuncServesSpec)) fnExactFuncServesUptoCard

/-- THE SECOND FORM's CARD OF 'laws.FnExactWhyNotFunc'. -/
def fnExactWhyNotFuncUptoCard : Claim7 := { stood := { row := fnExactWhyNotFuncUptoRow, standIns := [], harness := (true, "c8283824a769feb0500acd26099a1b9bf5cab18a1a9cee7d28e6cd4ff9fa66a1"), looks := false }, kinds := [], alts := [], laidByText := true, laidKinds := [.data, .data, .data, .data, .wider, .pinned], laidTests := true, laidLooks := .later }
def FnExactWhyNotFuncUptoCardSaid : Prop := Claim7.holds Tryz.pinned (.plain (OpenSpec.upto fnExactWhyNotFuncSpec)) fnExactWhyNotFuncUptoCard
end Rows
end Go.Proofs.YtmnkkpahbmcekabGreatDoor
