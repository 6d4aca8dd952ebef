/-
  DERIVED. GIVEN WITH THE SEED: THE CARDS: each row of YtifchfecfkdjlaaGreatDoorRows.lean that lists a variable, with what it lists TIED to the program's text (the seventh form; the later family's looks); each row that meets fmt, with fmt's text TOLD by the authors' own Lean function (tested against real Go, not proved from fmt's source: count such statements apart). THE CARD IS WHAT COUNTS. Prove the row's statement (the work); the ties are given (YtifchfecfkdjlaaGreatDoorTie.lean); close each card by the builder's one call (the guide's Derived/Test/ToyasCard.lean, 'card_holds'). Laid BY PROGRAM, IN A SANDBOX (cutbox-door.mjs). By AI agents, Wed Nov 11 2026. No macro, syntax, notation, axiom, sorry.
-/
import Derived.Test.YtifchfecfkdjlaaGreatDoorRows
import GoSem.ClaimSeven
namespace Go.Proofs.YtifchfecfkdjlaaGreatDoor
namespace Rows

/-- THE TIED CARD OF 'laws.FnExactMayStand'. -/
def fnExactMayStandCard : Claim7 := { stood := { row := fnExactMayStandRow, standIns := [], harness := (true, "adad989b096b7b7d925329a3f9e9ef8fbf8f6ae352887c3cf5914e3fe8d3f994"), looks := false }, kinds := [], alts := [], laidByText := true, laidKinds := [.data, .data, .data, .wider], laidTests := true, laidLooks := .later }
def FnExactMayStandCardSaid : Prop := Claim7.holds Tryz.pinned (.plain (OpenSpec.ofChange fnExactMayStandSpec)) fnExactMayStandCard

/-- THE TIED CARD OF 'laws.FnExactWhyNot'. -/
def fnExactWhyNotCard : Claim7 := { stood := { row := fnExactWhyNotRow, standIns := [], harness := (true, "adad989b096b7b7d925329a3f9e9ef8fbf8f6ae352887c3cf5914e3fe8d3f994"), looks := false }, kinds := [], alts := [], laidByText := true, laidKinds := [.data, .data, .data, .wider], laidTests := true, laidLooks := .later }
def FnExactWhyNotCardSaid : Prop := Claim7.holds Tryz.pinned (.plain (OpenSpec.ofChange fnExactWhyNotSpec)) fnExactWhyNotCard

/-- THE TIED CARD OF 'laws.FnExactFuncServes'. -/
def fnExactFuncServesCard : Claim7 := { stood := { row := fnExactFuncServesRow, standIns := [], harness := (true, "adad989b096b7b7d925329a3f9e9ef8fbf8f6ae352887c3cf5914e3fe8d3f994"), looks := false }, kinds := [], alts := [], laidByText := true, laidKinds := [.data, .data, .data, .data, .wider, .pinned], laidTests := true, laidLooks := .later }
def FnExactFuncServesCardSaid : Prop := Claim7.holds Tryz.pinned (.plain (OpenSpec.ofChange fnExactFuncServesSpec)) fnExactFuncServesCard

/-- THE TIED CARD OF 'laws.FnExactWhyNotFunc'. -/
def fnExactWhyNotFuncCard : Claim7 := { stood := { row := fnExactWhyNotFuncRow, standIns := [], harness := (true, "adad989b096b7b7d925329a3f9e9ef8fbf8f6ae352887c3cf5914e3fe8d3f994"), looks := false }, kinds := [], alts := [], laidByText := true, laidKinds := [.data, .data, .data, .data, .wider, .pinned], laidTests := true, laidLooks := .later }
def FnExactWhyNotFuncCardSaid : Prop := Claim7.holds Tryz.pinned (.plain (OpenSpec.ofChange fnExactWhyNotFuncSpec)) fnExactWhyNotFuncCard

/-- THE SECOND FORM's CARD OF 'laws.FnExactMayStand'. -/
def fnExactMayStandUptoCard : Claim7 := { stood := { row := fnExactMayStandUptoRow, standIns := [], harness := (true, "adad989b096b7b7d925329a3f9e9ef8fbf8f6ae352887c3cf5914e3fe8d3f994"), looks := false }, kinds := [], alts := [], laidByText := true, laidKinds := [.data, .data, .data, .wider], laidTests := true, laidLooks := .later }
def FnExactMayStandUptoCardSaid : Prop := Claim7.holds Tryz.pinned (.plain (OpenSpec.upto fnExactMayStandSpec)) fnExactMayStandUptoCard

/-- THE SECOND FORM's CARD OF 'laws.FnExactWhyNot'. -/
def fnExactWhyNotUptoCard : Claim7 := { stood := { row := fnExactWhyNotUptoRow, standIns := [], harness := (true, "adad989b096b7b7d925329a3f9e9ef8fbf8f6ae352887c3cf5914e3fe8d3f994"), looks := false }, kinds := [], alts := [], laidByText := true, laidKinds := [.data, .data, .data, .wider], laidTests := true, laidLooks := .later }
def FnExactWhyNotUptoCardSaid : Prop := Claim7.holds Tryz.pinned (.plain (OpenSpec.upto fnExactWhyNotSpec)) fnExactWhyNotUptoCard

/-- THE SECOND FORM's CARD OF 'laws.FnExactFuncServes'. -/
def fnExactFuncServesUptoCard : Claim7 := { stood := { row := fnExactFuncServesUptoRow, standIns := [], harness := (true, "adad989b096b7b7d925329a3f9e9ef8fbf8f6ae352887c3cf5914e3fe8d3f994"), looks := false }, kinds := [], alts := [], laidByText := true, laidKinds := [.data, .data, .data, .data, .wider, .pinned], laidTests := true, laidLooks := .later }
def FnExactFuncServesUptoCardSaid : Prop := Claim7.holds Tryz.pinned (.plain (OpenSpec.upto fnExactFuncServesSpec)) fnExactFuncServesUptoCard

/-- THE SECOND FORM's CARD OF 'laws.FnExactWhyNotFunc'. -/
def fnExactWhyNotFuncUptoCard : Claim7 := { stood := { row := fnExactWhyNotFuncUptoRow, standIns := [], harness := (true, "adad989b096b7b7d925329a3f9e9ef8fbf8f6ae352887c3cf5914e3fe8d3f994"), looks := false }, kinds := [], alts := [], laidByText := true, laidKinds := [.data, .data, .data, .data, .wider, .pinned], laidTests := true, laidLooks := .later }
def FnExactWhyNotFuncUptoCardSaid : Prop := Claim7.holds Tryz.pinned (.plain (OpenSpec.upto fnExactWhyNotFuncSpec)) fnExactWhyNotFuncUptoCard
end Rows
end Go.Proofs.YtifchfecfkdjlaaGreatDoor
