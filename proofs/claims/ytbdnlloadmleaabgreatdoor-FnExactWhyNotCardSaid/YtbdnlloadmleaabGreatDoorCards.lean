/-
  DERIVED. GIVEN WITH THE SEED: THE CARDS: each row of YtbdnlloadmleaabGreatDoorRows.lean that lists a variable, with what it lists TIED to the program's text (the seventh form; the later family's looks); each row that meets fmt, with fmt's text TOLD by the authors' own Lean function (tested against real Go, not proved from fmt's source: count such statements apart). THE CARD IS WHAT COUNTS. Prove the row's statement (the work); the ties are given (YtbdnlloadmleaabGreatDoorTie.lean); close each card by the builder's one call (the guide's Derived/Test/ToyasCard.lean, 'card_holds'). Laid BY PROGRAM, IN A SANDBOX (cutbox-door.mjs). By AI agents, Wed Nov 11 2026. No macro, syntax, notation, axiom, sorry.
-/
import Derived.Test.YtbdnlloadmleaabGreatDoorRows
import GoSem.ClaimSeven
namespace Go.Proofs.YtbdnlloadmleaabGreatDoor
namespace Rows

/-- THE TIED CARD OF 'laws.FnExactWhyNot'. -/
def fnExactWhyNotCard : Claim7 := { stood := { row := fnExactWhyNotRow, standIns := [], harness := (true, "16d74634b44b276c263e119f4fe59d5d16e2e0afc3364800553ec520502b5727"), looks := false }, kinds := [], alts := [], laidByText := true, laidKinds := [.data, .data, .data, .data], laidTests := true, laidLooks := .later }
def FnExactWhyNotCardSaid : Prop := Claim7.holds Tryz.pinned (.plain (OpenSpec.ofChange fnExactWhyNotSpec)) fnExactWhyNotCard

/-- THE TIED CARD OF 'laws.FnExactFuncServes'. -/
def fnExactFuncServesCard : Claim7 := { stood := { row := fnExactFuncServesRow, standIns := [], harness := (true, "16d74634b44b276c263e119f4fe59d5d16e2e0afc3364800553ec520502b5727"), looks := false }, kinds := [], alts := [], laidByText := true, laidKinds := [.data, .data, .data, .data, .data, .pinned], laidTests := true, laidLooks := .later }
def FnExactFuncServesCardSaid : Prop := Claim7.holds Tryz.pinned (.plain (OpenSpec.ofChange fnExactFuncServesSpec)) fnExactFuncServesCard

/-- THE TIED CARD OF 'laws.FnExactWhyNotFunc'. -/
def fnExactWhyNotFuncCard : Claim7 := { stood := { row := fnExactWhyNotFuncRow, standIns := [], harness := (true, "16d74634b44b276c263e119f4fe59d5d16e2e0afc3364800553ec520502b5727"), looks := false }, kinds := [], alts := [], laidByText := true, laidKinds := [.data, .data, .data, .data, .data, .pinned], laidTests := true, laidLooks := .later }
def FnExactWhyNotFuncCardSaid : Prop := Claim7.holds Tryz.pinned (.plain (OpenSpec.ofChange fnExactWhyNotFuncSpec)) fnExactWhyNotFuncCard

/-- THE SECOND FORM's CARD OF 'laws.FnExactWhyNot'. -/
def fnExactWhyNotUptoCard : Claim7 := { stood := { row := fnExactWhyNotUptoRow, standIns := [], harness := (true, "16d74634b44b276c263e119f4fe59d5d16e2e0afc3364800553ec520502b5727"), looks := false }, kinds := [], alts := [], laidByText := true, laidKinds := [.data, .data, .data, .data], laidTests := true, laidLooks := .later }
def FnExactWhyNotUptoCardSaid : Prop := Claim7.holds Tryz.pinned (.plain (OpenSpec.upto fnExactWhyNotSpec)) fnExactWhyNotUptoCard

/-- THE SECOND FORM's CARD OF 'laws.FnExactFuncServes'. -/
def fnExactFuncServesUptoCard : Claim7 := { stood := { row := fnExactFuncServesUptoRow, standIns := [], harness := (true, "16d74634b44b276c263e119f4fe59d5d16e2e0afc3364800553ec520502b5727"), looks := false }, kinds := [], alts := [], laidByText := true, laidKinds := [.data, .data, .data, .data, .data, .pinned], laidTests := true, laidLooks := .later }
def FnExactFuncServesUptoCardSaid : Prop := Claim7.holds Tryz.pinned (.plain (OpenSpec.upto fnExactFuncServesSpec)) fnExactFuncServesUptoCard

/-- THE SECOND FORM's CARD OF 'laws.FnExactWhyNotFunc'. -/
def fnExactWhyNotFuncUptoCard : Claim7 := { stood := { row := fnExactWhyNotFuncUptoRow, standIns := [], harness := (true, "16d74634b44b276c263e119f4fe59d5d16e2e0afc3364800553ec520502b5727"), looks := false }, kinds := [], alts := [], laidByText := true, laidKinds := [.data, .data, .data, .data, .data, .pinned], laidTests := true, laidLooks := .later }
def FnExactWhyNotFuncUptoCardSaid : Prop := Claim7.holds Tryz.pinned (.plain (OpenSpec.upto fnExactWhyNotFuncSpec)) fnExactWhyNotFuncUptoCard
end Rows
end Go.Proofs.YtbdnlloadmleaabGreatDoor
