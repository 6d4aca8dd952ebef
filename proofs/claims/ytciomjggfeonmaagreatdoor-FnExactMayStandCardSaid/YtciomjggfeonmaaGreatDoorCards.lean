/-
  DERIVED. GIVEN WITH THE SEED: THE CARDS: each row of YtciomjggfeonmaaGreatDoorRows.lean that lists a variable, with what it lists TIED to the program's text (the seventh form; the later family's looks); each row that meets fmt, with fmt's text TOLD by the authors' own Lean function (tested against real Go, not proved from fmt's source: count such statements apart). THE CARD IS WHAT COUNTS. Prove the row's statement (the work); the ties are given (YtciomjggfeonmaaGreatDoorTie.lean); close each card by the builder's one call (the guide's Derived/Test/ToyasCard.lean, 'card_holds'). Laid BY PROGRAM, IN A SANDBOX (cutbox-door.mjs). By AI agents, Wed Nov 11 2026. No macro, syntax, notation, axiom, sorry.
-/
import Derived.Test.YtciomjggfeonmaaGreatDoorRows
import GoSem.ClaimSeven
namespace Go.Proofs.YtciomjggfeonmaaGreatDoor
namespace Rows

/-- THE TIED CARD OF 'laws.FnExactMayStand'. -/
def fnExactMayStandCard : Claim7 := { stood := { row := fnExactMayStandRow, standIns := [], harness := (true, "41b47aa9a9b94bd07c60562393aab5524917e5025de19ec858fbd1c369852779"), looks := false }, kinds := [], alts := [], laidByText := true, laidKinds := [.data, .data, .data, .data], laidTests := true, laidLooks := .later }
def FnExactMayStandCardSaid : Prop := Claim7.holds Tryz.pinned (.plain (OpenSpec.ofChange fnExactMayStandSpec)) fnExactMayStandCard

/-- THE TIED CARD OF 'laws.FnExactWhyNot'. -/
def fnExactWhyNotCard : Claim7 := { stood := { row := fnExactWhyNotRow, standIns := [], harness := (true, "41b47aa9a9b94bd07c60562393aab5524917e5025de19ec858fbd1c369852779"), looks := false }, kinds := [], alts := [], laidByText := true, laidKinds := [.data, .data, .data, .data], laidTests := true, laidLooks := .later }
def FnExactWhyNotCardSaid : Prop := Claim7.holds Tryz.pinned (.plain (OpenSpec.ofChange fnExactWhyNotSpec)) fnExactWhyNotCard

/-- THE TIED CARD OF 'laws.FnExactFuncServes'. -/
def fnExactFuncServesCard : Claim7 := { stood := { row := fnExactFuncServesRow, standIns := [], harness := (true, "41b47aa9a9b94bd07c60562393aab5524917e5025de19ec858fbd1c369852779"), looks := false }, kinds := [], alts := [], laidByText := true, laidKinds := [.data, .data, .data, .data, .data, .pinned], laidTests := true, laidLooks := .later }
def FnExactFuncServesCardSaid : Prop := Claim7.holds Tryz.pinned (.plain (OpenSpec.ofChange fnExactFuncServesSpec)) fnExactFuncServesCard

/-- THE TIED CARD OF 'laws.FnExactWhyNotFunc'. -/
def fnExactWhyNotFuncCard : Claim7 := { stood := { row := fnExactWhyNotFuncRow, standIns := [], harness := (true, "41b47aa9a9b94bd07c60562393aab5524917e5025de19ec858fbd1c369852779"), looks := false }, kinds := [], alts := [], laidByText := true, laidKinds := [.data, .data, .data, .data, .data, .pinned], laidTests := true, laidLooks := .later }
def FnExactWhyNotFuncCardSaid : Prop := Claim7.holds Tryz.pinned (.plain (OpenSpec.ofChange fnExactWhyNotFuncSpec)) fnExactWhyNotFuncCard

/-- THE TIED CARD OF 'laws.FnExactFuncIn'. -/
def fnExactFuncInCard : Claim7 := { stood := { row := fnExactFuncInRow, standIns := [], harness := (true, "41b47aa9a9b94bd07c60562393aab5524917e5025de19ec858fbd1c369852779"), looks := false }, kinds := [], alts := [], laidByText := true, laidKinds := [.data, .pinned], laidTests := true, laidLooks := .later }
def FnExactFuncInCardSaid : Prop := Claim7.holds Tryz.pinned (.plain (OpenSpec.ofChange fnExactFuncInSpec)) fnExactFuncInCard

/-- THE TIED CARD OF 'laws.FnExactFaceOk'. -/
def fnExactFaceOkCard : Claim7 := { stood := { row := fnExactFaceOkRow, standIns := [], harness := (true, "41b47aa9a9b94bd07c60562393aab5524917e5025de19ec858fbd1c369852779"), looks := false }, kinds := [], alts := [], laidByText := true, laidKinds := [.data, .pinned], laidTests := true, laidLooks := .later }
def FnExactFaceOkCardSaid : Prop := Claim7.holds Tryz.pinned (.plain (OpenSpec.ofChange fnExactFaceOkSpec)) fnExactFaceOkCard

/-- THE TIED CARD OF 'laws.FnExactWorldOk'. -/
def fnExactWorldOkCard : Claim7 := { stood := { row := fnExactWorldOkRow, standIns := [], harness := (true, "41b47aa9a9b94bd07c60562393aab5524917e5025de19ec858fbd1c369852779"), looks := false }, kinds := [], alts := [], laidByText := true, laidKinds := [.data, .pinned], laidTests := true, laidLooks := .later }
def FnExactWorldOkCardSaid : Prop := Claim7.holds Tryz.pinned (.plain (OpenSpec.ofChange fnExactWorldOkSpec)) fnExactWorldOkCard

/-- THE TIED CARD OF 'laws.FnExactFaceServes'. -/
def fnExactFaceServesCard : Claim7 := { stood := { row := fnExactFaceServesRow, standIns := [], harness := (true, "41b47aa9a9b94bd07c60562393aab5524917e5025de19ec858fbd1c369852779"), looks := false }, kinds := [], alts := [], laidByText := true, laidKinds := [.data, .data, .data, .data, .data, .pinned], laidTests := true, laidLooks := .later }
def FnExactFaceServesCardSaid : Prop := Claim7.holds Tryz.pinned (.plain (OpenSpec.ofChange fnExactFaceServesSpec)) fnExactFaceServesCard

/-- THE SECOND FORM's CARD OF 'laws.FnExactMayStand'. -/
def fnExactMayStandUptoCard : Claim7 := { stood := { row := fnExactMayStandUptoRow, standIns := [], harness := (true, "41b47aa9a9b94bd07c60562393aab5524917e5025de19ec858fbd1c369852779"), looks := false }, kinds := [], alts := [], laidByText := true, laidKinds := [.data, .data, .data, .data], laidTests := true, laidLooks := .later }
def FnExactMayStandUptoCardSaid : Prop := Claim7.holds Tryz.pinned (.plain (OpenSpec.upto fnExactMayStandSpec)) fnExactMayStandUptoCard

/-- THE SECOND FORM's CARD OF 'laws.FnExactWhyNot'. -/
def fnExactWhyNotUptoCard : Claim7 := { stood := { row := fnExactWhyNotUptoRow, standIns := [], harness := (true, "41b47aa9a9b94bd07c60562393aab5524917e5025de19ec858fbd1c369852779"), looks := false }, kinds := [], alts := [], laidByText := true, laidKinds := [.data, .data, .data, .data], laidTests := true, laidLooks := .later }
def FnExactWhyNotUptoCardSaid : Prop := Claim7.holds Tryz.pinned (.plain (OpenSpec.upto fnExactWhyNotSpec)) fnExactWhyNotUptoCard

/-- THE SECOND FORM's CARD OF 'laws.FnExactFuncServes'. -/
def fnExactFuncServesUptoCard : Claim7 := { stood := { row := fnExactFuncServesUptoRow, standIns := [], harness := (true, "41b47aa9a9b94bd07c60562393aab5524917e5025de19ec858fbd1c369852779"), looks := false }, kinds := [], alts := [], laidByText := true, laidKinds := [.data, .data, .data, .data, .data, .pinned], laidTests := true, laidLooks := .later }
def FnExactFuncServesUptoCardSaid : Prop := Claim7.holds Tryz.pinned (.plain (OpenSpec.upto fnExactFuncServesSpec)) fnExactFuncServesUptoCard

/-- THE SECOND FORM's CARD OF 'laws.FnExactWhyNotFunc'. -/
def fnExactWhyNotFuncUptoCard : Claim7 := { stood := { row := fnExactWhyNotFuncUptoRow, standIns := [], harness := (true, "41b47aa9a9b94bd07c60562393aab5524917e5025de19ec858fbd1c369852779"), looks := false }, kinds := [], alts := [], laidByText := true, laidKinds := [.data, .data, .data, .data, .data, .pinned], laidTests := true, laidLooks := .later }
def FnExactWhyNotFuncUptoCardSaid : Prop := Claim7.holds Tryz.pinned (.plain (OpenSpec.upto fnExactWhyNotFuncSpec)) fnExactWhyNotFuncUptoCard

/-- THE SECOND FORM's CARD OF 'laws.FnExactFuncIn'. -/
def fnExactFuncInUptoCard : Claim7 := { stood := { row := fnExactFuncInUptoRow, standIns := [], harness := (true, "41b47aa9a9b94bd07c60562393aab5524917e5025de19ec858fbd1c369852779"), looks := false }, kinds := [], alts := [], laidByText := true, laidKinds := [.data, .pinned], laidTests := true, laidLooks := .later }
def FnExactFuncInUptoCardSaid : Prop := Claim7.holds Tryz.pinned (.plain (OpenSpec.upto fnExactFuncInSpec)) fnExactFuncInUptoCard

/-- THE SECOND FORM's CARD OF 'laws.FnExactFaceOk'. -/
def fnExactFaceOkUptoCard : Claim7 := { stood := { row := fnExactFaceOkUptoRow, standIns := [], harness := (true, "41b47aa9a9b94bd07c60562393aab5524917e5025de19ec858fbd1c369852779"), looks := false }, kinds := [], alts := [], laidByText := true, laidKinds := [.data, .pinned], laidTests := true, laidLooks := .later }
def FnExactFaceOkUptoCardSaid : Prop := Claim7.holds Tryz.pinned (.plain (OpenSpec.upto fnExactFaceOkSpec)) fnExactFaceOkUptoCard

/-- THE SECOND FORM's CARD OF 'laws.FnExactWorldOk'. -/
def fnExactWorldOkUptoCard : Claim7 := { stood := { row := fnExactWorldOkUptoRow, standIns := [], harness := (true, "41b47aa9a9b94bd07c60562393aab5524917e5025de19ec858fbd1c369852779"), looks := false }, kinds := [], alts := [], laidByText := true, laidKinds := [.data, .pinned], laidTests := true, laidLooks := .later }
def FnExactWorldOkUptoCardSaid : Prop := Claim7.holds Tryz.pinned (.plain (OpenSpec.upto fnExactWorldOkSpec)) fnExactWorldOkUptoCard

/-- THE SECOND FORM's CARD OF 'laws.FnExactFaceServes'. -/
def fnExactFaceServesUptoCard : Claim7 := { stood := { row := fnExactFaceServesUptoRow, standIns := [], harness := (true, "41b47aa9a9b94bd07c60562393aab5524917e5025de19ec858fbd1c369852779"), looks := false }, kinds := [], alts := [], laidByText := true, laidKinds := [.data, .data, .data, .data, .data, .pinned], laidTests := true, laidLooks := .later }
def FnExactFaceServesUptoCardSaid : Prop := Claim7.holds Tryz.pinned (.plain (OpenSpec.upto fnExactFaceServesSpec)) fnExactFaceServesUptoCard
end Rows
end Go.Proofs.YtciomjggfeonmaaGreatDoor
