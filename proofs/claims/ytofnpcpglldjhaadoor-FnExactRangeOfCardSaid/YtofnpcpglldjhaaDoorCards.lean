/-
  DERIVED. GIVEN WITH THE SEED: THE CARDS: each row of YtofnpcpglldjhaaDoorRows.lean that lists a variable, with what it lists TIED to the program's text (the seventh form; the later family's looks); each row that meets fmt, with fmt's text TOLD by the authors' own Lean function (tested against real Go, not proved from fmt's source: count such statements apart). THE CARD IS WHAT COUNTS. Prove the row's statement (the work); the ties are given (YtofnpcpglldjhaaDoorTie.lean); close each card by the builder's one call (the guide's Derived/Test/ToyasCard.lean, 'card_holds'). Laid BY PROGRAM, IN A SANDBOX (cutbox-door.mjs). By AI agents, Wed Nov 11 2026. No macro, syntax, notation, axiom, sorry.
-/
import Derived.Test.YtofnpcpglldjhaaDoorRows
import GoSem.ClaimSeven
namespace Go.Proofs.YtofnpcpglldjhaaDoor
namespace Rows

/-- THE TIED CARD OF 'laws.FnVersions'. -/
def fnVersionsCard : Claim7 := { stood := { row := fnVersionsRow, standIns := [], harness := (true, "b0cd1786f0da47c41abf12ded5c90d8abba4d028ad343a448fb852b762044a03"), looks := false }, kinds := [], alts := [], laidByText := true, laidKinds := [.data, .data, .data, .data, .pinned], laidTests := true, laidLooks := .later }
def FnVersionsCardSaid : Prop := Claim7.holds Tryd.pinned (.plain (OpenSpec.ofChange fnVersionsSpec)) fnVersionsCard

/-- THE TIED CARD OF 'laws.FnRanges'. -/
def fnRangesCard : Claim7 := { stood := { row := fnRangesRow, standIns := [], harness := (true, "b0cd1786f0da47c41abf12ded5c90d8abba4d028ad343a448fb852b762044a03"), looks := false }, kinds := [], alts := [], laidByText := true, laidKinds := [.data, .data, .data, .data, .pinned], laidTests := true, laidLooks := .later }
def FnRangesCardSaid : Prop := Claim7.holds Tryd.pinned (.plain (OpenSpec.ofChange fnRangesSpec)) fnRangesCard

/-- THE TIED CARD OF 'laws.FnExactVersionOk'. -/
def fnExactVersionOkCard : Claim7 := { stood := { row := fnExactVersionOkRow, standIns := [], harness := (true, "b0cd1786f0da47c41abf12ded5c90d8abba4d028ad343a448fb852b762044a03"), looks := false }, kinds := [], alts := [], laidByText := true, laidKinds := [.data, .pinned], laidTests := true, laidLooks := .later }
def FnExactVersionOkCardSaid : Prop := Claim7.holds Tryd.pinned (.plain (OpenSpec.ofChange fnExactVersionOkSpec)) fnExactVersionOkCard

/-- THE TIED CARD OF 'laws.FnExactVersionNumber'. -/
def fnExactVersionNumberCard : Claim7 := { stood := { row := fnExactVersionNumberRow, standIns := [], harness := (true, "b0cd1786f0da47c41abf12ded5c90d8abba4d028ad343a448fb852b762044a03"), looks := false }, kinds := [], alts := [], laidByText := true, laidKinds := [.data, .pinned], laidTests := true, laidLooks := .later }
def FnExactVersionNumberCardSaid : Prop := Claim7.holds Tryd.pinned (.plain (OpenSpec.ofChange fnExactVersionNumberSpec)) fnExactVersionNumberCard

/-- THE TIED CARD OF 'laws.FnExactCompareVersions'. -/
def fnExactCompareVersionsCard : Claim7 := { stood := { row := fnExactCompareVersionsRow, standIns := [], harness := (true, "b0cd1786f0da47c41abf12ded5c90d8abba4d028ad343a448fb852b762044a03"), looks := false }, kinds := [], alts := [], laidByText := true, laidKinds := [.data, .pinned], laidTests := true, laidLooks := .later }
def FnExactCompareVersionsCardSaid : Prop := Claim7.holds Tryd.pinned (.plain (OpenSpec.ofChange fnExactCompareVersionsSpec)) fnExactCompareVersionsCard

/-- THE TIED CARD OF 'laws.FnExactServes'. -/
def fnExactServesCard : Claim7 := { stood := { row := fnExactServesRow, standIns := [], harness := (true, "b0cd1786f0da47c41abf12ded5c90d8abba4d028ad343a448fb852b762044a03"), looks := false }, kinds := [], alts := [], laidByText := true, laidKinds := [.data, .pinned], laidTests := true, laidLooks := .later }
def FnExactServesCardSaid : Prop := Claim7.holds Tryd.pinned (.plain (OpenSpec.ofChange fnExactServesSpec)) fnExactServesCard

/-- THE TIED CARD OF 'laws.FnExactRangeOf'. -/
def fnExactRangeOfCard : Claim7 := { stood := { row := fnExactRangeOfRow, standIns := [], harness := (true, "b0cd1786f0da47c41abf12ded5c90d8abba4d028ad343a448fb852b762044a03"), looks := false }, kinds := [], alts := [], laidByText := true, laidKinds := [.data, .pinned], laidTests := true, laidLooks := .later }
def FnExactRangeOfCardSaid : Prop := Claim7.holds Tryd.pinned (.plain (OpenSpec.ofChange fnExactRangeOfSpec)) fnExactRangeOfCard

/-- THE TIED CARD OF 'laws.FnExactInRange'. -/
def fnExactInRangeCard : Claim7 := { stood := { row := fnExactInRangeRow, standIns := [], harness := (true, "b0cd1786f0da47c41abf12ded5c90d8abba4d028ad343a448fb852b762044a03"), looks := false }, kinds := [], alts := [], laidByText := true, laidKinds := [.data, .pinned], laidTests := true, laidLooks := .later }
def FnExactInRangeCardSaid : Prop := Claim7.holds Tryd.pinned (.plain (OpenSpec.ofChange fnExactInRangeSpec)) fnExactInRangeCard

/-- THE TIED CARD OF 'laws.FnExactBestIn'. -/
def fnExactBestInCard : Claim7 := { stood := { row := fnExactBestInRow, standIns := [], harness := (true, "b0cd1786f0da47c41abf12ded5c90d8abba4d028ad343a448fb852b762044a03"), looks := false }, kinds := [], alts := [], laidByText := true, laidKinds := [.data, .data, .data, .data, .pinned], laidTests := true, laidLooks := .later }
def FnExactBestInCardSaid : Prop := Claim7.holds Tryd.pinned (.plain (OpenSpec.ofChange fnExactBestInSpec)) fnExactBestInCard

/-- THE SECOND FORM's CARD OF 'laws.FnVersions'. -/
def fnVersionsUptoCard : Claim7 := { stood := { row := fnVersionsUptoRow, standIns := [], harness := (true, "b0cd1786f0da47c41abf12ded5c90d8abba4d028ad343a448fb852b762044a03"), looks := false }, kinds := [], alts := [], laidByText := true, laidKinds := [.data, .data, .data, .data, .pinned], laidTests := true, laidLooks := .later }
def FnVersionsUptoCardSaid : Prop := Claim7.holds Tryd.pinned (.plain (OpenSpec.upto fnVersionsSpec)) fnVersionsUptoCard

/-- THE SECOND FORM's CARD OF 'laws.FnRanges'. -/
def fnRangesUptoCard : Claim7 := { stood := { row := fnRangesUptoRow, standIns := [], harness := (true, "b0cd1786f0da47c41abf12ded5c90d8abba4d028ad343a448fb852b762044a03"), looks := false }, kinds := [], alts := [], laidByText := true, laidKinds := [.data, .data, .data, .data, .pinned], laidTests := true, laidLooks := .later }
def FnRangesUptoCardSaid : Prop := Claim7.holds Tryd.pinned (.plain (OpenSpec.upto fnRangesSpec)) fnRangesUptoCard

/-- THE SECOND FORM's CARD OF 'laws.FnExactVersionOk'. -/
def fnExactVersionOkUptoCard : Claim7 := { stood := { row := fnExactVersionOkUptoRow, standIns := [], harness := (true, "b0cd1786f0da47c41abf12ded5c90d8abba4d028ad343a448fb852b762044a03"), looks := false }, kinds := [], alts := [], laidByText := true, laidKinds := [.data, .pinned], laidTests := true, laidLooks := .later }
def FnExactVersionOkUptoCardSaid : Prop := Claim7.holds Tryd.pinned (.plain (OpenSpec.upto fnExactVersionOkSpec)) fnExactVersionOkUptoCard

/-- THE SECOND FORM's CARD OF 'laws.FnExactVersionNumber'. -/
def fnExactVersionNumberUptoCard : Claim7 := { stood := { row := fnExactVersionNumberUptoRow, standIns := [], harness := (true, "b0cd1786f0da47c41abf12ded5c90d8abba4d028ad343a448fb852b762044a03"), looks := false }, kinds := [], alts := [], laidByText := true, laidKinds := [.data, .pinned], laidTests := true, laidLooks := .later }
def FnExactVersionNumberUptoCardSaid : Prop := Claim7.holds Tryd.pinned (.plain (OpenSpec.upto fnExactVersionNumberSpec)) fnExactVersionNumberUptoCard

/-- THE SECOND FORM's CARD OF 'laws.FnExactCompareVersions'. -/
def fnExactCompareVersionsUptoCard : Claim7 := { stood := { row := fnExactCompareVersionsUptoRow, standIns := [], harness := (true, "b0cd1786f0da47c41abf12ded5c90d8abba4d028ad343a448fb852b762044a03"), looks := false }, kinds := [], alts := [], laidByText := true, laidKinds := [.data, .pinned], laidTests := true, laidLooks := .later }
def FnExactCompareVersionsUptoCardSaid : Prop := Claim7.holds Tryd.pinned (.plain (OpenSpec.upto fnExactCompareVersionsSpec)) fnExactCompareVersionsUptoCard

/-- THE SECOND FORM's CARD OF 'laws.FnExactServes'. -/
def fnExactServesUptoCard : Claim7 := { stood := { row := fnExactServesUptoRow, standIns := [], harness := (true, "b0cd1786f0da47c41abf12ded5c90d8abba4d028ad343a448fb852b762044a03"), looks := false }, kinds := [], alts := [], laidByText := true, laidKinds := [.data, .pinned], laidTests := true, laidLooks := .later }
def FnExactServesUptoCardSaid : Prop := Claim7.holds Tryd.pinned (.plain (OpenSpec.upto fnExactServesSpec)) fnExactServesUptoCard

/-- THE SECOND FORM's CARD OF 'laws.FnExactRangeOf'. -/
def fnExactRangeOfUptoCard : Claim7 := { stood := { row := fnExactRangeOfUptoRow, standIns := [], harness := (true, "b0cd1786f0da47c41abf12ded5c90d8abba4d028ad343a448fb852b762044a03"), looks := false }, kinds := [], alts := [], laidByText := true, laidKinds := [.data, .pinned], laidTests := true, laidLooks := .later }
def FnExactRangeOfUptoCardSaid : Prop := Claim7.holds Tryd.pinned (.plain (OpenSpec.upto fnExactRangeOfSpec)) fnExactRangeOfUptoCard

/-- THE SECOND FORM's CARD OF 'laws.FnExactInRange'. -/
def fnExactInRangeUptoCard : Claim7 := { stood := { row := fnExactInRangeUptoRow, standIns := [], harness := (true, "b0cd1786f0da47c41abf12ded5c90d8abba4d028ad343a448fb852b762044a03"), looks := false }, kinds := [], alts := [], laidByText := true, laidKinds := [.data, .pinned], laidTests := true, laidLooks := .later }
def FnExactInRangeUptoCardSaid : Prop := Claim7.holds Tryd.pinned (.plain (OpenSpec.upto fnExactInRangeSpec)) fnExactInRangeUptoCard

/-- THE SECOND FORM's CARD OF 'laws.FnExactBestIn'. -/
def fnExactBestInUptoCard : Claim7 := { stood := { row := fnExactBestInUptoRow, standIns := [], harness := (true, "b0cd1786f0da47c41abf12ded5c90d8abba4d028ad343a448fb852b762044a03"), looks := false }, kinds := [], alts := [], laidByText := true, laidKinds := [.data, .data, .data, .data, .pinned], laidTests := true, laidLooks := .later }
def FnExactBestInUptoCardSaid : Prop := Claim7.holds Tryd.pinned (.plain (OpenSpec.upto fnExactBestInSpec)) fnExactBestInUptoCard
end Rows
end Go.Proofs.YtofnpcpglldjhaaDoor
