/-
  DERIVED. GIVEN WITH THE SEED: THE CARDS: each row of YtfadodmkppeodabDoorRows.lean that lists a variable, with what it lists TIED to the program's text (the seventh form; the later family's looks); each row that meets fmt, with fmt's text TOLD by the authors' own Lean function (tested against real Go, not proved from fmt's source: count such statements apart). THE CARD IS WHAT COUNTS. Prove the row's statement (the work); the ties are given (YtfadodmkppeodabDoorTie.lean); close each card by the builder's one call (the guide's Derived/Test/ToyasCard.lean, 'card_holds'). Laid BY PROGRAM, IN A SANDBOX (cutbox-door.mjs). By AI agents, Wed Nov 11 2026. No macro, syntax, notation, axiom, sorry.
-/
import Derived.Test.YtfadodmkppeodabDoorRows
import GoSem.ClaimSeven
namespace Go.Proofs.YtfadodmkppeodabDoor
namespace Rows

/-- THE TIED CARD OF 'laws.FnExactVersionOk'. -/
def fnExactVersionOkCard : Claim7 := { stood := { row := fnExactVersionOkRow, standIns := [], harness := (true, "414d5c2322bb1d41652effc889fa260c98e61ff30db063b3646288d3a95ac608"), looks := false }, kinds := [], alts := [], laidByText := true, laidKinds := [.data, .pinned], laidTests := true, laidLooks := .later }
def FnExactVersionOkCardSaid : Prop := Claim7.holds Tryd.pinned (.plain (OpenSpec.ofChange fnExactVersionOkSpec)) fnExactVersionOkCard

/-- THE TIED CARD OF 'laws.FnExactVersionNumber'. -/
def fnExactVersionNumberCard : Claim7 := { stood := { row := fnExactVersionNumberRow, standIns := [], harness := (true, "414d5c2322bb1d41652effc889fa260c98e61ff30db063b3646288d3a95ac608"), looks := false }, kinds := [], alts := [], laidByText := true, laidKinds := [.data, .pinned], laidTests := true, laidLooks := .later }
def FnExactVersionNumberCardSaid : Prop := Claim7.holds Tryd.pinned (.plain (OpenSpec.ofChange fnExactVersionNumberSpec)) fnExactVersionNumberCard

/-- THE TIED CARD OF 'laws.FnExactCompareVersions'. -/
def fnExactCompareVersionsCard : Claim7 := { stood := { row := fnExactCompareVersionsRow, standIns := [], harness := (true, "414d5c2322bb1d41652effc889fa260c98e61ff30db063b3646288d3a95ac608"), looks := false }, kinds := [], alts := [], laidByText := true, laidKinds := [.data, .pinned], laidTests := true, laidLooks := .later }
def FnExactCompareVersionsCardSaid : Prop := Claim7.holds Tryd.pinned (.plain (OpenSpec.ofChange fnExactCompareVersionsSpec)) fnExactCompareVersionsCard

/-- THE TIED CARD OF 'laws.FnExactServes'. -/
def fnExactServesCard : Claim7 := { stood := { row := fnExactServesRow, standIns := [], harness := (true, "414d5c2322bb1d41652effc889fa260c98e61ff30db063b3646288d3a95ac608"), looks := false }, kinds := [], alts := [], laidByText := true, laidKinds := [.data, .pinned], laidTests := true, laidLooks := .later }
def FnExactServesCardSaid : Prop := Claim7.holds Tryd.pinned (.plain (OpenSpec.ofChange fnExactServesSpec)) fnExactServesCard

/-- THE TIED CARD OF 'laws.FnExactRangeOf'. -/
def fnExactRangeOfCard : Claim7 := { stood := { row := fnExactRangeOfRow, standIns := [], harness := (true, "414d5c2322bb1d41652effc889fa260c98e61ff30db063b3646288d3a95ac608"), looks := false }, kinds := [], alts := [], laidByText := true, laidKinds := [.data, .pinned], laidTests := true, laidLooks := .later }
def FnExactRangeOfCardSaid : Prop := Claim7.holds Tryd.pinned (.plain (OpenSpec.ofChange fnExactRangeOfSpec)) fnExactRangeOfCard

/-- THE TIED CARD OF 'laws.FnExactInRange'. -/
def fnExactInRangeCard : Claim7 := { stood := { row := fnExactInRangeRow, standIns := [], harness := (true, "414d5c2322bb1d41652effc889fa260c98e61ff30db063b3646288d3a95ac608"), looks := false }, kinds := [], alts := [], laidByText := true, laidKinds := [.data, .pinned], laidTests := true, laidLooks := .later }
def FnExactInRangeCardSaid : Prop := Claim7.holds Tryd.pinned (.plain (OpenSpec.ofChange fnExactInRangeSpec)) fnExactInRangeCard

/-- THE TIED CARD OF 'laws.FnExactRangeText'. -/
def fnExactRangeTextCard : Claim7 := { stood := { row := fnExactRangeTextRow, standIns := [], harness := (true, "414d5c2322bb1d41652effc889fa260c98e61ff30db063b3646288d3a95ac608"), looks := false }, kinds := [], alts := [], laidByText := true, laidKinds := [.data, .data, .data], laidTests := true, laidLooks := .later }
def FnExactRangeTextCardSaid : Prop := Claim7.holds Tryd.pinned (.plain (OpenSpec.ofChange fnExactRangeTextSpec)) fnExactRangeTextCard

/-- THE TIED CARD OF 'laws.FnExactVersionOf'. -/
def fnExactVersionOfCard : Claim7 := { stood := { row := fnExactVersionOfRow, standIns := [], harness := (true, "414d5c2322bb1d41652effc889fa260c98e61ff30db063b3646288d3a95ac608"), looks := false }, kinds := [], alts := [], laidByText := true, laidKinds := [.data, .data, .data], laidTests := true, laidLooks := .later }
def FnExactVersionOfCardSaid : Prop := Claim7.holds Tryd.pinned (.plain (OpenSpec.ofChange fnExactVersionOfSpec)) fnExactVersionOfCard

/-- THE TIED CARD OF 'laws.FnExactTextOk'. -/
def fnExactTextOkCard : Claim7 := { stood := { row := fnExactTextOkRow, standIns := [], harness := (true, "414d5c2322bb1d41652effc889fa260c98e61ff30db063b3646288d3a95ac608"), looks := false }, kinds := [], alts := [], laidByText := true, laidKinds := [.data, .pinned], laidTests := true, laidLooks := .later }
def FnExactTextOkCardSaid : Prop := Claim7.holds Tryd.pinned (.plain (OpenSpec.ofChange fnExactTextOkSpec)) fnExactTextOkCard

/-- THE SECOND FORM's CARD OF 'laws.FnExactVersionOk'. -/
def fnExactVersionOkUptoCard : Claim7 := { stood := { row := fnExactVersionOkUptoRow, standIns := [], harness := (true, "414d5c2322bb1d41652effc889fa260c98e61ff30db063b3646288d3a95ac608"), looks := false }, kinds := [], alts := [], laidByText := true, laidKinds := [.data, .pinned], laidTests := true, laidLooks := .later }
def FnExactVersionOkUptoCardSaid : Prop := Claim7.holds Tryd.pinned (.plain (OpenSpec.upto fnExactVersionOkSpec)) fnExactVersionOkUptoCard

/-- THE SECOND FORM's CARD OF 'laws.FnExactVersionNumber'. -/
def fnExactVersionNumberUptoCard : Claim7 := { stood := { row := fnExactVersionNumberUptoRow, standIns := [], harness := (true, "414d5c2322bb1d41652effc889fa260c98e61ff30db063b3646288d3a95ac608"), looks := false }, kinds := [], alts := [], laidByText := true, laidKinds := [.data, .pinned], laidTests := true, laidLooks := .later }
def FnExactVersionNumberUptoCardSaid : Prop := Claim7.holds Tryd.pinned (.plain (OpenSpec.upto fnExactVersionNumberSpec)) fnExactVersionNumberUptoCard

/-- THE SECOND FORM's CARD OF 'laws.FnExactCompareVersions'. -/
def fnExactCompareVersionsUptoCard : Claim7 := { stood := { row := fnExactCompareVersionsUptoRow, standIns := [], harness := (true, "414d5c2322bb1d41652effc889fa260c98e61ff30db063b3646288d3a95ac608"), looks := false }, kinds := [], alts := [], laidByText := true, laidKinds := [.data, .pinned], laidTests := true, laidLooks := .later }
def FnExactCompareVersionsUptoCardSaid : Prop := Claim7.holds Tryd.pinned (.plain (OpenSpec.upto fnExactCompareVersionsSpec)) fnExactCompareVersionsUptoCard

/-- THE SECOND FORM's CARD OF 'laws.FnExactServes'. -/
def fnExactServesUptoCard : Claim7 := { stood := { row := fnExactServesUptoRow, standIns := [], harness := (true, "414d5c2322bb1d41652effc889fa260c98e61ff30db063b3646288d3a95ac608"), looks := false }, kinds := [], alts := [], laidByText := true, laidKinds := [.data, .pinned], laidTests := true, laidLooks := .later }
def FnExactServesUptoCardSaid : Prop := Claim7.holds Tryd.pinned (.plain (OpenSpec.upto fnExactServesSpec)) fnExactServesUptoCard

/-- THE SECOND FORM's CARD OF 'laws.FnExactRangeOf'. -/
def fnExactRangeOfUptoCard : Claim7 := { stood := { row := fnExactRangeOfUptoRow, standIns := [], harness := (true, "414d5c2322bb1d41652effc889fa260c98e61ff30db063b3646288d3a95ac608"), looks := false }, kinds := [], alts := [], laidByText := true, laidKinds := [.data, .pinned], laidTests := true, laidLooks := .later }
def FnExactRangeOfUptoCardSaid : Prop := Claim7.holds Tryd.pinned (.plain (OpenSpec.upto fnExactRangeOfSpec)) fnExactRangeOfUptoCard

/-- THE SECOND FORM's CARD OF 'laws.FnExactInRange'. -/
def fnExactInRangeUptoCard : Claim7 := { stood := { row := fnExactInRangeUptoRow, standIns := [], harness := (true, "414d5c2322bb1d41652effc889fa260c98e61ff30db063b3646288d3a95ac608"), looks := false }, kinds := [], alts := [], laidByText := true, laidKinds := [.data, .pinned], laidTests := true, laidLooks := .later }
def FnExactInRangeUptoCardSaid : Prop := Claim7.holds Tryd.pinned (.plain (OpenSpec.upto fnExactInRangeSpec)) fnExactInRangeUptoCard

/-- THE SECOND FORM's CARD OF 'laws.FnExactRangeText'. -/
def fnExactRangeTextUptoCard : Claim7 := { stood := { row := fnExactRangeTextUptoRow, standIns := [], harness := (true, "414d5c2322bb1d41652effc889fa260c98e61ff30db063b3646288d3a95ac608"), looks := false }, kinds := [], alts := [], laidByText := true, laidKinds := [.data, .data, .data], laidTests := true, laidLooks := .later }
def FnExactRangeTextUptoCardSaid : Prop := Claim7.holds Tryd.pinned (.plain (OpenSpec.upto fnExactRangeTextSpec)) fnExactRangeTextUptoCard

/-- THE SECOND FORM's CARD OF 'laws.FnExactVersionOf'. -/
def fnExactVersionOfUptoCard : Claim7 := { stood := { row := fnExactVersionOfUptoRow, standIns := [], harness := (true, "414d5c2322bb1d41652effc889fa260c98e61ff30db063b3646288d3a95ac608"), looks := false }, kinds := [], alts := [], laidByText := true, laidKinds := [.data, .data, .data], laidTests := true, laidLooks := .later }
def FnExactVersionOfUptoCardSaid : Prop := Claim7.holds Tryd.pinned (.plain (OpenSpec.upto fnExactVersionOfSpec)) fnExactVersionOfUptoCard

/-- THE SECOND FORM's CARD OF 'laws.FnExactTextOk'. -/
def fnExactTextOkUptoCard : Claim7 := { stood := { row := fnExactTextOkUptoRow, standIns := [], harness := (true, "414d5c2322bb1d41652effc889fa260c98e61ff30db063b3646288d3a95ac608"), looks := false }, kinds := [], alts := [], laidByText := true, laidKinds := [.data, .pinned], laidTests := true, laidLooks := .later }
def FnExactTextOkUptoCardSaid : Prop := Claim7.holds Tryd.pinned (.plain (OpenSpec.upto fnExactTextOkSpec)) fnExactTextOkUptoCard
end Rows
end Go.Proofs.YtfadodmkppeodabDoor
