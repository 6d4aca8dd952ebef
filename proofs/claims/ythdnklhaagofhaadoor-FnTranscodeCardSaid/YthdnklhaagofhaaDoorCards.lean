/-
  DERIVED. GIVEN WITH THE SEED: THE CARDS: each row of YthdnklhaagofhaaDoorRows.lean that lists a variable, with what it lists TIED to the program's text (the seventh form; the later family's looks); each row that meets fmt, with fmt's text TOLD by the authors' own Lean function (tested against real Go, not proved from fmt's source: count such statements apart). THE CARD IS WHAT COUNTS. Prove the row's statement (the work); the ties are given (YthdnklhaagofhaaDoorTie.lean); close each card by the builder's one call (the guide's Derived/Test/ToyasCard.lean, 'card_holds'). Laid BY PROGRAM, IN A SANDBOX (cutbox-door.mjs). By AI agents, Wed Nov 11 2026. No macro, syntax, notation, axiom, sorry.
-/
import Derived.Test.YthdnklhaagofhaaDoorRows
import GoSem.ClaimSeven
namespace Go.Proofs.YthdnklhaagofhaaDoor
namespace Rows

/-- THE TIED CARD OF 'laws.FnVersions'. -/
def fnVersionsCard : Claim7 := { stood := { row := fnVersionsRow, standIns := [], harness := (true, "baa32d7f8ea5c961a1f41ab140b6f4c10a394ac37df798a24d63beb8e0a8c910"), looks := false }, kinds := [], alts := [], laidByText := true, laidKinds := [.data, .data, .data, .data, .pinned], laidTests := true, laidLooks := .later }
def FnVersionsCardSaid : Prop := Claim7.holds Tryd.pinned (.plain (OpenSpec.ofChange fnVersionsSpec)) fnVersionsCard

/-- THE TIED CARD OF 'laws.FnRanges'. -/
def fnRangesCard : Claim7 := { stood := { row := fnRangesRow, standIns := [], harness := (true, "baa32d7f8ea5c961a1f41ab140b6f4c10a394ac37df798a24d63beb8e0a8c910"), looks := false }, kinds := [], alts := [], laidByText := true, laidKinds := [.data, .data, .data, .data, .pinned], laidTests := true, laidLooks := .later }
def FnRangesCardSaid : Prop := Claim7.holds Tryd.pinned (.plain (OpenSpec.ofChange fnRangesSpec)) fnRangesCard

/-- THE TIED CARD OF 'laws.FnTranscode'. -/
def fnTranscodeCard : Claim7 := { stood := { row := fnTranscodeRow, standIns := [], harness := (true, "baa32d7f8ea5c961a1f41ab140b6f4c10a394ac37df798a24d63beb8e0a8c910"), looks := false }, kinds := [], alts := [], laidByText := true, laidKinds := [.data, .pinned], laidTests := true, laidLooks := .later }
def FnTranscodeCardSaid : Prop := Claim7.holds Tryd.pinned (.plain (OpenSpec.ofChange fnTranscodeSpec)) fnTranscodeCard

/-- THE TIED CARD OF 'laws.FnExactParamsOf'. -/
def fnExactParamsOfCard : Claim7 := { stood := { row := fnExactParamsOfRow, standIns := [], harness := (true, "baa32d7f8ea5c961a1f41ab140b6f4c10a394ac37df798a24d63beb8e0a8c910"), looks := false }, kinds := [], alts := [], laidByText := true, laidKinds := [.data, .pinned], laidTests := true, laidLooks := .later }
def FnExactParamsOfCardSaid : Prop := Claim7.holds Tryd.pinned (.plain (OpenSpec.ofChange fnExactParamsOfSpec)) fnExactParamsOfCard

/-- THE SECOND FORM's CARD OF 'laws.FnVersions'. -/
def fnVersionsUptoCard : Claim7 := { stood := { row := fnVersionsUptoRow, standIns := [], harness := (true, "baa32d7f8ea5c961a1f41ab140b6f4c10a394ac37df798a24d63beb8e0a8c910"), looks := false }, kinds := [], alts := [], laidByText := true, laidKinds := [.data, .data, .data, .data, .pinned], laidTests := true, laidLooks := .later }
def FnVersionsUptoCardSaid : Prop := Claim7.holds Tryd.pinned (.plain (OpenSpec.upto fnVersionsSpec)) fnVersionsUptoCard

/-- THE SECOND FORM's CARD OF 'laws.FnRanges'. -/
def fnRangesUptoCard : Claim7 := { stood := { row := fnRangesUptoRow, standIns := [], harness := (true, "baa32d7f8ea5c961a1f41ab140b6f4c10a394ac37df798a24d63beb8e0a8c910"), looks := false }, kinds := [], alts := [], laidByText := true, laidKinds := [.data, .data, .data, .data, .pinned], laidTests := true, laidLooks := .later }
def FnRangesUptoCardSaid : Prop := Claim7.holds Tryd.pinned (.plain (OpenSpec.upto fnRangesSpec)) fnRangesUptoCard

/-- THE SECOND FORM's CARD OF 'laws.FnTranscode'. -/
def fnTranscodeUptoCard : Claim7 := { stood := { row := fnTranscodeUptoRow, standIns := [], harness := (true, "baa32d7f8ea5c961a1f41ab140b6f4c10a394ac37df798a24d63beb8e0a8c910"), looks := false }, kinds := [], alts := [], laidByText := true, laidKinds := [.data, .pinned], laidTests := true, laidLooks := .later }
def FnTranscodeUptoCardSaid : Prop := Claim7.holds Tryd.pinned (.plain (OpenSpec.upto fnTranscodeSpec)) fnTranscodeUptoCard

/-- THE SECOND FORM's CARD OF 'laws.FnExactParamsOf'. -/
def fnExactParamsOfUptoCard : Claim7 := { stood := { row := fnExactParamsOfUptoRow, standIns := [], harness := (true, "baa32d7f8ea5c961a1f41ab140b6f4c10a394ac37df798a24d63beb8e0a8c910"), looks := false }, kinds := [], alts := [], laidByText := true, laidKinds := [.data, .pinned], laidTests := true, laidLooks := .later }
def FnExactParamsOfUptoCardSaid : Prop := Claim7.holds Tryd.pinned (.plain (OpenSpec.upto fnExactParamsOfSpec)) fnExactParamsOfUptoCard
end Rows
end Go.Proofs.YthdnklhaagofhaaDoor
