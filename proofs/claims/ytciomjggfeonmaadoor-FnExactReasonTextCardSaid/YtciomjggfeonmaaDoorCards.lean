/-
  DERIVED. GIVEN WITH THE SEED: THE CARDS: each row of YtciomjggfeonmaaDoorRows.lean that lists a variable, with what it lists TIED to the program's text (the seventh form; the later family's looks); each row that meets fmt, with fmt's text TOLD by the authors' own Lean function (tested against real Go, not proved from fmt's source: count such statements apart). THE CARD IS WHAT COUNTS. Prove the row's statement (the work); the ties are given (YtciomjggfeonmaaDoorTie.lean); close each card by the builder's one call (the guide's Derived/Test/ToyasCard.lean, 'card_holds'). Laid BY PROGRAM, IN A SANDBOX (cutbox-door.mjs). By AI agents, Wed Nov 11 2026. No macro, syntax, notation, axiom, sorry.
-/
import Derived.Test.YtciomjggfeonmaaDoorRows
import GoSem.ClaimSeven
namespace Go.Proofs.YtciomjggfeonmaaDoor
namespace Rows

/-- THE TIED CARD OF 'laws.FnExactReasonText'. -/
def fnExactReasonTextCard : Claim7 := { stood := { row := fnExactReasonTextRow, standIns := [], harness := (true, "c903ce2f8fec021fd9da1a0737187a1903b19c9f530a6354a5fe4e62dcaa81f0"), looks := false }, kinds := [], alts := [], laidByText := true, laidKinds := [.data], laidTests := true, laidLooks := .later }
def FnExactReasonTextCardSaid : Prop := Claim7.holds Tryd.pinned (.plain (OpenSpec.ofChange fnExactReasonTextSpec)) fnExactReasonTextCard

/-- THE TIED CARD OF 'laws.FnExactParamsOf'. -/
def fnExactParamsOfCard : Claim7 := { stood := { row := fnExactParamsOfRow, standIns := [], harness := (true, "c903ce2f8fec021fd9da1a0737187a1903b19c9f530a6354a5fe4e62dcaa81f0"), looks := false }, kinds := [], alts := [], laidByText := true, laidKinds := [.data, .pinned], laidTests := true, laidLooks := .later }
def FnExactParamsOfCardSaid : Prop := Claim7.holds Tryd.pinned (.plain (OpenSpec.ofChange fnExactParamsOfSpec)) fnExactParamsOfCard

/-- THE SECOND FORM's CARD OF 'laws.FnExactReasonText'. -/
def fnExactReasonTextUptoCard : Claim7 := { stood := { row := fnExactReasonTextUptoRow, standIns := [], harness := (true, "c903ce2f8fec021fd9da1a0737187a1903b19c9f530a6354a5fe4e62dcaa81f0"), looks := false }, kinds := [], alts := [], laidByText := true, laidKinds := [.data], laidTests := true, laidLooks := .later }
def FnExactReasonTextUptoCardSaid : Prop := Claim7.holds Tryd.pinned (.plain (OpenSpec.upto fnExactReasonTextSpec)) fnExactReasonTextUptoCard

/-- THE SECOND FORM's CARD OF 'laws.FnExactParamsOf'. -/
def fnExactParamsOfUptoCard : Claim7 := { stood := { row := fnExactParamsOfUptoRow, standIns := [], harness := (true, "c903ce2f8fec021fd9da1a0737187a1903b19c9f530a6354a5fe4e62dcaa81f0"), looks := false }, kinds := [], alts := [], laidByText := true, laidKinds := [.data, .pinned], laidTests := true, laidLooks := .later }
def FnExactParamsOfUptoCardSaid : Prop := Claim7.holds Tryd.pinned (.plain (OpenSpec.upto fnExactParamsOfSpec)) fnExactParamsOfUptoCard
end Rows
end Go.Proofs.YtciomjggfeonmaaDoor
