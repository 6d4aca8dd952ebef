/-
  DERIVED. GIVEN WITH THE SEED: THE CARDS: each row of YtbjcldekapipaaaDoorRows.lean that lists a variable, with what it lists TIED to the program's text (the seventh form; the later family's looks); each row that meets fmt, with fmt's text TOLD by the authors' own Lean function (tested against real Go, not proved from fmt's source: count such statements apart). THE CARD IS WHAT COUNTS. Prove the row's statement (the work); the ties are given (YtbjcldekapipaaaDoorTie.lean); close each card by the builder's one call (the guide's Derived/Test/ToyasCard.lean, 'card_holds'). Laid BY PROGRAM, IN A SANDBOX (cutbox-door.mjs). By AI agents, Wed Nov 11 2026. No macro, syntax, notation, axiom, sorry.
-/
import Derived.Test.YtbjcldekapipaaaDoorRows
import GoSem.ClaimSeven
namespace Go.Proofs.YtbjcldekapipaaaDoor
namespace Rows

/-- THE TIED CARD OF 'laws.FnExactTrapWord'. -/
def fnExactTrapWordCard : Claim7 := { stood := { row := fnExactTrapWordRow, standIns := [], harness := (true, "925d1e733c136894f90aa27c78e2f4fca2a6df21dc505d6c457e1a0ae0006991"), looks := false }, kinds := [], alts := [], laidByText := true, laidKinds := [.data], laidTests := true, laidLooks := .later }
def FnExactTrapWordCardSaid : Prop := Claim7.holds Tryd.pinned (.plain (OpenSpec.ofChange fnExactTrapWordSpec)) fnExactTrapWordCard

/-- THE TIED CARD OF 'laws.FnExactInsBytes'. -/
def fnExactInsBytesCard : Claim7 := { stood := { row := fnExactInsBytesRow, standIns := [], harness := (true, "925d1e733c136894f90aa27c78e2f4fca2a6df21dc505d6c457e1a0ae0006991"), looks := false }, kinds := [], alts := [], laidByText := true, laidKinds := [.data], laidTests := true, laidLooks := .later }
def FnExactInsBytesCardSaid : Prop := Claim7.holds Tryd.pinned (.plain (OpenSpec.ofChange fnExactInsBytesSpec)) fnExactInsBytesCard

/-- THE TIED CARD OF 'laws.FnExactInsOf'. -/
def fnExactInsOfCard : Claim7 := { stood := { row := fnExactInsOfRow, standIns := [], harness := (true, "925d1e733c136894f90aa27c78e2f4fca2a6df21dc505d6c457e1a0ae0006991"), looks := false }, kinds := [], alts := [], laidByText := true, laidKinds := [.data], laidTests := true, laidLooks := .later }
def FnExactInsOfCardSaid : Prop := Claim7.holds Tryd.pinned (.plain (OpenSpec.ofChange fnExactInsOfSpec)) fnExactInsOfCard

/-- THE TIED CARD OF 'laws.FnExactBodyBytes'. -/
def fnExactBodyBytesCard : Claim7 := { stood := { row := fnExactBodyBytesRow, standIns := [], harness := (true, "925d1e733c136894f90aa27c78e2f4fca2a6df21dc505d6c457e1a0ae0006991"), looks := false }, kinds := [], alts := [], laidByText := true, laidKinds := [.data], laidTests := true, laidLooks := .later }
def FnExactBodyBytesCardSaid : Prop := Claim7.holds Tryd.pinned (.plain (OpenSpec.ofChange fnExactBodyBytesSpec)) fnExactBodyBytesCard

/-- THE TIED CARD OF 'laws.FnExactBodyOf'. -/
def fnExactBodyOfCard : Claim7 := { stood := { row := fnExactBodyOfRow, standIns := [], harness := (true, "925d1e733c136894f90aa27c78e2f4fca2a6df21dc505d6c457e1a0ae0006991"), looks := false }, kinds := [], alts := [], laidByText := true, laidKinds := [.data], laidTests := true, laidLooks := .later }
def FnExactBodyOfCardSaid : Prop := Claim7.holds Tryd.pinned (.plain (OpenSpec.ofChange fnExactBodyOfSpec)) fnExactBodyOfCard

/-- THE TIED CARD OF 'laws.FnExactBlocksOf'. -/
def fnExactBlocksOfCard : Claim7 := { stood := { row := fnExactBlocksOfRow, standIns := [], harness := (true, "925d1e733c136894f90aa27c78e2f4fca2a6df21dc505d6c457e1a0ae0006991"), looks := false }, kinds := [], alts := [], laidByText := true, laidKinds := [.data, .data, .pinned], laidTests := true, laidLooks := .later }
def FnExactBlocksOfCardSaid : Prop := Claim7.holds Tryd.pinned (.plain (OpenSpec.ofChange fnExactBlocksOfSpec)) fnExactBlocksOfCard

/-- THE SECOND FORM's CARD OF 'laws.FnExactTrapWord'. -/
def fnExactTrapWordUptoCard : Claim7 := { stood := { row := fnExactTrapWordUptoRow, standIns := [], harness := (true, "925d1e733c136894f90aa27c78e2f4fca2a6df21dc505d6c457e1a0ae0006991"), looks := false }, kinds := [], alts := [], laidByText := true, laidKinds := [.data], laidTests := true, laidLooks := .later }
def FnExactTrapWordUptoCardSaid : Prop := Claim7.holds Tryd.pinned (.plain (OpenSpec.upto fnExactTrapWordSpec)) fnExactTrapWordUptoCard

/-- THE SECOND FORM's CARD OF 'laws.FnExactInsBytes'. -/
def fnExactInsBytesUptoCard : Claim7 := { stood := { row := fnExactInsBytesUptoRow, standIns := [], harness := (true, "925d1e733c136894f90aa27c78e2f4fca2a6df21dc505d6c457e1a0ae0006991"), looks := false }, kinds := [], alts := [], laidByText := true, laidKinds := [.data], laidTests := true, laidLooks := .later }
def FnExactInsBytesUptoCardSaid : Prop := Claim7.holds Tryd.pinned (.plain (OpenSpec.upto fnExactInsBytesSpec)) fnExactInsBytesUptoCard

/-- THE SECOND FORM's CARD OF 'laws.FnExactInsOf'. -/
def fnExactInsOfUptoCard : Claim7 := { stood := { row := fnExactInsOfUptoRow, standIns := [], harness := (true, "925d1e733c136894f90aa27c78e2f4fca2a6df21dc505d6c457e1a0ae0006991"), looks := false }, kinds := [], alts := [], laidByText := true, laidKinds := [.data], laidTests := true, laidLooks := .later }
def FnExactInsOfUptoCardSaid : Prop := Claim7.holds Tryd.pinned (.plain (OpenSpec.upto fnExactInsOfSpec)) fnExactInsOfUptoCard

/-- THE SECOND FORM's CARD OF 'laws.FnExactBodyBytes'. -/
def fnExactBodyBytesUptoCard : Claim7 := { stood := { row := fnExactBodyBytesUptoRow, standIns := [], harness := (true, "925d1e733c136894f90aa27c78e2f4fca2a6df21dc505d6c457e1a0ae0006991"), looks := false }, kinds := [], alts := [], laidByText := true, laidKinds := [.data], laidTests := true, laidLooks := .later }
def FnExactBodyBytesUptoCardSaid : Prop := Claim7.holds Tryd.pinned (.plain (OpenSpec.upto fnExactBodyBytesSpec)) fnExactBodyBytesUptoCard

/-- THE SECOND FORM's CARD OF 'laws.FnExactBodyOf'. -/
def fnExactBodyOfUptoCard : Claim7 := { stood := { row := fnExactBodyOfUptoRow, standIns := [], harness := (true, "925d1e733c136894f90aa27c78e2f4fca2a6df21dc505d6c457e1a0ae0006991"), looks := false }, kinds := [], alts := [], laidByText := true, laidKinds := [.data], laidTests := true, laidLooks := .later }
def FnExactBodyOfUptoCardSaid : Prop := Claim7.holds Tryd.pinned (.plain (OpenSpec.upto fnExactBodyOfSpec)) fnExactBodyOfUptoCard

/-- THE SECOND FORM's CARD OF 'laws.FnExactBlocksOf'. -/
def fnExactBlocksOfUptoCard : Claim7 := { stood := { row := fnExactBlocksOfUptoRow, standIns := [], harness := (true, "925d1e733c136894f90aa27c78e2f4fca2a6df21dc505d6c457e1a0ae0006991"), looks := false }, kinds := [], alts := [], laidByText := true, laidKinds := [.data, .data, .pinned], laidTests := true, laidLooks := .later }
def FnExactBlocksOfUptoCardSaid : Prop := Claim7.holds Tryd.pinned (.plain (OpenSpec.upto fnExactBlocksOfSpec)) fnExactBlocksOfUptoCard
end Rows
end Go.Proofs.YtbjcldekapipaaaDoor
