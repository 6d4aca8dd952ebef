/-
  DERIVED. GIVEN WITH THE SEED: THE CARDS: each row of YtfadodmkppeodaaDoorRows.lean that lists a variable, with what it lists TIED to the program's text (the seventh form; the later family's looks); each row that meets fmt, with fmt's text TOLD by the authors' own Lean function (tested against real Go, not proved from fmt's source: count such statements apart). THE CARD IS WHAT COUNTS. Prove the row's statement (the work); the ties are given (YtfadodmkppeodaaDoorTie.lean); close each card by the builder's one call (the guide's Derived/Test/ToyasCard.lean, 'card_holds'). Laid BY PROGRAM, IN A SANDBOX (cutbox-door.mjs). By AI agents, Wed Nov 11 2026. No macro, syntax, notation, axiom, sorry.
-/
import Derived.Test.YtfadodmkppeodaaDoorRows
import GoSem.ClaimSeven
namespace Go.Proofs.YtfadodmkppeodaaDoor
namespace Rows

/-- THE TIED CARD OF 'laws.FnExactFuncOk'. -/
def fnExactFuncOkCard : Claim7 := { stood := { row := fnExactFuncOkRow, standIns := [], harness := (true, "b3c3c419d6256bb4080b5b1a8f89096f2c4308fa9f823442b59cb52b80daef65"), looks := false }, kinds := [], alts := [], laidByText := true, laidKinds := [.data, .pinned], laidTests := true, laidLooks := .later }
def FnExactFuncOkCardSaid : Prop := Claim7.holds Tryd.pinned (.plain (OpenSpec.ofChange fnExactFuncOkSpec)) fnExactFuncOkCard

/-- THE TIED CARD OF 'laws.FnExactNameOk'. -/
def fnExactNameOkCard : Claim7 := { stood := { row := fnExactNameOkRow, standIns := [], harness := (true, "b3c3c419d6256bb4080b5b1a8f89096f2c4308fa9f823442b59cb52b80daef65"), looks := false }, kinds := [], alts := [], laidByText := true, laidKinds := [.data, .pinned], laidTests := true, laidLooks := .later }
def FnExactNameOkCardSaid : Prop := Claim7.holds Tryd.pinned (.plain (OpenSpec.ofChange fnExactNameOkSpec)) fnExactNameOkCard

/-- THE SECOND FORM's CARD OF 'laws.FnExactFuncOk'. -/
def fnExactFuncOkUptoCard : Claim7 := { stood := { row := fnExactFuncOkUptoRow, standIns := [], harness := (true, "b3c3c419d6256bb4080b5b1a8f89096f2c4308fa9f823442b59cb52b80daef65"), looks := false }, kinds := [], alts := [], laidByText := true, laidKinds := [.data, .pinned], laidTests := true, laidLooks := .later }
def FnExactFuncOkUptoCardSaid : Prop := Claim7.holds Tryd.pinned (.plain (OpenSpec.upto fnExactFuncOkSpec)) fnExactFuncOkUptoCard

/-- THE SECOND FORM's CARD OF 'laws.FnExactNameOk'. -/
def fnExactNameOkUptoCard : Claim7 := { stood := { row := fnExactNameOkUptoRow, standIns := [], harness := (true, "b3c3c419d6256bb4080b5b1a8f89096f2c4308fa9f823442b59cb52b80daef65"), looks := false }, kinds := [], alts := [], laidByText := true, laidKinds := [.data, .pinned], laidTests := true, laidLooks := .later }
def FnExactNameOkUptoCardSaid : Prop := Claim7.holds Tryd.pinned (.plain (OpenSpec.upto fnExactNameOkSpec)) fnExactNameOkUptoCard
end Rows
end Go.Proofs.YtfadodmkppeodaaDoor
