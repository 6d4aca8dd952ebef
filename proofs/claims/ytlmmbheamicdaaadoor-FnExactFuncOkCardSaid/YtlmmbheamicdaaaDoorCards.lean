/-
  DERIVED. GIVEN WITH THE SEED: THE CARDS: each row of YtlmmbheamicdaaaDoorRows.lean that lists a variable, with what it lists TIED to the program's text (the seventh form; the later family's looks); each row that meets fmt, with fmt's text TOLD by the authors' own Lean function (tested against real Go, not proved from fmt's source: count such statements apart). THE CARD IS WHAT COUNTS. Prove the row's statement (the work); the ties are given (YtlmmbheamicdaaaDoorTie.lean); close each card by the builder's one call (the guide's Derived/Test/ToyasCard.lean, 'card_holds'). Laid BY PROGRAM, IN A SANDBOX (cutbox-door.mjs). By AI agents, Wed Nov 11 2026. No macro, syntax, notation, axiom, sorry.
-/
import Derived.Test.YtlmmbheamicdaaaDoorRows
import GoSem.ClaimSeven
namespace Go.Proofs.YtlmmbheamicdaaaDoor
namespace Rows

/-- THE TIED CARD OF 'laws.FnExactFuncOk'. -/
def fnExactFuncOkCard : Claim7 := { stood := { row := fnExactFuncOkRow, standIns := [], harness := (true, "998ec13ed9fd5ad96ed0f6080d328895d1cd7eac0c0788b52ee4cf278d36fa44"), looks := false }, kinds := [], alts := [], laidByText := true, laidKinds := [.data, .pinned], laidTests := true, laidLooks := .later }
def FnExactFuncOkCardSaid : Prop := Claim7.holds Tryd.pinned (.plain (OpenSpec.ofChange fnExactFuncOkSpec)) fnExactFuncOkCard

/-- THE SECOND FORM's CARD OF 'laws.FnExactFuncOk'. -/
def fnExactFuncOkUptoCard : Claim7 := { stood := { row := fnExactFuncOkUptoRow, standIns := [], harness := (true, "998ec13ed9fd5ad96ed0f6080d328895d1cd7eac0c0788b52ee4cf278d36fa44"), looks := false }, kinds := [], alts := [], laidByText := true, laidKinds := [.data, .pinned], laidTests := true, laidLooks := .later }
def FnExactFuncOkUptoCardSaid : Prop := Claim7.holds Tryd.pinned (.plain (OpenSpec.upto fnExactFuncOkSpec)) fnExactFuncOkUptoCard
end Rows
end Go.Proofs.YtlmmbheamicdaaaDoor
