/-
  DERIVED. GIVEN WITH THE SEED: THE CARDS: each row of YtbjcldekapipaaaGreatDoorRows.lean that lists a variable, with what it lists TIED to the program's text (the seventh form; the later family's looks); each row that meets fmt, with fmt's text TOLD by the authors' own Lean function (tested against real Go, not proved from fmt's source: count such statements apart). THE CARD IS WHAT COUNTS. Prove the row's statement (the work); the ties are given (YtbjcldekapipaaaGreatDoorTie.lean); close each card by the builder's one call (the guide's Derived/Test/ToyasCard.lean, 'card_holds'). Laid BY PROGRAM, IN A SANDBOX (cutbox-door.mjs). By AI agents, Wed Nov 11 2026. No macro, syntax, notation, axiom, sorry.
-/
import Derived.Test.YtbjcldekapipaaaGreatDoorRows
import GoSem.ClaimSeven
namespace Go.Proofs.YtbjcldekapipaaaGreatDoor
namespace Rows

/-- THE TIED CARD OF 'laws.FnExactModuleBytes'. -/
def fnExactModuleBytesCard : Claim7 := { stood := { row := fnExactModuleBytesRow, standIns := [], harness := (true, "5b6557ee63b08b07d5b497d39ae0574a6e3c7348d99e842903f994852b9fbf36"), looks := false }, kinds := [], alts := [], laidByText := true, laidKinds := [.data, .data, .pinned], laidTests := true, laidLooks := .later }
def FnExactModuleBytesCardSaid : Prop := Claim7.holds Tryz.pinned (.plain (OpenSpec.ofChange fnExactModuleBytesSpec)) fnExactModuleBytesCard

/-- THE TIED CARD OF 'laws.FnExactModuleText'. -/
def fnExactModuleTextCard : Claim7 := { stood := { row := fnExactModuleTextRow, standIns := [], harness := (true, "5b6557ee63b08b07d5b497d39ae0574a6e3c7348d99e842903f994852b9fbf36"), looks := false }, kinds := [], alts := [], laidByText := true, laidKinds := [.data, .data, .data, .data, .data, .pinned], laidTests := true, laidLooks := .later }
def FnExactModuleTextCardSaid : Prop := Claim7.holds Tryz.pinned (.plain (OpenSpec.ofChange fnExactModuleTextSpec)) fnExactModuleTextCard

/-- THE TIED CARD OF 'laws.FnExactCheckCore'. -/
def fnExactCheckCoreCard : Claim7 := { stood := { row := fnExactCheckCoreRow, standIns := [], harness := (true, "5b6557ee63b08b07d5b497d39ae0574a6e3c7348d99e842903f994852b9fbf36"), looks := false }, kinds := [], alts := [], laidByText := true, laidKinds := [.data, .data, .pinned], laidTests := true, laidLooks := .later }
def FnExactCheckCoreCardSaid : Prop := Claim7.holds Tryz.pinned (.plain (OpenSpec.ofChange fnExactCheckCoreSpec)) fnExactCheckCoreCard

/-- THE SECOND FORM's CARD OF 'laws.FnExactModuleBytes'. -/
def fnExactModuleBytesUptoCard : Claim7 := { stood := { row := fnExactModuleBytesUptoRow, standIns := [], harness := (true, "5b6557ee63b08b07d5b497d39ae0574a6e3c7348d99e842903f994852b9fbf36"), looks := false }, kinds := [], alts := [], laidByText := true, laidKinds := [.data, .data, .pinned], laidTests := true, laidLooks := .later }
def FnExactModuleBytesUptoCardSaid : Prop := Claim7.holds Tryz.pinned (.plain (OpenSpec.upto fnExactModuleBytesSpec)) fnExactModuleBytesUptoCard

/-- THE SECOND FORM's CARD OF 'laws.FnExactModuleText'. -/
def fnExactModuleTextUptoCard : Claim7 := { stood := { row := fnExactModuleTextUptoRow, standIns := [], harness := (true, "5b6557ee63b08b07d5b497d39ae0574a6e3c7348d99e842903f994852b9fbf36"), looks := false }, kinds := [], alts := [], laidByText := true, laidKinds := [.data, .data, .data, .data, .data, .pinned], laidTests := true, laidLooks := .later }
def FnExactModuleTextUptoCardSaid : Prop := Claim7.holds Tryz.pinned (.plain (OpenSpec.upto fnExactModuleTextSpec)) fnExactModuleTextUptoCard

/-- THE SECOND FORM's CARD OF 'laws.FnExactCheckCore'. -/
def fnExactCheckCoreUptoCard : Claim7 := { stood := { row := fnExactCheckCoreUptoRow, standIns := [], harness := (true, "5b6557ee63b08b07d5b497d39ae0574a6e3c7348d99e842903f994852b9fbf36"), looks := false }, kinds := [], alts := [], laidByText := true, laidKinds := [.data, .data, .pinned], laidTests := true, laidLooks := .later }
def FnExactCheckCoreUptoCardSaid : Prop := Claim7.holds Tryz.pinned (.plain (OpenSpec.upto fnExactCheckCoreSpec)) fnExactCheckCoreUptoCard
end Rows
end Go.Proofs.YtbjcldekapipaaaGreatDoor
