/-
  NARROWER THAN 'FOR EVERY INPUT', by the rows' own cells (each row's printed sentence says how): FnExactFlatOf: loops · FnExactFlatOfAll: loops · FnExactIsSpilled: loops.
  DERIVED. THE GIVEN ROWS OF THIS SEAT. 8 by the template 'for every input the law returns true; each argument reads behind the call as it read before'; 0 by the template 'total and deterministic' (their statements: YtmnkkpahbmcekabTotals.lean).
  GIVEN WITH THE SEED: the statements are not yours to turn. If you find one false, say at which input.
  Laid BY PROGRAM, IN A SANDBOX (cutbox-rows.mjs): the forced cells as the released guide's own fill.sh prints them over the translation f47b9de61360b437… (all of the seat's roots in one cut). By AI agents, Wed Nov 11 2026. No macro, syntax, notation, axiom, sorry.
-/
import Derived.Test.YtmnkkpahbmcekabChecked
import GoSem.Claim
import GoSem.ClaimJoined
import GoSem.ClaimMapViews
import Derived.JoinedTies
import Derived.KernelRfl
namespace Go.Proofs.Ytmnkkpahbmcekab
/- THE CELL 'sum', in the pinned program and in every row, IS THE sha256 OF THE DUMP (.gsa) THAT YtmnkkpahbmcekabProg.lean LOADS. Nothing in Lean hashes anything: it is a label: what it is worth is what the hold of that sum in a sandbox is worth. -/
noncomputable def Try.pinned : Pinned := { name := "ytmnkkpahbmcekab", sum := "f47b9de61360b43771640755575b6cca7ba50e7131aff07147874491d93b58fb", checked := Try.checked }
namespace Rows
def none {H : Type} : Left H := { results := [], args := [] }

/-- 'laws.FnExactFlatOf': WHATEVER THE INPUT: true; the input reads as it did. -/
def fnExactFlatOfSpec : ChangeSpec := { name := "fnExactFlatOf", fn := fun _ => fun
  | [d] => { results := [.lit (.bool true)], args := [d] }
  | _ => none }
def fnExactFlatOfRow : OpenClaim := { program := "ytmnkkpahbmcekab", sum := "f47b9de61360b43771640755575b6cca7ba50e7131aff07147874491d93b58fb", func := "loop.example/g00901/laws.FnExactFlatOf", spec := "fnExactFlatOf", unfollowed := true, recurses := true, loops := true, apart := false }
def FnExactFlatOfSaid : Prop := fnExactFlatOfRow.holds Try.pinned (OpenSpec.ofChange fnExactFlatOfSpec)

/-- ITS FALSE NEIGHBOUR: 'it returns false'. Refute it at one input. -/
def fnExactFlatOfWrong : ChangeSpec := { name := "fnExactFlatOf", fn := fun _ => fun
  | [d] => { results := [.lit (.bool false)], args := [d] }
  | _ => none }
def FnExactFlatOfWrongFalsely : Prop := fnExactFlatOfRow.holds Try.pinned (OpenSpec.ofChange fnExactFlatOfWrong)

/-- 'laws.FnExactFlatOfAll': WHATEVER THE INPUT: true; the input reads as it did. -/
def fnExactFlatOfAllSpec : ChangeSpec := { name := "fnExactFlatOfAll", fn := fun _ => fun
  | [d] => { results := [.lit (.bool true)], args := [d] }
  | _ => none }
def fnExactFlatOfAllRow : OpenClaim := { program := "ytmnkkpahbmcekab", sum := "f47b9de61360b43771640755575b6cca7ba50e7131aff07147874491d93b58fb", func := "loop.example/g00901/laws.FnExactFlatOfAll", spec := "fnExactFlatOfAll", unfollowed := true, recurses := true, loops := true, apart := false }
def FnExactFlatOfAllSaid : Prop := fnExactFlatOfAllRow.holds Try.pinned (OpenSpec.ofChange fnExactFlatOfAllSpec)

/-- ITS FALSE NEIGHBOUR: 'it returns false'. Refute it at one input. -/
def fnExactFlatOfAllWrong : ChangeSpec := { name := "fnExactFlatOfAll", fn := fun _ => fun
  | [d] => { results := [.lit (.bool false)], args := [d] }
  | _ => none }
def FnExactFlatOfAllWrongFalsely : Prop := fnExactFlatOfAllRow.holds Try.pinned (OpenSpec.ofChange fnExactFlatOfAllWrong)

/-- 'laws.FnExactIsSpilled': WHATEVER THE INPUT: true; the input reads as it did. -/
def fnExactIsSpilledSpec : ChangeSpec := { name := "fnExactIsSpilled", fn := fun _ => fun
  | [d] => { results := [.lit (.bool true)], args := [d] }
  | _ => none }
def fnExactIsSpilledRow : OpenClaim := { program := "ytmnkkpahbmcekab", sum := "f47b9de61360b43771640755575b6cca7ba50e7131aff07147874491d93b58fb", func := "loop.example/g00901/laws.FnExactIsSpilled", spec := "fnExactIsSpilled", unfollowed := true, recurses := true, loops := true, apart := false }
def FnExactIsSpilledSaid : Prop := fnExactIsSpilledRow.holds Try.pinned (OpenSpec.ofChange fnExactIsSpilledSpec)

/-- ITS FALSE NEIGHBOUR: 'it returns false'. Refute it at one input. -/
def fnExactIsSpilledWrong : ChangeSpec := { name := "fnExactIsSpilled", fn := fun _ => fun
  | [d] => { results := [.lit (.bool false)], args := [d] }
  | _ => none }
def FnExactIsSpilledWrongFalsely : Prop := fnExactIsSpilledRow.holds Try.pinned (OpenSpec.ofChange fnExactIsSpilledWrong)

/-- 'laws.FnExactNewMemory': WHATEVER THE INPUT: true; the input reads as it did. -/
def fnExactNewMemorySpec : ChangeSpec := { name := "fnExactNewMemory", fn := fun _ => fun
  | [d] => { results := [.lit (.bool true)], args := [d] }
  | _ => none }
def fnExactNewMemoryRow : OpenClaim := { program := "ytmnkkpahbmcekab", sum := "f47b9de61360b43771640755575b6cca7ba50e7131aff07147874491d93b58fb", func := "loop.example/g00901/laws.FnExactNewMemory", spec := "fnExactNewMemory", inPlace := ["internal/abi.NoEscape", "internal/bytealg.MakeNoZero"], apart := false }
def FnExactNewMemorySaid : Prop := fnExactNewMemoryRow.holds Try.pinned (OpenSpec.ofChange fnExactNewMemorySpec)

/-- ITS FALSE NEIGHBOUR: 'it returns false'. Refute it at one input. -/
def fnExactNewMemoryWrong : ChangeSpec := { name := "fnExactNewMemory", fn := fun _ => fun
  | [d] => { results := [.lit (.bool false)], args := [d] }
  | _ => none }
def FnExactNewMemoryWrongFalsely : Prop := fnExactNewMemoryRow.holds Try.pinned (OpenSpec.ofChange fnExactNewMemoryWrong)

/-- 'laws.FnExactWriteMem': WHATEVER THE INPUT: true; the input reads as it did. -/
def fnExactWriteMemSpec : ChangeSpec := { name := "fnExactWriteMem", fn := fun _ => fun
  | [d1, d2, d3] => { results := [.lit (.bool true)], args := [d1, d2, d3] }
  | _ => none }
def fnExactWriteMemRow : OpenClaim := { program := "ytmnkkpahbmcekab", sum := "f47b9de61360b43771640755575b6cca7ba50e7131aff07147874491d93b58fb", func := "loop.example/g00901/laws.FnExactWriteMem", spec := "fnExactWriteMem", apart := false }
def FnExactWriteMemSaid : Prop := fnExactWriteMemRow.holds Try.pinned (OpenSpec.ofChange fnExactWriteMemSpec)

/-- ITS FALSE NEIGHBOUR: 'it returns false'. Refute it at one input. -/
def fnExactWriteMemWrong : ChangeSpec := { name := "fnExactWriteMem", fn := fun _ => fun
  | [d1, d2, d3] => { results := [.lit (.bool false)], args := [d1, d2, d3] }
  | _ => none }
def FnExactWriteMemWrongFalsely : Prop := fnExactWriteMemRow.holds Try.pinned (OpenSpec.ofChange fnExactWriteMemWrong)

/-- 'laws.FnExactAlloc': WHATEVER THE INPUT: true; the input reads as it did. -/
def fnExactAllocSpec : ChangeSpec := { name := "fnExactAlloc", fn := fun _ => fun
  | [d1, d2, d3] => { results := [.lit (.bool true)], args := [d1, d2, d3] }
  | _ => none }
def fnExactAllocRow : OpenClaim := { program := "ytmnkkpahbmcekab", sum := "f47b9de61360b43771640755575b6cca7ba50e7131aff07147874491d93b58fb", func := "loop.example/g00901/laws.FnExactAlloc", spec := "fnExactAlloc", apart := false }
def FnExactAllocSaid : Prop := fnExactAllocRow.holds Try.pinned (OpenSpec.ofChange fnExactAllocSpec)

/-- ITS FALSE NEIGHBOUR: 'it returns false'. Refute it at one input. -/
def fnExactAllocWrong : ChangeSpec := { name := "fnExactAlloc", fn := fun _ => fun
  | [d1, d2, d3] => { results := [.lit (.bool false)], args := [d1, d2, d3] }
  | _ => none }
def FnExactAllocWrongFalsely : Prop := fnExactAllocRow.holds Try.pinned (OpenSpec.ofChange fnExactAllocWrong)

/-- 'laws.FnExactRelease': WHATEVER THE INPUT: true; the input reads as it did. -/
def fnExactReleaseSpec : ChangeSpec := { name := "fnExactRelease", fn := fun _ => fun
  | [d1, d2, d3] => { results := [.lit (.bool true)], args := [d1, d2, d3] }
  | _ => none }
def fnExactReleaseRow : OpenClaim := { program := "ytmnkkpahbmcekab", sum := "f47b9de61360b43771640755575b6cca7ba50e7131aff07147874491d93b58fb", func := "loop.example/g00901/laws.FnExactRelease", spec := "fnExactRelease", apart := false }
def FnExactReleaseSaid : Prop := fnExactReleaseRow.holds Try.pinned (OpenSpec.ofChange fnExactReleaseSpec)

/-- ITS FALSE NEIGHBOUR: 'it returns false'. Refute it at one input. -/
def fnExactReleaseWrong : ChangeSpec := { name := "fnExactRelease", fn := fun _ => fun
  | [d1, d2, d3] => { results := [.lit (.bool false)], args := [d1, d2, d3] }
  | _ => none }
def FnExactReleaseWrongFalsely : Prop := fnExactReleaseRow.holds Try.pinned (OpenSpec.ofChange fnExactReleaseWrong)

/-- 'laws.FnExactGrowMem': WHATEVER THE INPUT: true; the input reads as it did. -/
def fnExactGrowMemSpec : ChangeSpec := { name := "fnExactGrowMem", fn := fun _ => fun
  | [d1, d2] => { results := [.lit (.bool true)], args := [d1, d2] }
  | _ => none }
def fnExactGrowMemRow : OpenClaim := { program := "ytmnkkpahbmcekab", sum := "f47b9de61360b43771640755575b6cca7ba50e7131aff07147874491d93b58fb", func := "loop.example/g00901/laws.FnExactGrowMem", spec := "fnExactGrowMem", inPlace := ["internal/abi.NoEscape", "internal/bytealg.MakeNoZero"], apart := false }
def FnExactGrowMemSaid : Prop := fnExactGrowMemRow.holds Try.pinned (OpenSpec.ofChange fnExactGrowMemSpec)

/-- ITS FALSE NEIGHBOUR: 'it returns false'. Refute it at one input. -/
def fnExactGrowMemWrong : ChangeSpec := { name := "fnExactGrowMem", fn := fun _ => fun
  | [d1, d2] => { results := [.lit (.bool false)], args := [d1, d2] }
  | _ => none }
def FnExactGrowMemWrongFalsely : Prop := fnExactGrowMemRow.holds Try.pinned (OpenSpec.ofChange fnExactGrowMemWrong)

/- THE SECOND FORM. 'bulk': how many values and letters a reading holds, each counted each time it is reached (what is shared counts as often as it is met; a slice's spare places count too). A statement '..UptoSaid' is the law's where the arguments, and the package variables that the reading takes, are together of bulk at most 1048576: NARROWER than '..Said'. Prove '..Said' where nothing that the law and all that it calls make is longer than what came in: it says more and counts as full. Else prove '..UptoSaid'. A law counts once. -/
mutual
def uptoBulk {H : Type} : DataW H → Nat
  | .lit (.string bytes) => bytes.length + 1
  | .lit _ => 1
  | .nil => 1
  | .ptr d => uptoBulk d + 1
  | .slice elems spare => uptoBulkAll elems + uptoBulkAll spare + 1
  | .agg parts => uptoBulkAll parts + 1
  | .iface _ d => uptoBulk d + 1
  | .map entries => uptoBulkEntries entries + 1
  | .held _ => 1
def uptoBulkAll {H : Type} : List (DataW H) → Nat
  | [] => 0
  | d :: r => uptoBulk d + uptoBulkAll r
def uptoBulkEntries {H : Type} : List (Lit × DataW H) → Nat
  | [] => 0
  | x :: r => uptoBulkEntry x + uptoBulkEntries r
def uptoBulkEntry {H : Type} : Lit × DataW H → Nat
  | (.string bytes, d) => bytes.length + uptoBulk d + 1
  | (_, d) => uptoBulk d + 1
 end
def uptoSmall : (H : Type) → List (DataW H) → Bool := fun _ ds => decide (uptoBulkAll ds ≤ 1048576)
def OpenSpec.upto (s : _root_.Go.ChangeSpec) : _root_.Go.OpenSpec := { _root_.Go.OpenSpec.ofChange s with cond := some uptoSmall }

/-- 'laws.FnExactFlatOf', WHERE WHAT IT READS IS OF BULK AT MOST 1048576: true; the input reads as it did. -/
def fnExactFlatOfUptoRow : OpenClaim := { program := "ytmnkkpahbmcekab", sum := "f47b9de61360b43771640755575b6cca7ba50e7131aff07147874491d93b58fb", func := "loop.example/g00901/laws.FnExactFlatOf", spec := "fnExactFlatOf", unfollowed := true, recurses := true, loops := true, apart := false, narrowed := true }
def FnExactFlatOfUptoSaid : Prop := fnExactFlatOfUptoRow.holds Try.pinned (OpenSpec.upto fnExactFlatOfSpec)

/-- 'laws.FnExactFlatOfAll', WHERE WHAT IT READS IS OF BULK AT MOST 1048576: true; the input reads as it did. -/
def fnExactFlatOfAllUptoRow : OpenClaim := { program := "ytmnkkpahbmcekab", sum := "f47b9de61360b43771640755575b6cca7ba50e7131aff07147874491d93b58fb", func := "loop.example/g00901/laws.FnExactFlatOfAll", spec := "fnExactFlatOfAll", unfollowed := true, recurses := true, loops := true, apart := false, narrowed := true }
def FnExactFlatOfAllUptoSaid : Prop := fnExactFlatOfAllUptoRow.holds Try.pinned (OpenSpec.upto fnExactFlatOfAllSpec)

/-- 'laws.FnExactIsSpilled', WHERE WHAT IT READS IS OF BULK AT MOST 1048576: true; the input reads as it did. -/
def fnExactIsSpilledUptoRow : OpenClaim := { program := "ytmnkkpahbmcekab", sum := "f47b9de61360b43771640755575b6cca7ba50e7131aff07147874491d93b58fb", func := "loop.example/g00901/laws.FnExactIsSpilled", spec := "fnExactIsSpilled", unfollowed := true, recurses := true, loops := true, apart := false, narrowed := true }
def FnExactIsSpilledUptoSaid : Prop := fnExactIsSpilledUptoRow.holds Try.pinned (OpenSpec.upto fnExactIsSpilledSpec)

/-- 'laws.FnExactNewMemory', WHERE WHAT IT READS IS OF BULK AT MOST 1048576: true; the input reads as it did. -/
def fnExactNewMemoryUptoRow : OpenClaim := { program := "ytmnkkpahbmcekab", sum := "f47b9de61360b43771640755575b6cca7ba50e7131aff07147874491d93b58fb", func := "loop.example/g00901/laws.FnExactNewMemory", spec := "fnExactNewMemory", inPlace := ["internal/abi.NoEscape", "internal/bytealg.MakeNoZero"], apart := false, narrowed := true }
def FnExactNewMemoryUptoSaid : Prop := fnExactNewMemoryUptoRow.holds Try.pinned (OpenSpec.upto fnExactNewMemorySpec)

/-- 'laws.FnExactWriteMem', WHERE WHAT IT READS IS OF BULK AT MOST 1048576: true; the input reads as it did. -/
def fnExactWriteMemUptoRow : OpenClaim := { program := "ytmnkkpahbmcekab", sum := "f47b9de61360b43771640755575b6cca7ba50e7131aff07147874491d93b58fb", func := "loop.example/g00901/laws.FnExactWriteMem", spec := "fnExactWriteMem", apart := false, narrowed := true }
def FnExactWriteMemUptoSaid : Prop := fnExactWriteMemUptoRow.holds Try.pinned (OpenSpec.upto fnExactWriteMemSpec)

/-- 'laws.FnExactAlloc', WHERE WHAT IT READS IS OF BULK AT MOST 1048576: true; the input reads as it did. -/
def fnExactAllocUptoRow : OpenClaim := { program := "ytmnkkpahbmcekab", sum := "f47b9de61360b43771640755575b6cca7ba50e7131aff07147874491d93b58fb", func := "loop.example/g00901/laws.FnExactAlloc", spec := "fnExactAlloc", apart := false, narrowed := true }
def FnExactAllocUptoSaid : Prop := fnExactAllocUptoRow.holds Try.pinned (OpenSpec.upto fnExactAllocSpec)

/-- 'laws.FnExactRelease', WHERE WHAT IT READS IS OF BULK AT MOST 1048576: true; the input reads as it did. -/
def fnExactReleaseUptoRow : OpenClaim := { program := "ytmnkkpahbmcekab", sum := "f47b9de61360b43771640755575b6cca7ba50e7131aff07147874491d93b58fb", func := "loop.example/g00901/laws.FnExactRelease", spec := "fnExactRelease", apart := false, narrowed := true }
def FnExactReleaseUptoSaid : Prop := fnExactReleaseUptoRow.holds Try.pinned (OpenSpec.upto fnExactReleaseSpec)

/-- 'laws.FnExactGrowMem', WHERE WHAT IT READS IS OF BULK AT MOST 1048576: true; the input reads as it did. -/
def fnExactGrowMemUptoRow : OpenClaim := { program := "ytmnkkpahbmcekab", sum := "f47b9de61360b43771640755575b6cca7ba50e7131aff07147874491d93b58fb", func := "loop.example/g00901/laws.FnExactGrowMem", spec := "fnExactGrowMem", inPlace := ["internal/abi.NoEscape", "internal/bytealg.MakeNoZero"], apart := false, narrowed := true }
def FnExactGrowMemUptoSaid : Prop := fnExactGrowMemUptoRow.holds Try.pinned (OpenSpec.upto fnExactGrowMemSpec)

end Rows
end Go.Proofs.Ytmnkkpahbmcekab
