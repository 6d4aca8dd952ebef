/-
  NARROWER THAN 'FOR EVERY INPUT', by the rows' own cells (each row's printed sentence says how): FnExactFlatOf: loops · FnExactFlatOfAll: loops · FnExactTermOf: loops · FnExactSameValue: loops.
  DERIVED. THE GIVEN ROWS OF THIS SEAT. 9 by the template 'for every input the law returns true; each argument reads behind the call as it read before'; 0 by the template 'total and deterministic' (their statements: YtndeklmkhfopgaaTotals.lean).
  GIVEN WITH THE SEED: the statements are not yours to turn. If you find one false, say at which input.
  Laid BY PROGRAM, IN A SANDBOX (cutbox-rows.mjs): the forced cells as the released guide's own fill.sh prints them over the translation 9bd1b9d895ba1d63… (all of the seat's roots in one cut). By AI agents, Wed Nov 11 2026. No macro, syntax, notation, axiom, sorry.
-/
import Derived.Test.YtndeklmkhfopgaaChecked
import GoSem.Claim
import GoSem.ClaimJoined
import GoSem.ClaimMapViews
import Derived.JoinedTies
import Derived.KernelRfl
namespace Go.Proofs.Ytndeklmkhfopgaa
/- THE CELL 'sum', in the pinned program and in every row, IS THE sha256 OF THE DUMP (.gsa) THAT YtndeklmkhfopgaaProg.lean LOADS. Nothing in Lean hashes anything: it is a label: what it is worth is what the hold of that sum in a sandbox is worth. -/
noncomputable def Try.pinned : Pinned := { name := "ytndeklmkhfopgaa", sum := "9bd1b9d895ba1d639d3108fd0e4e638b85cc6fd504baad5ebdec39a3f7dd3d1c", checked := Try.checked }
namespace Rows
def none {H : Type} : Left H := { results := [], args := [] }

/-- 'laws.FnExactFlatOf': WHATEVER THE INPUT: true; the input reads as it did. -/
def fnExactFlatOfSpec : ChangeSpec := { name := "fnExactFlatOf", fn := fun _ => fun
  | [d] => { results := [.lit (.bool true)], args := [d] }
  | _ => none }
def fnExactFlatOfRow : OpenClaim := { program := "ytndeklmkhfopgaa", sum := "9bd1b9d895ba1d639d3108fd0e4e638b85cc6fd504baad5ebdec39a3f7dd3d1c", func := "loop.example/g00901/laws.FnExactFlatOf", spec := "fnExactFlatOf", unfollowed := true, recurses := true, loops := true, plainKeys := false, apart := false }
def FnExactFlatOfSaid : Prop := fnExactFlatOfRow.holds Try.pinned (OpenSpec.ofChange fnExactFlatOfSpec)

/-- ITS FALSE NEIGHBOUR: 'it returns false'. Refute it at one input. -/
def fnExactFlatOfWrong : ChangeSpec := { name := "fnExactFlatOf", fn := fun _ => fun
  | [d] => { results := [.lit (.bool false)], args := [d] }
  | _ => none }
def FnExactFlatOfWrongFalsely : Prop := fnExactFlatOfRow.holds Try.pinned (OpenSpec.ofChange fnExactFlatOfWrong)

/-- 'laws.FnExactFlatOfAll': WHATEVER THE INPUT: true; the input reads as it did. -/
def fnExactFlatOfAllSpec : ChangeSpec := { name := "fnExactFlatOfAll", fn := fun _ => fun
  | [d] => { results := [.lit (.bool true)], args := [d] }
  | _ => none }
def fnExactFlatOfAllRow : OpenClaim := { program := "ytndeklmkhfopgaa", sum := "9bd1b9d895ba1d639d3108fd0e4e638b85cc6fd504baad5ebdec39a3f7dd3d1c", func := "loop.example/g00901/laws.FnExactFlatOfAll", spec := "fnExactFlatOfAll", unfollowed := true, recurses := true, loops := true, plainKeys := false, apart := false }
def FnExactFlatOfAllSaid : Prop := fnExactFlatOfAllRow.holds Try.pinned (OpenSpec.ofChange fnExactFlatOfAllSpec)

/-- ITS FALSE NEIGHBOUR: 'it returns false'. Refute it at one input. -/
def fnExactFlatOfAllWrong : ChangeSpec := { name := "fnExactFlatOfAll", fn := fun _ => fun
  | [d] => { results := [.lit (.bool false)], args := [d] }
  | _ => none }
def FnExactFlatOfAllWrongFalsely : Prop := fnExactFlatOfAllRow.holds Try.pinned (OpenSpec.ofChange fnExactFlatOfAllWrong)

/-- 'laws.FnExactWriteMem': WHATEVER THE INPUT: true; the input reads as it did. -/
def fnExactWriteMemSpec : ChangeSpec := { name := "fnExactWriteMem", fn := fun _ => fun
  | [d1, d2, d3] => { results := [.lit (.bool true)], args := [d1, d2, d3] }
  | _ => none }
def fnExactWriteMemRow : OpenClaim := { program := "ytndeklmkhfopgaa", sum := "9bd1b9d895ba1d639d3108fd0e4e638b85cc6fd504baad5ebdec39a3f7dd3d1c", func := "loop.example/g00901/laws.FnExactWriteMem", spec := "fnExactWriteMem", plainKeys := false, apart := false }
def FnExactWriteMemSaid : Prop := fnExactWriteMemRow.holds Try.pinned (OpenSpec.ofChange fnExactWriteMemSpec)

/-- ITS FALSE NEIGHBOUR: 'it returns false'. Refute it at one input. -/
def fnExactWriteMemWrong : ChangeSpec := { name := "fnExactWriteMem", fn := fun _ => fun
  | [d1, d2, d3] => { results := [.lit (.bool false)], args := [d1, d2, d3] }
  | _ => none }
def FnExactWriteMemWrongFalsely : Prop := fnExactWriteMemRow.holds Try.pinned (OpenSpec.ofChange fnExactWriteMemWrong)

/-- 'laws.FnExactAlloc': WHATEVER THE INPUT: true; the input reads as it did. -/
def fnExactAllocSpec : ChangeSpec := { name := "fnExactAlloc", fn := fun _ => fun
  | [d1, d2, d3] => { results := [.lit (.bool true)], args := [d1, d2, d3] }
  | _ => none }
def fnExactAllocRow : OpenClaim := { program := "ytndeklmkhfopgaa", sum := "9bd1b9d895ba1d639d3108fd0e4e638b85cc6fd504baad5ebdec39a3f7dd3d1c", func := "loop.example/g00901/laws.FnExactAlloc", spec := "fnExactAlloc", plainKeys := false, apart := false }
def FnExactAllocSaid : Prop := fnExactAllocRow.holds Try.pinned (OpenSpec.ofChange fnExactAllocSpec)

/-- ITS FALSE NEIGHBOUR: 'it returns false'. Refute it at one input. -/
def fnExactAllocWrong : ChangeSpec := { name := "fnExactAlloc", fn := fun _ => fun
  | [d1, d2, d3] => { results := [.lit (.bool false)], args := [d1, d2, d3] }
  | _ => none }
def FnExactAllocWrongFalsely : Prop := fnExactAllocRow.holds Try.pinned (OpenSpec.ofChange fnExactAllocWrong)

/-- 'laws.FnExactRelease': WHATEVER THE INPUT: true; the input reads as it did. -/
def fnExactReleaseSpec : ChangeSpec := { name := "fnExactRelease", fn := fun _ => fun
  | [d1, d2, d3] => { results := [.lit (.bool true)], args := [d1, d2, d3] }
  | _ => none }
def fnExactReleaseRow : OpenClaim := { program := "ytndeklmkhfopgaa", sum := "9bd1b9d895ba1d639d3108fd0e4e638b85cc6fd504baad5ebdec39a3f7dd3d1c", func := "loop.example/g00901/laws.FnExactRelease", spec := "fnExactRelease", plainKeys := false, apart := false }
def FnExactReleaseSaid : Prop := fnExactReleaseRow.holds Try.pinned (OpenSpec.ofChange fnExactReleaseSpec)

/-- ITS FALSE NEIGHBOUR: 'it returns false'. Refute it at one input. -/
def fnExactReleaseWrong : ChangeSpec := { name := "fnExactRelease", fn := fun _ => fun
  | [d1, d2, d3] => { results := [.lit (.bool false)], args := [d1, d2, d3] }
  | _ => none }
def FnExactReleaseWrongFalsely : Prop := fnExactReleaseRow.holds Try.pinned (OpenSpec.ofChange fnExactReleaseWrong)

/-- 'laws.FnExactGrowMem': WHATEVER THE INPUT: true; the input reads as it did. -/
def fnExactGrowMemSpec : ChangeSpec := { name := "fnExactGrowMem", fn := fun _ => fun
  | [d1, d2] => { results := [.lit (.bool true)], args := [d1, d2] }
  | _ => none }
def fnExactGrowMemRow : OpenClaim := { program := "ytndeklmkhfopgaa", sum := "9bd1b9d895ba1d639d3108fd0e4e638b85cc6fd504baad5ebdec39a3f7dd3d1c", func := "loop.example/g00901/laws.FnExactGrowMem", spec := "fnExactGrowMem", inPlace := ["internal/abi.NoEscape", "internal/bytealg.MakeNoZero"], plainKeys := false, apart := false }
def FnExactGrowMemSaid : Prop := fnExactGrowMemRow.holds Try.pinned (OpenSpec.ofChange fnExactGrowMemSpec)

/-- ITS FALSE NEIGHBOUR: 'it returns false'. Refute it at one input. -/
def fnExactGrowMemWrong : ChangeSpec := { name := "fnExactGrowMem", fn := fun _ => fun
  | [d1, d2] => { results := [.lit (.bool false)], args := [d1, d2] }
  | _ => none }
def FnExactGrowMemWrongFalsely : Prop := fnExactGrowMemRow.holds Try.pinned (OpenSpec.ofChange fnExactGrowMemWrong)

/-- 'laws.FnExactNewMemory': WHATEVER THE INPUT: true; the input reads as it did. -/
def fnExactNewMemorySpec : ChangeSpec := { name := "fnExactNewMemory", fn := fun _ => fun
  | [d] => { results := [.lit (.bool true)], args := [d] }
  | _ => none }
def fnExactNewMemoryRow : OpenClaim := { program := "ytndeklmkhfopgaa", sum := "9bd1b9d895ba1d639d3108fd0e4e638b85cc6fd504baad5ebdec39a3f7dd3d1c", func := "loop.example/g00901/laws.FnExactNewMemory", spec := "fnExactNewMemory", inPlace := ["internal/abi.NoEscape", "internal/bytealg.MakeNoZero"], plainKeys := false, apart := false }
def FnExactNewMemorySaid : Prop := fnExactNewMemoryRow.holds Try.pinned (OpenSpec.ofChange fnExactNewMemorySpec)

/-- ITS FALSE NEIGHBOUR: 'it returns false'. Refute it at one input. -/
def fnExactNewMemoryWrong : ChangeSpec := { name := "fnExactNewMemory", fn := fun _ => fun
  | [d] => { results := [.lit (.bool false)], args := [d] }
  | _ => none }
def FnExactNewMemoryWrongFalsely : Prop := fnExactNewMemoryRow.holds Try.pinned (OpenSpec.ofChange fnExactNewMemoryWrong)

/-- 'laws.FnExactTermOf': WHATEVER THE INPUT: true; the input reads as it did. -/
def fnExactTermOfSpec : ChangeSpec := { name := "fnExactTermOf", fn := fun _ => fun
  | [d] => { results := [.lit (.bool true)], args := [d] }
  | _ => none }
def fnExactTermOfRow : OpenClaim := { program := "ytndeklmkhfopgaa", sum := "9bd1b9d895ba1d639d3108fd0e4e638b85cc6fd504baad5ebdec39a3f7dd3d1c", func := "loop.example/g00901/laws.FnExactTermOf", spec := "fnExactTermOf", unfollowed := true, recurses := true, loops := true, plainKeys := false, apart := false }
def FnExactTermOfSaid : Prop := fnExactTermOfRow.holds Try.pinned (OpenSpec.ofChange fnExactTermOfSpec)

/-- ITS FALSE NEIGHBOUR: 'it returns false'. Refute it at one input. -/
def fnExactTermOfWrong : ChangeSpec := { name := "fnExactTermOf", fn := fun _ => fun
  | [d] => { results := [.lit (.bool false)], args := [d] }
  | _ => none }
def FnExactTermOfWrongFalsely : Prop := fnExactTermOfRow.holds Try.pinned (OpenSpec.ofChange fnExactTermOfWrong)

/-- 'laws.FnExactSameValue': WHATEVER THE INPUT: true; the input reads as it did. -/
def fnExactSameValueSpec : ChangeSpec := { name := "fnExactSameValue", fn := fun _ => fun
  | [d1, d2] => { results := [.lit (.bool true)], args := [d1, d2] }
  | _ => none }
def fnExactSameValueRow : OpenClaim := { program := "ytndeklmkhfopgaa", sum := "9bd1b9d895ba1d639d3108fd0e4e638b85cc6fd504baad5ebdec39a3f7dd3d1c", func := "loop.example/g00901/laws.FnExactSameValue", spec := "fnExactSameValue", recurses := true, loops := true, plainKeys := false, apart := false }
def FnExactSameValueSaid : Prop := fnExactSameValueRow.holds Try.pinned (OpenSpec.ofChange fnExactSameValueSpec)

/-- ITS FALSE NEIGHBOUR: 'it returns false'. Refute it at one input. -/
def fnExactSameValueWrong : ChangeSpec := { name := "fnExactSameValue", fn := fun _ => fun
  | [d1, d2] => { results := [.lit (.bool false)], args := [d1, d2] }
  | _ => none }
def FnExactSameValueWrongFalsely : Prop := fnExactSameValueRow.holds Try.pinned (OpenSpec.ofChange fnExactSameValueWrong)

/- THE SECOND FORM. 'bulk': how many values and letters a reading holds, each counted each time it is reached (what is shared counts as often as it is met; a slice's spare places count too). A statement '..UptoSaid' is the law's where the arguments, and the package variables that the reading takes, are together of bulk at most 1048576: NARROWER than '..Said'. Prove '..Said' where nothing that the law and all that it calls make is longer than what came in: it says more and counts as full. Else prove '..UptoSaid'. A law counts once. -/
mutual
def uptoBulk {H : Type} : DataW H → Nat
  | .lit (.string bytes) => bytes.length + 1
  | .lit _ => 1
  | .nil => 1
  | .ptr d => uptoBulk d + 1
  | .slice elems spare => uptoBulkAll elems + uptoBulkAll spare + 1
  | .agg parts => uptoBulkAll parts + 1
  | .iface _ d => uptoBulk d + 1
  | .map entries => uptoBulkEntries entries + 1
  | .held _ => 1
def uptoBulkAll {H : Type} : List (DataW H) → Nat
  | [] => 0
  | d :: r => uptoBulk d + uptoBulkAll r
def uptoBulkEntries {H : Type} : List (Lit × DataW H) → Nat
  | [] => 0
  | x :: r => uptoBulkEntry x + uptoBulkEntries r
def uptoBulkEntry {H : Type} : Lit × DataW H → Nat
  | (.string bytes, d) => bytes.length + uptoBulk d + 1
  | (_, d) => uptoBulk d + 1
 end
def uptoSmall : (H : Type) → List (DataW H) → Bool := fun _ ds => decide (uptoBulkAll ds ≤ 1048576)
def OpenSpec.upto (s : _root_.Go.ChangeSpec) : _root_.Go.OpenSpec := { _root_.Go.OpenSpec.ofChange s with cond := some uptoSmall }

/-- 'laws.FnExactFlatOf', WHERE WHAT IT READS IS OF BULK AT MOST 1048576: true; the input reads as it did. -/
def fnExactFlatOfUptoRow : OpenClaim := { program := "ytndeklmkhfopgaa", sum := "9bd1b9d895ba1d639d3108fd0e4e638b85cc6fd504baad5ebdec39a3f7dd3d1c", func := "loop.example/g00901/laws.FnExactFlatOf", spec := "fnExactFlatOf", unfollowed := true, recurses := true, loops := true, plainKeys := false, apart := false, narrowed := true }
def FnExactFlatOfUptoSaid : Prop := fnExactFlatOfUptoRow.holds Try.pinned (OpenSpec.upto fnExactFlatOfSpec)

/-- 'laws.FnExactFlatOfAll', WHERE WHAT IT READS IS OF BULK AT MOST 1048576: true; the input reads as it did. -/
def fnExactFlatOfAllUptoRow : OpenClaim := { program := "ytndeklmkhfopgaa", sum := "9bd1b9d895ba1d639d3108fd0e4e638b85cc6fd504baad5ebdec39a3f7dd3d1c", func := "loop.example/g00901/laws.FnExactFlatOfAll", spec := "fnExactFlatOfAll", unfollowed := true, recurses := true, loops := true, plainKeys := false, apart := false, narrowed := true }
def FnExactFlatOfAllUptoSaid : Prop := fnExactFlatOfAllUptoRow.holds Try.pinned (OpenSpec.upto fnExactFlatOfAllSpec)

/-- 'laws.FnExactWriteMem', WHERE WHAT IT READS IS OF BULK AT MOST 1048576: true; the input reads as it did. -/
def fnExactWriteMemUptoRow : OpenClaim := { program := "ytndeklmkhfopgaa", sum := "9bd1b9d895ba1d639d3108fd0e4e638b85cc6fd504baad5ebdec39a3f7dd3d1c", func := "loop.example/g00901/laws.FnExactWriteMem", spec := "fnExactWriteMem", plainKeys := false, apart := false, narrowed := true }
def FnExactWriteMemUptoSaid : Prop := fnExactWriteMemUptoRow.holds Try.pinned (OpenSpec.upto fnExactWriteMemSpec)

/-- 'laws.FnExactAlloc', WHERE WHAT IT READS IS OF BULK AT MOST 1048576: true; the input reads as it did. -/
def fnExactAllocUptoRow : OpenClaim := { program := "ytndeklmkhfopgaa", sum := "9bd1b9d895ba1d639d3108fd0e4e638b85cc6fd504baad5ebdec39a3f7dd3d1c", func := "loop.example/g00901/laws.FnExactAlloc", spec := "fnExactAlloc", plainKeys := false, apart := false, narrowed := true }
def FnExactAllocUptoSaid : Prop := fnExactAllocUptoRow.holds Try.pinned (OpenSpec.upto fnExactAllocSpec)

/-- 'laws.FnExactRelease', WHERE WHAT IT READS IS OF BULK AT MOST 1048576: true; the input reads as it did. -/
def fnExactReleaseUptoRow : OpenClaim := { program := "ytndeklmkhfopgaa", sum := "9bd1b9d895ba1d639d3108fd0e4e638b85cc6fd504baad5ebdec39a3f7dd3d1c", func := "loop.example/g00901/laws.FnExactRelease", spec := "fnExactRelease", plainKeys := false, apart := false, narrowed := true }
def FnExactReleaseUptoSaid : Prop := fnExactReleaseUptoRow.holds Try.pinned (OpenSpec.upto fnExactReleaseSpec)

/-- 'laws.FnExactGrowMem', WHERE WHAT IT READS IS OF BULK AT MOST 1048576: true; the input reads as it did. -/
def fnExactGrowMemUptoRow : OpenClaim := { program := "ytndeklmkhfopgaa", sum := "9bd1b9d895ba1d639d3108fd0e4e638b85cc6fd504baad5ebdec39a3f7dd3d1c", func := "loop.example/g00901/laws.FnExactGrowMem", spec := "fnExactGrowMem", inPlace := ["internal/abi.NoEscape", "internal/bytealg.MakeNoZero"], plainKeys := false, apart := false, narrowed := true }
def FnExactGrowMemUptoSaid : Prop := fnExactGrowMemUptoRow.holds Try.pinned (OpenSpec.upto fnExactGrowMemSpec)

/-- 'laws.FnExactNewMemory', WHERE WHAT IT READS IS OF BULK AT MOST 1048576: true; the input reads as it did. -/
def fnExactNewMemoryUptoRow : OpenClaim := { program := "ytndeklmkhfopgaa", sum := "9bd1b9d895ba1d639d3108fd0e4e638b85cc6fd504baad5ebdec39a3f7dd3d1c", func := "loop.example/g00901/laws.FnExactNewMemory", spec := "fnExactNewMemory", inPlace := ["internal/abi.NoEscape", "internal/bytealg.MakeNoZero"], plainKeys := false, apart := false, narrowed := true }
def FnExactNewMemoryUptoSaid : Prop := fnExactNewMemoryUptoRow.holds Try.pinned (OpenSpec.upto fnExactNewMemorySpec)

/-- 'laws.FnExactTermOf', WHERE WHAT IT READS IS OF BULK AT MOST 1048576: true; the input reads as it did. -/
def fnExactTermOfUptoRow : OpenClaim := { program := "ytndeklmkhfopgaa", sum := "9bd1b9d895ba1d639d3108fd0e4e638b85cc6fd504baad5ebdec39a3f7dd3d1c", func := "loop.example/g00901/laws.FnExactTermOf", spec := "fnExactTermOf", unfollowed := true, recurses := true, loops := true, plainKeys := false, apart := false, narrowed := true }
def FnExactTermOfUptoSaid : Prop := fnExactTermOfUptoRow.holds Try.pinned (OpenSpec.upto fnExactTermOfSpec)

/-- 'laws.FnExactSameValue', WHERE WHAT IT READS IS OF BULK AT MOST 1048576: true; the input reads as it did. -/
def fnExactSameValueUptoRow : OpenClaim := { program := "ytndeklmkhfopgaa", sum := "9bd1b9d895ba1d639d3108fd0e4e638b85cc6fd504baad5ebdec39a3f7dd3d1c", func := "loop.example/g00901/laws.FnExactSameValue", spec := "fnExactSameValue", recurses := true, loops := true, plainKeys := false, apart := false, narrowed := true }
def FnExactSameValueUptoSaid : Prop := fnExactSameValueUptoRow.holds Try.pinned (OpenSpec.upto fnExactSameValueSpec)

end Rows
end Go.Proofs.Ytndeklmkhfopgaa
