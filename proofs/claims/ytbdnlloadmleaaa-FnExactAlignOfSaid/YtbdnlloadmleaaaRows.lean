/-
  NARROWER THAN 'FOR EVERY INPUT', by the rows' own cells (each row's printed sentence says how): FnExactAlignOf: loops · FnExactSizeOf: loops.
  DERIVED. THE GIVEN ROWS OF THIS SEAT. 12 by the template 'for every input the law returns true; each argument reads behind the call as it read before'; 0 by the template 'total and deterministic' (their statements: YtbdnlloadmleaaaTotals.lean).
  GIVEN WITH THE SEED: the statements are not yours to turn. If you find one false, say at which input.
  Laid BY PROGRAM, IN A SANDBOX (cutbox-rows.mjs): the forced cells as the released guide's own fill.sh prints them over the translation 691c39655db3b5e1… (all of the seat's roots in one cut). By AI agents, Wed Nov 11 2026. No macro, syntax, notation, axiom, sorry.
-/
import Derived.Test.YtbdnlloadmleaaaChecked
import GoSem.Claim
import GoSem.ClaimJoined
import GoSem.ClaimMapViews
import Derived.JoinedTies
import Derived.KernelRfl
namespace Go.Proofs.Ytbdnlloadmleaaa
/- THE CELL 'sum', in the pinned program and in every row, IS THE sha256 OF THE DUMP (.gsa) THAT YtbdnlloadmleaaaProg.lean LOADS. Nothing in Lean hashes anything: it is a label: what it is worth is what the hold of that sum in a sandbox is worth. -/
noncomputable def Try.pinned : Pinned := { name := "ytbdnlloadmleaaa", sum := "691c39655db3b5e1fb3e3a5968c3312ef42e406aaef9209298b118fd78e24963", checked := Try.checked }
namespace Rows
def none {H : Type} : Left H := { results := [], args := [] }

/-- 'laws.FnExactMemoryOk': WHATEVER THE INPUT: true; the input reads as it did. -/
def fnExactMemoryOkSpec : ChangeSpec := { name := "fnExactMemoryOk", fn := fun _ => fun
  | [d] => { results := [.lit (.bool true)], args := [d] }
  | _ => none }
def fnExactMemoryOkRow : OpenClaim := { program := "ytbdnlloadmleaaa", sum := "691c39655db3b5e1fb3e3a5968c3312ef42e406aaef9209298b118fd78e24963", func := "loop.example/g00901/laws.FnExactMemoryOk", spec := "fnExactMemoryOk", apart := false }
def FnExactMemoryOkSaid : Prop := fnExactMemoryOkRow.holds Try.pinned (OpenSpec.ofChange fnExactMemoryOkSpec)

/-- ITS FALSE NEIGHBOUR: 'it returns false'. Refute it at one input. -/
def fnExactMemoryOkWrong : ChangeSpec := { name := "fnExactMemoryOk", fn := fun _ => fun
  | [d] => { results := [.lit (.bool false)], args := [d] }
  | _ => none }
def FnExactMemoryOkWrongFalsely : Prop := fnExactMemoryOkRow.holds Try.pinned (OpenSpec.ofChange fnExactMemoryOkWrong)

/-- 'laws.FnExactSameMemory': WHATEVER THE INPUT: true; the input reads as it did. -/
def fnExactSameMemorySpec : ChangeSpec := { name := "fnExactSameMemory", fn := fun _ => fun
  | [d1, d2] => { results := [.lit (.bool true)], args := [d1, d2] }
  | _ => none }
def fnExactSameMemoryRow : OpenClaim := { program := "ytbdnlloadmleaaa", sum := "691c39655db3b5e1fb3e3a5968c3312ef42e406aaef9209298b118fd78e24963", func := "loop.example/g00901/laws.FnExactSameMemory", spec := "fnExactSameMemory", apart := false }
def FnExactSameMemorySaid : Prop := fnExactSameMemoryRow.holds Try.pinned (OpenSpec.ofChange fnExactSameMemorySpec)

/-- ITS FALSE NEIGHBOUR: 'it returns false'. Refute it at one input. -/
def fnExactSameMemoryWrong : ChangeSpec := { name := "fnExactSameMemory", fn := fun _ => fun
  | [d1, d2] => { results := [.lit (.bool false)], args := [d1, d2] }
  | _ => none }
def FnExactSameMemoryWrongFalsely : Prop := fnExactSameMemoryRow.holds Try.pinned (OpenSpec.ofChange fnExactSameMemoryWrong)

/-- 'laws.FnExactNewMemory': WHATEVER THE INPUT: true; the input reads as it did. -/
def fnExactNewMemorySpec : ChangeSpec := { name := "fnExactNewMemory", fn := fun _ => fun
  | [d] => { results := [.lit (.bool true)], args := [d] }
  | _ => none }
def fnExactNewMemoryRow : OpenClaim := { program := "ytbdnlloadmleaaa", sum := "691c39655db3b5e1fb3e3a5968c3312ef42e406aaef9209298b118fd78e24963", func := "loop.example/g00901/laws.FnExactNewMemory", spec := "fnExactNewMemory", inPlace := ["internal/abi.NoEscape", "internal/bytealg.MakeNoZero"], apart := false }
def FnExactNewMemorySaid : Prop := fnExactNewMemoryRow.holds Try.pinned (OpenSpec.ofChange fnExactNewMemorySpec)

/-- ITS FALSE NEIGHBOUR: 'it returns false'. Refute it at one input. -/
def fnExactNewMemoryWrong : ChangeSpec := { name := "fnExactNewMemory", fn := fun _ => fun
  | [d] => { results := [.lit (.bool false)], args := [d] }
  | _ => none }
def FnExactNewMemoryWrongFalsely : Prop := fnExactNewMemoryRow.holds Try.pinned (OpenSpec.ofChange fnExactNewMemoryWrong)

/-- 'laws.FnExactReadMem': WHATEVER THE INPUT: true; the input reads as it did. -/
def fnExactReadMemSpec : ChangeSpec := { name := "fnExactReadMem", fn := fun _ => fun
  | [d1, d2, d3] => { results := [.lit (.bool true)], args := [d1, d2, d3] }
  | _ => none }
def fnExactReadMemRow : OpenClaim := { program := "ytbdnlloadmleaaa", sum := "691c39655db3b5e1fb3e3a5968c3312ef42e406aaef9209298b118fd78e24963", func := "loop.example/g00901/laws.FnExactReadMem", spec := "fnExactReadMem", apart := false }
def FnExactReadMemSaid : Prop := fnExactReadMemRow.holds Try.pinned (OpenSpec.ofChange fnExactReadMemSpec)

/-- ITS FALSE NEIGHBOUR: 'it returns false'. Refute it at one input. -/
def fnExactReadMemWrong : ChangeSpec := { name := "fnExactReadMem", fn := fun _ => fun
  | [d1, d2, d3] => { results := [.lit (.bool false)], args := [d1, d2, d3] }
  | _ => none }
def FnExactReadMemWrongFalsely : Prop := fnExactReadMemRow.holds Try.pinned (OpenSpec.ofChange fnExactReadMemWrong)

/-- 'laws.FnExactWriteMem': WHATEVER THE INPUT: true; the input reads as it did. -/
def fnExactWriteMemSpec : ChangeSpec := { name := "fnExactWriteMem", fn := fun _ => fun
  | [d1, d2, d3] => { results := [.lit (.bool true)], args := [d1, d2, d3] }
  | _ => none }
def fnExactWriteMemRow : OpenClaim := { program := "ytbdnlloadmleaaa", sum := "691c39655db3b5e1fb3e3a5968c3312ef42e406aaef9209298b118fd78e24963", func := "loop.example/g00901/laws.FnExactWriteMem", spec := "fnExactWriteMem", apart := false }
def FnExactWriteMemSaid : Prop := fnExactWriteMemRow.holds Try.pinned (OpenSpec.ofChange fnExactWriteMemSpec)

/-- ITS FALSE NEIGHBOUR: 'it returns false'. Refute it at one input. -/
def fnExactWriteMemWrong : ChangeSpec := { name := "fnExactWriteMem", fn := fun _ => fun
  | [d1, d2, d3] => { results := [.lit (.bool false)], args := [d1, d2, d3] }
  | _ => none }
def FnExactWriteMemWrongFalsely : Prop := fnExactWriteMemRow.holds Try.pinned (OpenSpec.ofChange fnExactWriteMemWrong)

/-- 'laws.FnExactAlloc': WHATEVER THE INPUT: true; the input reads as it did. -/
def fnExactAllocSpec : ChangeSpec := { name := "fnExactAlloc", fn := fun _ => fun
  | [d1, d2, d3] => { results := [.lit (.bool true)], args := [d1, d2, d3] }
  | _ => none }
def fnExactAllocRow : OpenClaim := { program := "ytbdnlloadmleaaa", sum := "691c39655db3b5e1fb3e3a5968c3312ef42e406aaef9209298b118fd78e24963", func := "loop.example/g00901/laws.FnExactAlloc", spec := "fnExactAlloc", apart := false }
def FnExactAllocSaid : Prop := fnExactAllocRow.holds Try.pinned (OpenSpec.ofChange fnExactAllocSpec)

/-- ITS FALSE NEIGHBOUR: 'it returns false'. Refute it at one input. -/
def fnExactAllocWrong : ChangeSpec := { name := "fnExactAlloc", fn := fun _ => fun
  | [d1, d2, d3] => { results := [.lit (.bool false)], args := [d1, d2, d3] }
  | _ => none }
def FnExactAllocWrongFalsely : Prop := fnExactAllocRow.holds Try.pinned (OpenSpec.ofChange fnExactAllocWrong)

/-- 'laws.FnExactRelease': WHATEVER THE INPUT: true; the input reads as it did. -/
def fnExactReleaseSpec : ChangeSpec := { name := "fnExactRelease", fn := fun _ => fun
  | [d1, d2, d3] => { results := [.lit (.bool true)], args := [d1, d2, d3] }
  | _ => none }
def fnExactReleaseRow : OpenClaim := { program := "ytbdnlloadmleaaa", sum := "691c39655db3b5e1fb3e3a5968c3312ef42e406aaef9209298b118fd78e24963", func := "loop.example/g00901/laws.FnExactRelease", spec := "fnExactRelease", apart := false }
def FnExactReleaseSaid : Prop := fnExactReleaseRow.holds Try.pinned (OpenSpec.ofChange fnExactReleaseSpec)

/-- ITS FALSE NEIGHBOUR: 'it returns false'. Refute it at one input. -/
def fnExactReleaseWrong : ChangeSpec := { name := "fnExactRelease", fn := fun _ => fun
  | [d1, d2, d3] => { results := [.lit (.bool false)], args := [d1, d2, d3] }
  | _ => none }
def FnExactReleaseWrongFalsely : Prop := fnExactReleaseRow.holds Try.pinned (OpenSpec.ofChange fnExactReleaseWrong)

/-- 'laws.FnExactGrowMem': WHATEVER THE INPUT: true; the input reads as it did. -/
def fnExactGrowMemSpec : ChangeSpec := { name := "fnExactGrowMem", fn := fun _ => fun
  | [d1, d2] => { results := [.lit (.bool true)], args := [d1, d2] }
  | _ => none }
def fnExactGrowMemRow : OpenClaim := { program := "ytbdnlloadmleaaa", sum := "691c39655db3b5e1fb3e3a5968c3312ef42e406aaef9209298b118fd78e24963", func := "loop.example/g00901/laws.FnExactGrowMem", spec := "fnExactGrowMem", inPlace := ["internal/abi.NoEscape", "internal/bytealg.MakeNoZero"], apart := false }
def FnExactGrowMemSaid : Prop := fnExactGrowMemRow.holds Try.pinned (OpenSpec.ofChange fnExactGrowMemSpec)

/-- ITS FALSE NEIGHBOUR: 'it returns false'. Refute it at one input. -/
def fnExactGrowMemWrong : ChangeSpec := { name := "fnExactGrowMem", fn := fun _ => fun
  | [d1, d2] => { results := [.lit (.bool false)], args := [d1, d2] }
  | _ => none }
def FnExactGrowMemWrongFalsely : Prop := fnExactGrowMemRow.holds Try.pinned (OpenSpec.ofChange fnExactGrowMemWrong)

/-- 'laws.FnExactFreeBytes': WHATEVER THE INPUT: true; the input reads as it did. -/
def fnExactFreeBytesSpec : ChangeSpec := { name := "fnExactFreeBytes", fn := fun _ => fun
  | [d] => { results := [.lit (.bool true)], args := [d] }
  | _ => none }
def fnExactFreeBytesRow : OpenClaim := { program := "ytbdnlloadmleaaa", sum := "691c39655db3b5e1fb3e3a5968c3312ef42e406aaef9209298b118fd78e24963", func := "loop.example/g00901/laws.FnExactFreeBytes", spec := "fnExactFreeBytes", apart := false }
def FnExactFreeBytesSaid : Prop := fnExactFreeBytesRow.holds Try.pinned (OpenSpec.ofChange fnExactFreeBytesSpec)

/-- ITS FALSE NEIGHBOUR: 'it returns false'. Refute it at one input. -/
def fnExactFreeBytesWrong : ChangeSpec := { name := "fnExactFreeBytes", fn := fun _ => fun
  | [d] => { results := [.lit (.bool false)], args := [d] }
  | _ => none }
def FnExactFreeBytesWrongFalsely : Prop := fnExactFreeBytesRow.holds Try.pinned (OpenSpec.ofChange fnExactFreeBytesWrong)

/-- 'laws.FnExactNumSize': WHATEVER THE INPUT: true; the input reads as it did. -/
def fnExactNumSizeSpec : ChangeSpec := { name := "fnExactNumSize", fn := fun _ => fun
  | [d] => { results := [.lit (.bool true)], args := [d] }
  | _ => none }
def fnExactNumSizeRow : OpenClaim := { program := "ytbdnlloadmleaaa", sum := "691c39655db3b5e1fb3e3a5968c3312ef42e406aaef9209298b118fd78e24963", func := "loop.example/g00901/laws.FnExactNumSize", spec := "fnExactNumSize", apart := false }
def FnExactNumSizeSaid : Prop := fnExactNumSizeRow.holds Try.pinned (OpenSpec.ofChange fnExactNumSizeSpec)

/-- ITS FALSE NEIGHBOUR: 'it returns false'. Refute it at one input. -/
def fnExactNumSizeWrong : ChangeSpec := { name := "fnExactNumSize", fn := fun _ => fun
  | [d] => { results := [.lit (.bool false)], args := [d] }
  | _ => none }
def FnExactNumSizeWrongFalsely : Prop := fnExactNumSizeRow.holds Try.pinned (OpenSpec.ofChange fnExactNumSizeWrong)

/-- 'laws.FnExactAlignOf': WHATEVER THE INPUT: true; the input reads as it did. -/
def fnExactAlignOfSpec : ChangeSpec := { name := "fnExactAlignOf", fn := fun _ => fun
  | [d] => { results := [.lit (.bool true)], args := [d] }
  | _ => none }
def fnExactAlignOfRow : OpenClaim := { program := "ytbdnlloadmleaaa", sum := "691c39655db3b5e1fb3e3a5968c3312ef42e406aaef9209298b118fd78e24963", func := "loop.example/g00901/laws.FnExactAlignOf", spec := "fnExactAlignOf", unfollowed := true, recurses := true, loops := true, apart := false }
def FnExactAlignOfSaid : Prop := fnExactAlignOfRow.holds Try.pinned (OpenSpec.ofChange fnExactAlignOfSpec)

/-- ITS FALSE NEIGHBOUR: 'it returns false'. Refute it at one input. -/
def fnExactAlignOfWrong : ChangeSpec := { name := "fnExactAlignOf", fn := fun _ => fun
  | [d] => { results := [.lit (.bool false)], args := [d] }
  | _ => none }
def FnExactAlignOfWrongFalsely : Prop := fnExactAlignOfRow.holds Try.pinned (OpenSpec.ofChange fnExactAlignOfWrong)

/-- 'laws.FnExactSizeOf': WHATEVER THE INPUT: true; the input reads as it did. -/
def fnExactSizeOfSpec : ChangeSpec := { name := "fnExactSizeOf", fn := fun _ => fun
  | [d] => { results := [.lit (.bool true)], args := [d] }
  | _ => none }
def fnExactSizeOfRow : OpenClaim := { program := "ytbdnlloadmleaaa", sum := "691c39655db3b5e1fb3e3a5968c3312ef42e406aaef9209298b118fd78e24963", func := "loop.example/g00901/laws.FnExactSizeOf", spec := "fnExactSizeOf", unfollowed := true, recurses := true, loops := true, apart := false }
def FnExactSizeOfSaid : Prop := fnExactSizeOfRow.holds Try.pinned (OpenSpec.ofChange fnExactSizeOfSpec)

/-- ITS FALSE NEIGHBOUR: 'it returns false'. Refute it at one input. -/
def fnExactSizeOfWrong : ChangeSpec := { name := "fnExactSizeOf", fn := fun _ => fun
  | [d] => { results := [.lit (.bool false)], args := [d] }
  | _ => none }
def FnExactSizeOfWrongFalsely : Prop := fnExactSizeOfRow.holds Try.pinned (OpenSpec.ofChange fnExactSizeOfWrong)

/- THE SECOND FORM. 'bulk': how many values and letters a reading holds, each counted each time it is reached (what is shared counts as often as it is met; a slice's spare places count too). A statement '..UptoSaid' is the law's where the arguments, and the package variables that the reading takes, are together of bulk at most 1048576: NARROWER than '..Said'. Prove '..Said' where nothing that the law and all that it calls make is longer than what came in: it says more and counts as full. Else prove '..UptoSaid'. A law counts once. -/
mutual
def uptoBulk {H : Type} : DataW H → Nat
  | .lit (.string bytes) => bytes.length + 1
  | .lit _ => 1
  | .nil => 1
  | .ptr d => uptoBulk d + 1
  | .slice elems spare => uptoBulkAll elems + uptoBulkAll spare + 1
  | .agg parts => uptoBulkAll parts + 1
  | .iface _ d => uptoBulk d + 1
  | .map entries => uptoBulkEntries entries + 1
  | .held _ => 1
def uptoBulkAll {H : Type} : List (DataW H) → Nat
  | [] => 0
  | d :: r => uptoBulk d + uptoBulkAll r
def uptoBulkEntries {H : Type} : List (Lit × DataW H) → Nat
  | [] => 0
  | x :: r => uptoBulkEntry x + uptoBulkEntries r
def uptoBulkEntry {H : Type} : Lit × DataW H → Nat
  | (.string bytes, d) => bytes.length + uptoBulk d + 1
  | (_, d) => uptoBulk d + 1
 end
def uptoSmall : (H : Type) → List (DataW H) → Bool := fun _ ds => decide (uptoBulkAll ds ≤ 1048576)
def OpenSpec.upto (s : _root_.Go.ChangeSpec) : _root_.Go.OpenSpec := { _root_.Go.OpenSpec.ofChange s with cond := some uptoSmall }

/-- 'laws.FnExactMemoryOk', WHERE WHAT IT READS IS OF BULK AT MOST 1048576: true; the input reads as it did. -/
def fnExactMemoryOkUptoRow : OpenClaim := { program := "ytbdnlloadmleaaa", sum := "691c39655db3b5e1fb3e3a5968c3312ef42e406aaef9209298b118fd78e24963", func := "loop.example/g00901/laws.FnExactMemoryOk", spec := "fnExactMemoryOk", apart := false, narrowed := true }
def FnExactMemoryOkUptoSaid : Prop := fnExactMemoryOkUptoRow.holds Try.pinned (OpenSpec.upto fnExactMemoryOkSpec)

/-- 'laws.FnExactSameMemory', WHERE WHAT IT READS IS OF BULK AT MOST 1048576: true; the input reads as it did. -/
def fnExactSameMemoryUptoRow : OpenClaim := { program := "ytbdnlloadmleaaa", sum := "691c39655db3b5e1fb3e3a5968c3312ef42e406aaef9209298b118fd78e24963", func := "loop.example/g00901/laws.FnExactSameMemory", spec := "fnExactSameMemory", apart := false, narrowed := true }
def FnExactSameMemoryUptoSaid : Prop := fnExactSameMemoryUptoRow.holds Try.pinned (OpenSpec.upto fnExactSameMemorySpec)

/-- 'laws.FnExactNewMemory', WHERE WHAT IT READS IS OF BULK AT MOST 1048576: true; the input reads as it did. -/
def fnExactNewMemoryUptoRow : OpenClaim := { program := "ytbdnlloadmleaaa", sum := "691c39655db3b5e1fb3e3a5968c3312ef42e406aaef9209298b118fd78e24963", func := "loop.example/g00901/laws.FnExactNewMemory", spec := "fnExactNewMemory", inPlace := ["internal/abi.NoEscape", "internal/bytealg.MakeNoZero"], apart := false, narrowed := true }
def FnExactNewMemoryUptoSaid : Prop := fnExactNewMemoryUptoRow.holds Try.pinned (OpenSpec.upto fnExactNewMemorySpec)

/-- 'laws.FnExactReadMem', WHERE WHAT IT READS IS OF BULK AT MOST 1048576: true; the input reads as it did. -/
def fnExactReadMemUptoRow : OpenClaim := { program := "ytbdnlloadmleaaa", sum := "691c39655db3b5e1fb3e3a5968c3312ef42e406aaef9209298b118fd78e24963", func := "loop.example/g00901/laws.FnExactReadMem", spec := "fnExactReadMem", apart := false, narrowed := true }
def FnExactReadMemUptoSaid : Prop := fnExactReadMemUptoRow.holds Try.pinned (OpenSpec.upto fnExactReadMemSpec)

/-- 'laws.FnExactWriteMem', WHERE WHAT IT READS IS OF BULK AT MOST 1048576: true; the input reads as it did. -/
def fnExactWriteMemUptoRow : OpenClaim := { program := "ytbdnlloadmleaaa", sum := "691c39655db3b5e1fb3e3a5968c3312ef42e406aaef9209298b118fd78e24963", func := "loop.example/g00901/laws.FnExactWriteMem", spec := "fnExactWriteMem", apart := false, narrowed := true }
def FnExactWriteMemUptoSaid : Prop := fnExactWriteMemUptoRow.holds Try.pinned (OpenSpec.upto fnExactWriteMemSpec)

/-- 'laws.FnExactAlloc', WHERE WHAT IT READS IS OF BULK AT MOST 1048576: true; the input reads as it did. -/
def fnExactAllocUptoRow : OpenClaim := { program := "ytbdnlloadmleaaa", sum := "691c39655db3b5e1fb3e3a5968c3312ef42e406aaef9209298b118fd78e24963", func := "loop.example/g00901/laws.FnExactAlloc", spec := "fnExactAlloc", apart := false, narrowed := true }
def FnExactAllocUptoSaid : Prop := fnExactAllocUptoRow.holds Try.pinned (OpenSpec.upto fnExactAllocSpec)

/-- 'laws.FnExactRelease', WHERE WHAT IT READS IS OF BULK AT MOST 1048576: true; the input reads as it did. -/
def fnExactReleaseUptoRow : OpenClaim := { program := "ytbdnlloadmleaaa", sum := "691c39655db3b5e1fb3e3a5968c3312ef42e406aaef9209298b118fd78e24963", func := "loop.example/g00901/laws.FnExactRelease", spec := "fnExactRelease", apart := false, narrowed := true }
def FnExactReleaseUptoSaid : Prop := fnExactReleaseUptoRow.holds Try.pinned (OpenSpec.upto fnExactReleaseSpec)

/-- 'laws.FnExactGrowMem', WHERE WHAT IT READS IS OF BULK AT MOST 1048576: true; the input reads as it did. -/
def fnExactGrowMemUptoRow : OpenClaim := { program := "ytbdnlloadmleaaa", sum := "691c39655db3b5e1fb3e3a5968c3312ef42e406aaef9209298b118fd78e24963", func := "loop.example/g00901/laws.FnExactGrowMem", spec := "fnExactGrowMem", inPlace := ["internal/abi.NoEscape", "internal/bytealg.MakeNoZero"], apart := false, narrowed := true }
def FnExactGrowMemUptoSaid : Prop := fnExactGrowMemUptoRow.holds Try.pinned (OpenSpec.upto fnExactGrowMemSpec)

/-- 'laws.FnExactFreeBytes', WHERE WHAT IT READS IS OF BULK AT MOST 1048576: true; the input reads as it did. -/
def fnExactFreeBytesUptoRow : OpenClaim := { program := "ytbdnlloadmleaaa", sum := "691c39655db3b5e1fb3e3a5968c3312ef42e406aaef9209298b118fd78e24963", func := "loop.example/g00901/laws.FnExactFreeBytes", spec := "fnExactFreeBytes", apart := false, narrowed := true }
def FnExactFreeBytesUptoSaid : Prop := fnExactFreeBytesUptoRow.holds Try.pinned (OpenSpec.upto fnExactFreeBytesSpec)

/-- 'laws.FnExactNumSize', WHERE WHAT IT READS IS OF BULK AT MOST 1048576: true; the input reads as it did. -/
def fnExactNumSizeUptoRow : OpenClaim := { program := "ytbdnlloadmleaaa", sum := "691c39655db3b5e1fb3e3a5968c3312ef42e406aaef9209298b118fd78e24963", func := "loop.example/g00901/laws.FnExactNumSize", spec := "fnExactNumSize", apart := false, narrowed := true }
def FnExactNumSizeUptoSaid : Prop := fnExactNumSizeUptoRow.holds Try.pinned (OpenSpec.upto fnExactNumSizeSpec)

/-- 'laws.FnExactAlignOf', WHERE WHAT IT READS IS OF BULK AT MOST 1048576: true; the input reads as it did. -/
def fnExactAlignOfUptoRow : OpenClaim := { program := "ytbdnlloadmleaaa", sum := "691c39655db3b5e1fb3e3a5968c3312ef42e406aaef9209298b118fd78e24963", func := "loop.example/g00901/laws.FnExactAlignOf", spec := "fnExactAlignOf", unfollowed := true, recurses := true, loops := true, apart := false, narrowed := true }
def FnExactAlignOfUptoSaid : Prop := fnExactAlignOfUptoRow.holds Try.pinned (OpenSpec.upto fnExactAlignOfSpec)

/-- 'laws.FnExactSizeOf', WHERE WHAT IT READS IS OF BULK AT MOST 1048576: true; the input reads as it did. -/
def fnExactSizeOfUptoRow : OpenClaim := { program := "ytbdnlloadmleaaa", sum := "691c39655db3b5e1fb3e3a5968c3312ef42e406aaef9209298b118fd78e24963", func := "loop.example/g00901/laws.FnExactSizeOf", spec := "fnExactSizeOf", unfollowed := true, recurses := true, loops := true, apart := false, narrowed := true }
def FnExactSizeOfUptoSaid : Prop := fnExactSizeOfUptoRow.holds Try.pinned (OpenSpec.upto fnExactSizeOfSpec)

end Rows
end Go.Proofs.Ytbdnlloadmleaaa
