/-
  NARROWER THAN 'FOR EVERY INPUT', by the rows' own cells (each row's printed sentence says how): FnExactDeepOf: loops · FnExactPartsOf: loops · FnExactHasHandles: loops · FnExactHasBorrow: loops · FnExactResourcesOf: loops · FnExactSizeOf: loops · FnExactAlignOf: loops · FnExactTotalSize: loops · FnExactTotalAlign: loops · FnExactPartsAt: loops · FnExactCaseAt: loops.
  DERIVED. THE GIVEN ROWS OF THIS SEAT. 11 by the template 'for every input the law returns true; each argument reads behind the call as it read before'; 0 by the template 'total and deterministic' (their statements: YtlmmbheamicdaaaTotals.lean).
  GIVEN WITH THE SEED: the statements are not yours to turn. If you find one false, say at which input.
  Laid BY PROGRAM, IN A SANDBOX (cutbox-rows.mjs): the forced cells as the released guide's own fill.sh prints them over the translation 731a1aee243b6f48… (all of the seat's roots in one cut). By AI agents, Wed Nov 11 2026. No macro, syntax, notation, axiom, sorry.
-/
import Derived.Test.YtlmmbheamicdaaaChecked
import GoSem.Claim
import GoSem.ClaimJoined
import GoSem.ClaimMapViews
import Derived.JoinedTies
import Derived.KernelRfl
namespace Go.Proofs.Ytlmmbheamicdaaa
/- THE CELL 'sum', in the pinned program and in every row, IS THE sha256 OF THE DUMP (.gsa) THAT YtlmmbheamicdaaaProg.lean LOADS. Nothing in Lean hashes anything: it is a label: what it is worth is what the hold of that sum in a sandbox is worth. -/
noncomputable def Try.pinned : Pinned := { name := "ytlmmbheamicdaaa", sum := "731a1aee243b6f48f2df7de13c28bdb90c86e1de545dad572a7073284f787de8", checked := Try.checked }
namespace Rows
def none {H : Type} : Left H := { results := [], args := [] }

/-- 'laws.FnExactDeepOf': WHATEVER THE INPUT: true; the input reads as it did. -/
def fnExactDeepOfSpec : ChangeSpec := { name := "fnExactDeepOf", fn := fun _ => fun
  | [d] => { results := [.lit (.bool true)], args := [d] }
  | _ => none }
def fnExactDeepOfRow : OpenClaim := { program := "ytlmmbheamicdaaa", sum := "731a1aee243b6f48f2df7de13c28bdb90c86e1de545dad572a7073284f787de8", func := "loop.example/g00901/laws.FnExactDeepOf", spec := "fnExactDeepOf", unfollowed := true, recurses := true, loops := true, apart := false }
def FnExactDeepOfSaid : Prop := fnExactDeepOfRow.holds Try.pinned (OpenSpec.ofChange fnExactDeepOfSpec)

/-- ITS FALSE NEIGHBOUR: 'it returns false'. Refute it at one input. -/
def fnExactDeepOfWrong : ChangeSpec := { name := "fnExactDeepOf", fn := fun _ => fun
  | [d] => { results := [.lit (.bool false)], args := [d] }
  | _ => none }
def FnExactDeepOfWrongFalsely : Prop := fnExactDeepOfRow.holds Try.pinned (OpenSpec.ofChange fnExactDeepOfWrong)

/-- 'laws.FnExactPartsOf': WHATEVER THE INPUT: true; the input reads as it did. -/
def fnExactPartsOfSpec : ChangeSpec := { name := "fnExactPartsOf", fn := fun _ => fun
  | [d] => { results := [.lit (.bool true)], args := [d] }
  | _ => none }
def fnExactPartsOfRow : OpenClaim := { program := "ytlmmbheamicdaaa", sum := "731a1aee243b6f48f2df7de13c28bdb90c86e1de545dad572a7073284f787de8", func := "loop.example/g00901/laws.FnExactPartsOf", spec := "fnExactPartsOf", unfollowed := true, recurses := true, loops := true, apart := false }
def FnExactPartsOfSaid : Prop := fnExactPartsOfRow.holds Try.pinned (OpenSpec.ofChange fnExactPartsOfSpec)

/-- ITS FALSE NEIGHBOUR: 'it returns false'. Refute it at one input. -/
def fnExactPartsOfWrong : ChangeSpec := { name := "fnExactPartsOf", fn := fun _ => fun
  | [d] => { results := [.lit (.bool false)], args := [d] }
  | _ => none }
def FnExactPartsOfWrongFalsely : Prop := fnExactPartsOfRow.holds Try.pinned (OpenSpec.ofChange fnExactPartsOfWrong)

/-- 'laws.FnExactHasHandles': WHATEVER THE INPUT: true; the input reads as it did. -/
def fnExactHasHandlesSpec : ChangeSpec := { name := "fnExactHasHandles", fn := fun _ => fun
  | [d] => { results := [.lit (.bool true)], args := [d] }
  | _ => none }
def fnExactHasHandlesRow : OpenClaim := { program := "ytlmmbheamicdaaa", sum := "731a1aee243b6f48f2df7de13c28bdb90c86e1de545dad572a7073284f787de8", func := "loop.example/g00901/laws.FnExactHasHandles", spec := "fnExactHasHandles", unfollowed := true, recurses := true, loops := true, apart := false }
def FnExactHasHandlesSaid : Prop := fnExactHasHandlesRow.holds Try.pinned (OpenSpec.ofChange fnExactHasHandlesSpec)

/-- ITS FALSE NEIGHBOUR: 'it returns false'. Refute it at one input. -/
def fnExactHasHandlesWrong : ChangeSpec := { name := "fnExactHasHandles", fn := fun _ => fun
  | [d] => { results := [.lit (.bool false)], args := [d] }
  | _ => none }
def FnExactHasHandlesWrongFalsely : Prop := fnExactHasHandlesRow.holds Try.pinned (OpenSpec.ofChange fnExactHasHandlesWrong)

/-- 'laws.FnExactHasBorrow': WHATEVER THE INPUT: true; the input reads as it did. -/
def fnExactHasBorrowSpec : ChangeSpec := { name := "fnExactHasBorrow", fn := fun _ => fun
  | [d] => { results := [.lit (.bool true)], args := [d] }
  | _ => none }
def fnExactHasBorrowRow : OpenClaim := { program := "ytlmmbheamicdaaa", sum := "731a1aee243b6f48f2df7de13c28bdb90c86e1de545dad572a7073284f787de8", func := "loop.example/g00901/laws.FnExactHasBorrow", spec := "fnExactHasBorrow", unfollowed := true, recurses := true, loops := true, apart := false }
def FnExactHasBorrowSaid : Prop := fnExactHasBorrowRow.holds Try.pinned (OpenSpec.ofChange fnExactHasBorrowSpec)

/-- ITS FALSE NEIGHBOUR: 'it returns false'. Refute it at one input. -/
def fnExactHasBorrowWrong : ChangeSpec := { name := "fnExactHasBorrow", fn := fun _ => fun
  | [d] => { results := [.lit (.bool false)], args := [d] }
  | _ => none }
def FnExactHasBorrowWrongFalsely : Prop := fnExactHasBorrowRow.holds Try.pinned (OpenSpec.ofChange fnExactHasBorrowWrong)

/-- 'laws.FnExactResourcesOf': WHATEVER THE INPUT: true; the input reads as it did. -/
def fnExactResourcesOfSpec : ChangeSpec := { name := "fnExactResourcesOf", fn := fun _ => fun
  | [d] => { results := [.lit (.bool true)], args := [d] }
  | _ => none }
def fnExactResourcesOfRow : OpenClaim := { program := "ytlmmbheamicdaaa", sum := "731a1aee243b6f48f2df7de13c28bdb90c86e1de545dad572a7073284f787de8", func := "loop.example/g00901/laws.FnExactResourcesOf", spec := "fnExactResourcesOf", unfollowed := true, recurses := true, loops := true, apart := false }
def FnExactResourcesOfSaid : Prop := fnExactResourcesOfRow.holds Try.pinned (OpenSpec.ofChange fnExactResourcesOfSpec)

/-- ITS FALSE NEIGHBOUR: 'it returns false'. Refute it at one input. -/
def fnExactResourcesOfWrong : ChangeSpec := { name := "fnExactResourcesOf", fn := fun _ => fun
  | [d] => { results := [.lit (.bool false)], args := [d] }
  | _ => none }
def FnExactResourcesOfWrongFalsely : Prop := fnExactResourcesOfRow.holds Try.pinned (OpenSpec.ofChange fnExactResourcesOfWrong)

/-- 'laws.FnExactSizeOf': WHATEVER THE INPUT: true; the input reads as it did. -/
def fnExactSizeOfSpec : ChangeSpec := { name := "fnExactSizeOf", fn := fun _ => fun
  | [d] => { results := [.lit (.bool true)], args := [d] }
  | _ => none }
def fnExactSizeOfRow : OpenClaim := { program := "ytlmmbheamicdaaa", sum := "731a1aee243b6f48f2df7de13c28bdb90c86e1de545dad572a7073284f787de8", func := "loop.example/g00901/laws.FnExactSizeOf", spec := "fnExactSizeOf", unfollowed := true, recurses := true, loops := true, apart := false }
def FnExactSizeOfSaid : Prop := fnExactSizeOfRow.holds Try.pinned (OpenSpec.ofChange fnExactSizeOfSpec)

/-- ITS FALSE NEIGHBOUR: 'it returns false'. Refute it at one input. -/
def fnExactSizeOfWrong : ChangeSpec := { name := "fnExactSizeOf", fn := fun _ => fun
  | [d] => { results := [.lit (.bool false)], args := [d] }
  | _ => none }
def FnExactSizeOfWrongFalsely : Prop := fnExactSizeOfRow.holds Try.pinned (OpenSpec.ofChange fnExactSizeOfWrong)

/-- 'laws.FnExactAlignOf': WHATEVER THE INPUT: true; the input reads as it did. -/
def fnExactAlignOfSpec : ChangeSpec := { name := "fnExactAlignOf", fn := fun _ => fun
  | [d] => { results := [.lit (.bool true)], args := [d] }
  | _ => none }
def fnExactAlignOfRow : OpenClaim := { program := "ytlmmbheamicdaaa", sum := "731a1aee243b6f48f2df7de13c28bdb90c86e1de545dad572a7073284f787de8", func := "loop.example/g00901/laws.FnExactAlignOf", spec := "fnExactAlignOf", unfollowed := true, recurses := true, loops := true, apart := false }
def FnExactAlignOfSaid : Prop := fnExactAlignOfRow.holds Try.pinned (OpenSpec.ofChange fnExactAlignOfSpec)

/-- ITS FALSE NEIGHBOUR: 'it returns false'. Refute it at one input. -/
def fnExactAlignOfWrong : ChangeSpec := { name := "fnExactAlignOf", fn := fun _ => fun
  | [d] => { results := [.lit (.bool false)], args := [d] }
  | _ => none }
def FnExactAlignOfWrongFalsely : Prop := fnExactAlignOfRow.holds Try.pinned (OpenSpec.ofChange fnExactAlignOfWrong)

/-- 'laws.FnExactTotalSize': WHATEVER THE INPUT: true; the input reads as it did. -/
def fnExactTotalSizeSpec : ChangeSpec := { name := "fnExactTotalSize", fn := fun _ => fun
  | [d] => { results := [.lit (.bool true)], args := [d] }
  | _ => none }
def fnExactTotalSizeRow : OpenClaim := { program := "ytlmmbheamicdaaa", sum := "731a1aee243b6f48f2df7de13c28bdb90c86e1de545dad572a7073284f787de8", func := "loop.example/g00901/laws.FnExactTotalSize", spec := "fnExactTotalSize", unfollowed := true, recurses := true, loops := true, apart := false }
def FnExactTotalSizeSaid : Prop := fnExactTotalSizeRow.holds Try.pinned (OpenSpec.ofChange fnExactTotalSizeSpec)

/-- ITS FALSE NEIGHBOUR: 'it returns false'. Refute it at one input. -/
def fnExactTotalSizeWrong : ChangeSpec := { name := "fnExactTotalSize", fn := fun _ => fun
  | [d] => { results := [.lit (.bool false)], args := [d] }
  | _ => none }
def FnExactTotalSizeWrongFalsely : Prop := fnExactTotalSizeRow.holds Try.pinned (OpenSpec.ofChange fnExactTotalSizeWrong)

/-- 'laws.FnExactTotalAlign': WHATEVER THE INPUT: true; the input reads as it did. -/
def fnExactTotalAlignSpec : ChangeSpec := { name := "fnExactTotalAlign", fn := fun _ => fun
  | [d] => { results := [.lit (.bool true)], args := [d] }
  | _ => none }
def fnExactTotalAlignRow : OpenClaim := { program := "ytlmmbheamicdaaa", sum := "731a1aee243b6f48f2df7de13c28bdb90c86e1de545dad572a7073284f787de8", func := "loop.example/g00901/laws.FnExactTotalAlign", spec := "fnExactTotalAlign", unfollowed := true, recurses := true, loops := true, apart := false }
def FnExactTotalAlignSaid : Prop := fnExactTotalAlignRow.holds Try.pinned (OpenSpec.ofChange fnExactTotalAlignSpec)

/-- ITS FALSE NEIGHBOUR: 'it returns false'. Refute it at one input. -/
def fnExactTotalAlignWrong : ChangeSpec := { name := "fnExactTotalAlign", fn := fun _ => fun
  | [d] => { results := [.lit (.bool false)], args := [d] }
  | _ => none }
def FnExactTotalAlignWrongFalsely : Prop := fnExactTotalAlignRow.holds Try.pinned (OpenSpec.ofChange fnExactTotalAlignWrong)

/-- 'laws.FnExactPartsAt': WHATEVER THE INPUT: true; the input reads as it did. -/
def fnExactPartsAtSpec : ChangeSpec := { name := "fnExactPartsAt", fn := fun _ => fun
  | [d] => { results := [.lit (.bool true)], args := [d] }
  | _ => none }
def fnExactPartsAtRow : OpenClaim := { program := "ytlmmbheamicdaaa", sum := "731a1aee243b6f48f2df7de13c28bdb90c86e1de545dad572a7073284f787de8", func := "loop.example/g00901/laws.FnExactPartsAt", spec := "fnExactPartsAt", unfollowed := true, recurses := true, loops := true, apart := false }
def FnExactPartsAtSaid : Prop := fnExactPartsAtRow.holds Try.pinned (OpenSpec.ofChange fnExactPartsAtSpec)

/-- ITS FALSE NEIGHBOUR: 'it returns false'. Refute it at one input. -/
def fnExactPartsAtWrong : ChangeSpec := { name := "fnExactPartsAt", fn := fun _ => fun
  | [d] => { results := [.lit (.bool false)], args := [d] }
  | _ => none }
def FnExactPartsAtWrongFalsely : Prop := fnExactPartsAtRow.holds Try.pinned (OpenSpec.ofChange fnExactPartsAtWrong)

/-- 'laws.FnExactCaseAt': WHATEVER THE INPUT: true; the input reads as it did. -/
def fnExactCaseAtSpec : ChangeSpec := { name := "fnExactCaseAt", fn := fun _ => fun
  | [d] => { results := [.lit (.bool true)], args := [d] }
  | _ => none }
def fnExactCaseAtRow : OpenClaim := { program := "ytlmmbheamicdaaa", sum := "731a1aee243b6f48f2df7de13c28bdb90c86e1de545dad572a7073284f787de8", func := "loop.example/g00901/laws.FnExactCaseAt", spec := "fnExactCaseAt", unfollowed := true, recurses := true, loops := true, apart := false }
def FnExactCaseAtSaid : Prop := fnExactCaseAtRow.holds Try.pinned (OpenSpec.ofChange fnExactCaseAtSpec)

/-- ITS FALSE NEIGHBOUR: 'it returns false'. Refute it at one input. -/
def fnExactCaseAtWrong : ChangeSpec := { name := "fnExactCaseAt", fn := fun _ => fun
  | [d] => { results := [.lit (.bool false)], args := [d] }
  | _ => none }
def FnExactCaseAtWrongFalsely : Prop := fnExactCaseAtRow.holds Try.pinned (OpenSpec.ofChange fnExactCaseAtWrong)

/- THE SECOND FORM. 'bulk': how many values and letters a reading holds, each counted each time it is reached (what is shared counts as often as it is met; a slice's spare places count too). A statement '..UptoSaid' is the law's where the arguments, and the package variables that the reading takes, are together of bulk at most 1048576: NARROWER than '..Said'. Prove '..Said' where nothing that the law and all that it calls make is longer than what came in: it says more and counts as full. Else prove '..UptoSaid'. A law counts once. -/
mutual
def uptoBulk {H : Type} : DataW H → Nat
  | .lit (.string bytes) => bytes.length + 1
  | .lit _ => 1
  | .nil => 1
  | .ptr d => uptoBulk d + 1
  | .slice elems spare => uptoBulkAll elems + uptoBulkAll spare + 1
  | .agg parts => uptoBulkAll parts + 1
  | .iface _ d => uptoBulk d + 1
  | .map entries => uptoBulkEntries entries + 1
  | .held _ => 1
def uptoBulkAll {H : Type} : List (DataW H) → Nat
  | [] => 0
  | d :: r => uptoBulk d + uptoBulkAll r
def uptoBulkEntries {H : Type} : List (Lit × DataW H) → Nat
  | [] => 0
  | x :: r => uptoBulkEntry x + uptoBulkEntries r
def uptoBulkEntry {H : Type} : Lit × DataW H → Nat
  | (.string bytes, d) => bytes.length + uptoBulk d + 1
  | (_, d) => uptoBulk d + 1
 end
def uptoSmall : (H : Type) → List (DataW H) → Bool := fun _ ds => decide (uptoBulkAll ds ≤ 1048576)
def OpenSpec.upto (s : _root_.Go.ChangeSpec) : _root_.Go.OpenSpec := { _root_.Go.OpenSpec.ofChange s with cond := some uptoSmall }

/-- 'laws.FnExactDeepOf', WHERE WHAT IT READS IS OF BULK AT MOST 1048576: true; the input reads as it did. -/
def fnExactDeepOfUptoRow : OpenClaim := { program := "ytlmmbheamicdaaa", sum := "731a1aee243b6f48f2df7de13c28bdb90c86e1de545dad572a7073284f787de8", func := "loop.example/g00901/laws.FnExactDeepOf", spec := "fnExactDeepOf", unfollowed := true, recurses := true, loops := true, apart := false, narrowed := true }
def FnExactDeepOfUptoSaid : Prop := fnExactDeepOfUptoRow.holds Try.pinned (OpenSpec.upto fnExactDeepOfSpec)

/-- 'laws.FnExactPartsOf', WHERE WHAT IT READS IS OF BULK AT MOST 1048576: true; the input reads as it did. -/
def fnExactPartsOfUptoRow : OpenClaim := { program := "ytlmmbheamicdaaa", sum := "731a1aee243b6f48f2df7de13c28bdb90c86e1de545dad572a7073284f787de8", func := "loop.example/g00901/laws.FnExactPartsOf", spec := "fnExactPartsOf", unfollowed := true, recurses := true, loops := true, apart := false, narrowed := true }
def FnExactPartsOfUptoSaid : Prop := fnExactPartsOfUptoRow.holds Try.pinned (OpenSpec.upto fnExactPartsOfSpec)

/-- 'laws.FnExactHasHandles', WHERE WHAT IT READS IS OF BULK AT MOST 1048576: true; the input reads as it did. -/
def fnExactHasHandlesUptoRow : OpenClaim := { program := "ytlmmbheamicdaaa", sum := "731a1aee243b6f48f2df7de13c28bdb90c86e1de545dad572a7073284f787de8", func := "loop.example/g00901/laws.FnExactHasHandles", spec := "fnExactHasHandles", unfollowed := true, recurses := true, loops := true, apart := false, narrowed := true }
def FnExactHasHandlesUptoSaid : Prop := fnExactHasHandlesUptoRow.holds Try.pinned (OpenSpec.upto fnExactHasHandlesSpec)

/-- 'laws.FnExactHasBorrow', WHERE WHAT IT READS IS OF BULK AT MOST 1048576: true; the input reads as it did. -/
def fnExactHasBorrowUptoRow : OpenClaim := { program := "ytlmmbheamicdaaa", sum := "731a1aee243b6f48f2df7de13c28bdb90c86e1de545dad572a7073284f787de8", func := "loop.example/g00901/laws.FnExactHasBorrow", spec := "fnExactHasBorrow", unfollowed := true, recurses := true, loops := true, apart := false, narrowed := true }
def FnExactHasBorrowUptoSaid : Prop := fnExactHasBorrowUptoRow.holds Try.pinned (OpenSpec.upto fnExactHasBorrowSpec)

/-- 'laws.FnExactResourcesOf', WHERE WHAT IT READS IS OF BULK AT MOST 1048576: true; the input reads as it did. -/
def fnExactResourcesOfUptoRow : OpenClaim := { program := "ytlmmbheamicdaaa", sum := "731a1aee243b6f48f2df7de13c28bdb90c86e1de545dad572a7073284f787de8", func := "loop.example/g00901/laws.FnExactResourcesOf", spec := "fnExactResourcesOf", unfollowed := true, recurses := true, loops := true, apart := false, narrowed := true }
def FnExactResourcesOfUptoSaid : Prop := fnExactResourcesOfUptoRow.holds Try.pinned (OpenSpec.upto fnExactResourcesOfSpec)

/-- 'laws.FnExactSizeOf', WHERE WHAT IT READS IS OF BULK AT MOST 1048576: true; the input reads as it did. -/
def fnExactSizeOfUptoRow : OpenClaim := { program := "ytlmmbheamicdaaa", sum := "731a1aee243b6f48f2df7de13c28bdb90c86e1de545dad572a7073284f787de8", func := "loop.example/g00901/laws.FnExactSizeOf", spec := "fnExactSizeOf", unfollowed := true, recurses := true, loops := true, apart := false, narrowed := true }
def FnExactSizeOfUptoSaid : Prop := fnExactSizeOfUptoRow.holds Try.pinned (OpenSpec.upto fnExactSizeOfSpec)

/-- 'laws.FnExactAlignOf', WHERE WHAT IT READS IS OF BULK AT MOST 1048576: true; the input reads as it did. -/
def fnExactAlignOfUptoRow : OpenClaim := { program := "ytlmmbheamicdaaa", sum := "731a1aee243b6f48f2df7de13c28bdb90c86e1de545dad572a7073284f787de8", func := "loop.example/g00901/laws.FnExactAlignOf", spec := "fnExactAlignOf", unfollowed := true, recurses := true, loops := true, apart := false, narrowed := true }
def FnExactAlignOfUptoSaid : Prop := fnExactAlignOfUptoRow.holds Try.pinned (OpenSpec.upto fnExactAlignOfSpec)

/-- 'laws.FnExactTotalSize', WHERE WHAT IT READS IS OF BULK AT MOST 1048576: true; the input reads as it did. -/
def fnExactTotalSizeUptoRow : OpenClaim := { program := "ytlmmbheamicdaaa", sum := "731a1aee243b6f48f2df7de13c28bdb90c86e1de545dad572a7073284f787de8", func := "loop.example/g00901/laws.FnExactTotalSize", spec := "fnExactTotalSize", unfollowed := true, recurses := true, loops := true, apart := false, narrowed := true }
def FnExactTotalSizeUptoSaid : Prop := fnExactTotalSizeUptoRow.holds Try.pinned (OpenSpec.upto fnExactTotalSizeSpec)

/-- 'laws.FnExactTotalAlign', WHERE WHAT IT READS IS OF BULK AT MOST 1048576: true; the input reads as it did. -/
def fnExactTotalAlignUptoRow : OpenClaim := { program := "ytlmmbheamicdaaa", sum := "731a1aee243b6f48f2df7de13c28bdb90c86e1de545dad572a7073284f787de8", func := "loop.example/g00901/laws.FnExactTotalAlign", spec := "fnExactTotalAlign", unfollowed := true, recurses := true, loops := true, apart := false, narrowed := true }
def FnExactTotalAlignUptoSaid : Prop := fnExactTotalAlignUptoRow.holds Try.pinned (OpenSpec.upto fnExactTotalAlignSpec)

/-- 'laws.FnExactPartsAt', WHERE WHAT IT READS IS OF BULK AT MOST 1048576: true; the input reads as it did. -/
def fnExactPartsAtUptoRow : OpenClaim := { program := "ytlmmbheamicdaaa", sum := "731a1aee243b6f48f2df7de13c28bdb90c86e1de545dad572a7073284f787de8", func := "loop.example/g00901/laws.FnExactPartsAt", spec := "fnExactPartsAt", unfollowed := true, recurses := true, loops := true, apart := false, narrowed := true }
def FnExactPartsAtUptoSaid : Prop := fnExactPartsAtUptoRow.holds Try.pinned (OpenSpec.upto fnExactPartsAtSpec)

/-- 'laws.FnExactCaseAt', WHERE WHAT IT READS IS OF BULK AT MOST 1048576: true; the input reads as it did. -/
def fnExactCaseAtUptoRow : OpenClaim := { program := "ytlmmbheamicdaaa", sum := "731a1aee243b6f48f2df7de13c28bdb90c86e1de545dad572a7073284f787de8", func := "loop.example/g00901/laws.FnExactCaseAt", spec := "fnExactCaseAt", unfollowed := true, recurses := true, loops := true, apart := false, narrowed := true }
def FnExactCaseAtUptoSaid : Prop := fnExactCaseAtUptoRow.holds Try.pinned (OpenSpec.upto fnExactCaseAtSpec)

end Rows
end Go.Proofs.Ytlmmbheamicdaaa
