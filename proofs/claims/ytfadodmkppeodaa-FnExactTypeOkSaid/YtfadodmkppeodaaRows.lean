/-
  NARROWER THAN 'FOR EVERY INPUT', by the rows' own cells (each row's printed sentence says how): FnExactTypeOk: loops · FnExactDeepOf: loops · FnExactHasBorrow: loops · FnExactHasHandles: loops · FnExactPartsOf: loops · FnExactSameType: loops · FnExactSameFunc: loops · FnExactSameFace: loops · FnExactResourcesOf: loops.
  DERIVED. THE GIVEN ROWS OF THIS SEAT. 10 by the template 'for every input the law returns true; each argument reads behind the call as it read before'; 0 by the template 'total and deterministic' (their statements: YtfadodmkppeodaaTotals.lean).
  GIVEN WITH THE SEED: the statements are not yours to turn. If you find one false, say at which input.
  Laid BY PROGRAM, IN A SANDBOX (cutbox-rows.mjs): the forced cells as the released guide's own fill.sh prints them over the translation a4d852d3cdba1142… (all of the seat's roots in one cut). By AI agents, Wed Nov 11 2026. No macro, syntax, notation, axiom, sorry.
-/
import Derived.Test.YtfadodmkppeodaaChecked
import GoSem.Claim
import GoSem.ClaimJoined
import GoSem.ClaimMapViews
import Derived.JoinedTies
import Derived.KernelRfl
namespace Go.Proofs.Ytfadodmkppeodaa
/- THE CELL 'sum', in the pinned program and in every row, IS THE sha256 OF THE DUMP (.gsa) THAT YtfadodmkppeodaaProg.lean LOADS. Nothing in Lean hashes anything: it is a label: what it is worth is what the hold of that sum in a sandbox is worth. -/
noncomputable def Try.pinned : Pinned := { name := "ytfadodmkppeodaa", sum := "a4d852d3cdba114210bb0d6f74f7a073c7fb7a901b3d80d007850ddd6b01bb0f", checked := Try.checked }
namespace Rows
def none {H : Type} : Left H := { results := [], args := [] }

/-- 'laws.FnExactTypeOk': WHATEVER THE INPUT: true; the input reads as it did. -/
def fnExactTypeOkSpec : ChangeSpec := { name := "fnExactTypeOk", fn := fun _ => fun
  | [d] => { results := [.lit (.bool true)], args := [d] }
  | _ => none }
def fnExactTypeOkRow : OpenClaim := { program := "ytfadodmkppeodaa", sum := "a4d852d3cdba114210bb0d6f74f7a073c7fb7a901b3d80d007850ddd6b01bb0f", func := "loop.example/g00901/laws.FnExactTypeOk", spec := "fnExactTypeOk", unfollowed := true, recurses := true, loops := true, plainKeys := false, apart := false }
def FnExactTypeOkSaid : Prop := fnExactTypeOkRow.holds Try.pinned (OpenSpec.ofChange fnExactTypeOkSpec)

/-- ITS FALSE NEIGHBOUR: 'it returns false'. Refute it at one input. -/
def fnExactTypeOkWrong : ChangeSpec := { name := "fnExactTypeOk", fn := fun _ => fun
  | [d] => { results := [.lit (.bool false)], args := [d] }
  | _ => none }
def FnExactTypeOkWrongFalsely : Prop := fnExactTypeOkRow.holds Try.pinned (OpenSpec.ofChange fnExactTypeOkWrong)

/-- 'laws.FnExactDeepOf': WHATEVER THE INPUT: true; the input reads as it did. -/
def fnExactDeepOfSpec : ChangeSpec := { name := "fnExactDeepOf", fn := fun _ => fun
  | [d] => { results := [.lit (.bool true)], args := [d] }
  | _ => none }
def fnExactDeepOfRow : OpenClaim := { program := "ytfadodmkppeodaa", sum := "a4d852d3cdba114210bb0d6f74f7a073c7fb7a901b3d80d007850ddd6b01bb0f", func := "loop.example/g00901/laws.FnExactDeepOf", spec := "fnExactDeepOf", unfollowed := true, recurses := true, loops := true, plainKeys := false, apart := false }
def FnExactDeepOfSaid : Prop := fnExactDeepOfRow.holds Try.pinned (OpenSpec.ofChange fnExactDeepOfSpec)

/-- ITS FALSE NEIGHBOUR: 'it returns false'. Refute it at one input. -/
def fnExactDeepOfWrong : ChangeSpec := { name := "fnExactDeepOf", fn := fun _ => fun
  | [d] => { results := [.lit (.bool false)], args := [d] }
  | _ => none }
def FnExactDeepOfWrongFalsely : Prop := fnExactDeepOfRow.holds Try.pinned (OpenSpec.ofChange fnExactDeepOfWrong)

/-- 'laws.FnExactHasBorrow': WHATEVER THE INPUT: true; the input reads as it did. -/
def fnExactHasBorrowSpec : ChangeSpec := { name := "fnExactHasBorrow", fn := fun _ => fun
  | [d] => { results := [.lit (.bool true)], args := [d] }
  | _ => none }
def fnExactHasBorrowRow : OpenClaim := { program := "ytfadodmkppeodaa", sum := "a4d852d3cdba114210bb0d6f74f7a073c7fb7a901b3d80d007850ddd6b01bb0f", func := "loop.example/g00901/laws.FnExactHasBorrow", spec := "fnExactHasBorrow", unfollowed := true, recurses := true, loops := true, plainKeys := false, apart := false }
def FnExactHasBorrowSaid : Prop := fnExactHasBorrowRow.holds Try.pinned (OpenSpec.ofChange fnExactHasBorrowSpec)

/-- ITS FALSE NEIGHBOUR: 'it returns false'. Refute it at one input. -/
def fnExactHasBorrowWrong : ChangeSpec := { name := "fnExactHasBorrow", fn := fun _ => fun
  | [d] => { results := [.lit (.bool false)], args := [d] }
  | _ => none }
def FnExactHasBorrowWrongFalsely : Prop := fnExactHasBorrowRow.holds Try.pinned (OpenSpec.ofChange fnExactHasBorrowWrong)

/-- 'laws.FnExactHasHandles': WHATEVER THE INPUT: true; the input reads as it did. -/
def fnExactHasHandlesSpec : ChangeSpec := { name := "fnExactHasHandles", fn := fun _ => fun
  | [d] => { results := [.lit (.bool true)], args := [d] }
  | _ => none }
def fnExactHasHandlesRow : OpenClaim := { program := "ytfadodmkppeodaa", sum := "a4d852d3cdba114210bb0d6f74f7a073c7fb7a901b3d80d007850ddd6b01bb0f", func := "loop.example/g00901/laws.FnExactHasHandles", spec := "fnExactHasHandles", unfollowed := true, recurses := true, loops := true, plainKeys := false, apart := false }
def FnExactHasHandlesSaid : Prop := fnExactHasHandlesRow.holds Try.pinned (OpenSpec.ofChange fnExactHasHandlesSpec)

/-- ITS FALSE NEIGHBOUR: 'it returns false'. Refute it at one input. -/
def fnExactHasHandlesWrong : ChangeSpec := { name := "fnExactHasHandles", fn := fun _ => fun
  | [d] => { results := [.lit (.bool false)], args := [d] }
  | _ => none }
def FnExactHasHandlesWrongFalsely : Prop := fnExactHasHandlesRow.holds Try.pinned (OpenSpec.ofChange fnExactHasHandlesWrong)

/-- 'laws.FnExactPartsOf': WHATEVER THE INPUT: true; the input reads as it did. -/
def fnExactPartsOfSpec : ChangeSpec := { name := "fnExactPartsOf", fn := fun _ => fun
  | [d] => { results := [.lit (.bool true)], args := [d] }
  | _ => none }
def fnExactPartsOfRow : OpenClaim := { program := "ytfadodmkppeodaa", sum := "a4d852d3cdba114210bb0d6f74f7a073c7fb7a901b3d80d007850ddd6b01bb0f", func := "loop.example/g00901/laws.FnExactPartsOf", spec := "fnExactPartsOf", unfollowed := true, recurses := true, loops := true, plainKeys := false, apart := false }
def FnExactPartsOfSaid : Prop := fnExactPartsOfRow.holds Try.pinned (OpenSpec.ofChange fnExactPartsOfSpec)

/-- ITS FALSE NEIGHBOUR: 'it returns false'. Refute it at one input. -/
def fnExactPartsOfWrong : ChangeSpec := { name := "fnExactPartsOf", fn := fun _ => fun
  | [d] => { results := [.lit (.bool false)], args := [d] }
  | _ => none }
def FnExactPartsOfWrongFalsely : Prop := fnExactPartsOfRow.holds Try.pinned (OpenSpec.ofChange fnExactPartsOfWrong)

/-- 'laws.FnExactSameType': WHATEVER THE INPUT: true; the input reads as it did. -/
def fnExactSameTypeSpec : ChangeSpec := { name := "fnExactSameType", fn := fun _ => fun
  | [d1, d2] => { results := [.lit (.bool true)], args := [d1, d2] }
  | _ => none }
def fnExactSameTypeRow : OpenClaim := { program := "ytfadodmkppeodaa", sum := "a4d852d3cdba114210bb0d6f74f7a073c7fb7a901b3d80d007850ddd6b01bb0f", func := "loop.example/g00901/laws.FnExactSameType", spec := "fnExactSameType", recurses := true, loops := true, plainKeys := false, apart := false }
def FnExactSameTypeSaid : Prop := fnExactSameTypeRow.holds Try.pinned (OpenSpec.ofChange fnExactSameTypeSpec)

/-- ITS FALSE NEIGHBOUR: 'it returns false'. Refute it at one input. -/
def fnExactSameTypeWrong : ChangeSpec := { name := "fnExactSameType", fn := fun _ => fun
  | [d1, d2] => { results := [.lit (.bool false)], args := [d1, d2] }
  | _ => none }
def FnExactSameTypeWrongFalsely : Prop := fnExactSameTypeRow.holds Try.pinned (OpenSpec.ofChange fnExactSameTypeWrong)

/-- 'laws.FnExactSameFunc': WHATEVER THE INPUT: true; the input reads as it did. -/
def fnExactSameFuncSpec : ChangeSpec := { name := "fnExactSameFunc", fn := fun _ => fun
  | [d1, d2] => { results := [.lit (.bool true)], args := [d1, d2] }
  | _ => none }
def fnExactSameFuncRow : OpenClaim := { program := "ytfadodmkppeodaa", sum := "a4d852d3cdba114210bb0d6f74f7a073c7fb7a901b3d80d007850ddd6b01bb0f", func := "loop.example/g00901/laws.FnExactSameFunc", spec := "fnExactSameFunc", unfollowed := true, recurses := true, loops := true, plainKeys := false, apart := false }
def FnExactSameFuncSaid : Prop := fnExactSameFuncRow.holds Try.pinned (OpenSpec.ofChange fnExactSameFuncSpec)

/-- ITS FALSE NEIGHBOUR: 'it returns false'. Refute it at one input. -/
def fnExactSameFuncWrong : ChangeSpec := { name := "fnExactSameFunc", fn := fun _ => fun
  | [d1, d2] => { results := [.lit (.bool false)], args := [d1, d2] }
  | _ => none }
def FnExactSameFuncWrongFalsely : Prop := fnExactSameFuncRow.holds Try.pinned (OpenSpec.ofChange fnExactSameFuncWrong)

/-- 'laws.FnExactSameFace': WHATEVER THE INPUT: true; the input reads as it did. -/
def fnExactSameFaceSpec : ChangeSpec := { name := "fnExactSameFace", fn := fun _ => fun
  | [d1, d2] => { results := [.lit (.bool true)], args := [d1, d2] }
  | _ => none }
def fnExactSameFaceRow : OpenClaim := { program := "ytfadodmkppeodaa", sum := "a4d852d3cdba114210bb0d6f74f7a073c7fb7a901b3d80d007850ddd6b01bb0f", func := "loop.example/g00901/laws.FnExactSameFace", spec := "fnExactSameFace", unfollowed := true, recurses := true, loops := true, plainKeys := false, apart := false }
def FnExactSameFaceSaid : Prop := fnExactSameFaceRow.holds Try.pinned (OpenSpec.ofChange fnExactSameFaceSpec)

/-- ITS FALSE NEIGHBOUR: 'it returns false'. Refute it at one input. -/
def fnExactSameFaceWrong : ChangeSpec := { name := "fnExactSameFace", fn := fun _ => fun
  | [d1, d2] => { results := [.lit (.bool false)], args := [d1, d2] }
  | _ => none }
def FnExactSameFaceWrongFalsely : Prop := fnExactSameFaceRow.holds Try.pinned (OpenSpec.ofChange fnExactSameFaceWrong)

/-- 'laws.FnExactResourcesOf': WHATEVER THE INPUT: true; the input reads as it did. -/
def fnExactResourcesOfSpec : ChangeSpec := { name := "fnExactResourcesOf", fn := fun _ => fun
  | [d] => { results := [.lit (.bool true)], args := [d] }
  | _ => none }
def fnExactResourcesOfRow : OpenClaim := { program := "ytfadodmkppeodaa", sum := "a4d852d3cdba114210bb0d6f74f7a073c7fb7a901b3d80d007850ddd6b01bb0f", func := "loop.example/g00901/laws.FnExactResourcesOf", spec := "fnExactResourcesOf", unfollowed := true, recurses := true, loops := true, plainKeys := false, apart := false }
def FnExactResourcesOfSaid : Prop := fnExactResourcesOfRow.holds Try.pinned (OpenSpec.ofChange fnExactResourcesOfSpec)

/-- ITS FALSE NEIGHBOUR: 'it returns false'. Refute it at one input. -/
def fnExactResourcesOfWrong : ChangeSpec := { name := "fnExactResourcesOf", fn := fun _ => fun
  | [d] => { results := [.lit (.bool false)], args := [d] }
  | _ => none }
def FnExactResourcesOfWrongFalsely : Prop := fnExactResourcesOfRow.holds Try.pinned (OpenSpec.ofChange fnExactResourcesOfWrong)

/-- 'laws.FnExactTokensText': WHATEVER THE INPUT: true; the input reads as it did. -/
def fnExactTokensTextSpec : ChangeSpec := { name := "fnExactTokensText", fn := fun _ => fun
  | [d] => { results := [.lit (.bool true)], args := [d] }
  | _ => none }
def fnExactTokensTextRow : OpenClaim := { program := "ytfadodmkppeodaa", sum := "a4d852d3cdba114210bb0d6f74f7a073c7fb7a901b3d80d007850ddd6b01bb0f", func := "loop.example/g00901/laws.FnExactTokensText", spec := "fnExactTokensText", inPlace := ["internal/abi.NoEscape", "internal/bytealg.MakeNoZero"], plainKeys := false, apart := false }
def FnExactTokensTextSaid : Prop := fnExactTokensTextRow.holds Try.pinned (OpenSpec.ofChange fnExactTokensTextSpec)

/-- ITS FALSE NEIGHBOUR: 'it returns false'. Refute it at one input. -/
def fnExactTokensTextWrong : ChangeSpec := { name := "fnExactTokensText", fn := fun _ => fun
  | [d] => { results := [.lit (.bool false)], args := [d] }
  | _ => none }
def FnExactTokensTextWrongFalsely : Prop := fnExactTokensTextRow.holds Try.pinned (OpenSpec.ofChange fnExactTokensTextWrong)

/- THE SECOND FORM. 'bulk': how many values and letters a reading holds, each counted each time it is reached (what is shared counts as often as it is met; a slice's spare places count too). A statement '..UptoSaid' is the law's where the arguments, and the package variables that the reading takes, are together of bulk at most 1048576: NARROWER than '..Said'. Prove '..Said' where nothing that the law and all that it calls make is longer than what came in: it says more and counts as full. Else prove '..UptoSaid'. A law counts once. -/
mutual
def uptoBulk {H : Type} : DataW H → Nat
  | .lit (.string bytes) => bytes.length + 1
  | .lit _ => 1
  | .nil => 1
  | .ptr d => uptoBulk d + 1
  | .slice elems spare => uptoBulkAll elems + uptoBulkAll spare + 1
  | .agg parts => uptoBulkAll parts + 1
  | .iface _ d => uptoBulk d + 1
  | .map entries => uptoBulkEntries entries + 1
  | .held _ => 1
def uptoBulkAll {H : Type} : List (DataW H) → Nat
  | [] => 0
  | d :: r => uptoBulk d + uptoBulkAll r
def uptoBulkEntries {H : Type} : List (Lit × DataW H) → Nat
  | [] => 0
  | x :: r => uptoBulkEntry x + uptoBulkEntries r
def uptoBulkEntry {H : Type} : Lit × DataW H → Nat
  | (.string bytes, d) => bytes.length + uptoBulk d + 1
  | (_, d) => uptoBulk d + 1
 end
def uptoSmall : (H : Type) → List (DataW H) → Bool := fun _ ds => decide (uptoBulkAll ds ≤ 1048576)
def OpenSpec.upto (s : _root_.Go.ChangeSpec) : _root_.Go.OpenSpec := { _root_.Go.OpenSpec.ofChange s with cond := some uptoSmall }

/-- 'laws.FnExactTypeOk', WHERE WHAT IT READS IS OF BULK AT MOST 1048576: true; the input reads as it did. -/
def fnExactTypeOkUptoRow : OpenClaim := { program := "ytfadodmkppeodaa", sum := "a4d852d3cdba114210bb0d6f74f7a073c7fb7a901b3d80d007850ddd6b01bb0f", func := "loop.example/g00901/laws.FnExactTypeOk", spec := "fnExactTypeOk", unfollowed := true, recurses := true, loops := true, plainKeys := false, apart := false, narrowed := true }
def FnExactTypeOkUptoSaid : Prop := fnExactTypeOkUptoRow.holds Try.pinned (OpenSpec.upto fnExactTypeOkSpec)

/-- 'laws.FnExactDeepOf', WHERE WHAT IT READS IS OF BULK AT MOST 1048576: true; the input reads as it did. -/
def fnExactDeepOfUptoRow : OpenClaim := { program := "ytfadodmkppeodaa", sum := "a4d852d3cdba114210bb0d6f74f7a073c7fb7a901b3d80d007850ddd6b01bb0f", func := "loop.example/g00901/laws.FnExactDeepOf", spec := "fnExactDeepOf", unfollowed := true, recurses := true, loops := true, plainKeys := false, apart := false, narrowed := true }
def FnExactDeepOfUptoSaid : Prop := fnExactDeepOfUptoRow.holds Try.pinned (OpenSpec.upto fnExactDeepOfSpec)

/-- 'laws.FnExactHasBorrow', WHERE WHAT IT READS IS OF BULK AT MOST 1048576: true; the input reads as it did. -/
def fnExactHasBorrowUptoRow : OpenClaim := { program := "ytfadodmkppeodaa", sum := "a4d852d3cdba114210bb0d6f74f7a073c7fb7a901b3d80d007850ddd6b01bb0f", func := "loop.example/g00901/laws.FnExactHasBorrow", spec := "fnExactHasBorrow", unfollowed := true, recurses := true, loops := true, plainKeys := false, apart := false, narrowed := true }
def FnExactHasBorrowUptoSaid : Prop := fnExactHasBorrowUptoRow.holds Try.pinned (OpenSpec.upto fnExactHasBorrowSpec)

/-- 'laws.FnExactHasHandles', WHERE WHAT IT READS IS OF BULK AT MOST 1048576: true; the input reads as it did. -/
def fnExactHasHandlesUptoRow : OpenClaim := { program := "ytfadodmkppeodaa", sum := "a4d852d3cdba114210bb0d6f74f7a073c7fb7a901b3d80d007850ddd6b01bb0f", func := "loop.example/g00901/laws.FnExactHasHandles", spec := "fnExactHasHandles", unfollowed := true, recurses := true, loops := true, plainKeys := false, apart := false, narrowed := true }
def FnExactHasHandlesUptoSaid : Prop := fnExactHasHandlesUptoRow.holds Try.pinned (OpenSpec.upto fnExactHasHandlesSpec)

/-- 'laws.FnExactPartsOf', WHERE WHAT IT READS IS OF BULK AT MOST 1048576: true; the input reads as it did. -/
def fnExactPartsOfUptoRow : OpenClaim := { program := "ytfadodmkppeodaa", sum := "a4d852d3cdba114210bb0d6f74f7a073c7fb7a901b3d80d007850ddd6b01bb0f", func := "loop.example/g00901/laws.FnExactPartsOf", spec := "fnExactPartsOf", unfollowed := true, recurses := true, loops := true, plainKeys := false, apart := false, narrowed := true }
def FnExactPartsOfUptoSaid : Prop := fnExactPartsOfUptoRow.holds Try.pinned (OpenSpec.upto fnExactPartsOfSpec)

/-- 'laws.FnExactSameType', WHERE WHAT IT READS IS OF BULK AT MOST 1048576: true; the input reads as it did. -/
def fnExactSameTypeUptoRow : OpenClaim := { program := "ytfadodmkppeodaa", sum := "a4d852d3cdba114210bb0d6f74f7a073c7fb7a901b3d80d007850ddd6b01bb0f", func := "loop.example/g00901/laws.FnExactSameType", spec := "fnExactSameType", recurses := true, loops := true, plainKeys := false, apart := false, narrowed := true }
def FnExactSameTypeUptoSaid : Prop := fnExactSameTypeUptoRow.holds Try.pinned (OpenSpec.upto fnExactSameTypeSpec)

/-- 'laws.FnExactSameFunc', WHERE WHAT IT READS IS OF BULK AT MOST 1048576: true; the input reads as it did. -/
def fnExactSameFuncUptoRow : OpenClaim := { program := "ytfadodmkppeodaa", sum := "a4d852d3cdba114210bb0d6f74f7a073c7fb7a901b3d80d007850ddd6b01bb0f", func := "loop.example/g00901/laws.FnExactSameFunc", spec := "fnExactSameFunc", unfollowed := true, recurses := true, loops := true, plainKeys := false, apart := false, narrowed := true }
def FnExactSameFuncUptoSaid : Prop := fnExactSameFuncUptoRow.holds Try.pinned (OpenSpec.upto fnExactSameFuncSpec)

/-- 'laws.FnExactSameFace', WHERE WHAT IT READS IS OF BULK AT MOST 1048576: true; the input reads as it did. -/
def fnExactSameFaceUptoRow : OpenClaim := { program := "ytfadodmkppeodaa", sum := "a4d852d3cdba114210bb0d6f74f7a073c7fb7a901b3d80d007850ddd6b01bb0f", func := "loop.example/g00901/laws.FnExactSameFace", spec := "fnExactSameFace", unfollowed := true, recurses := true, loops := true, plainKeys := false, apart := false, narrowed := true }
def FnExactSameFaceUptoSaid : Prop := fnExactSameFaceUptoRow.holds Try.pinned (OpenSpec.upto fnExactSameFaceSpec)

/-- 'laws.FnExactResourcesOf', WHERE WHAT IT READS IS OF BULK AT MOST 1048576: true; the input reads as it did. -/
def fnExactResourcesOfUptoRow : OpenClaim := { program := "ytfadodmkppeodaa", sum := "a4d852d3cdba114210bb0d6f74f7a073c7fb7a901b3d80d007850ddd6b01bb0f", func := "loop.example/g00901/laws.FnExactResourcesOf", spec := "fnExactResourcesOf", unfollowed := true, recurses := true, loops := true, plainKeys := false, apart := false, narrowed := true }
def FnExactResourcesOfUptoSaid : Prop := fnExactResourcesOfUptoRow.holds Try.pinned (OpenSpec.upto fnExactResourcesOfSpec)

/-- 'laws.FnExactTokensText', WHERE WHAT IT READS IS OF BULK AT MOST 1048576: true; the input reads as it did. -/
def fnExactTokensTextUptoRow : OpenClaim := { program := "ytfadodmkppeodaa", sum := "a4d852d3cdba114210bb0d6f74f7a073c7fb7a901b3d80d007850ddd6b01bb0f", func := "loop.example/g00901/laws.FnExactTokensText", spec := "fnExactTokensText", inPlace := ["internal/abi.NoEscape", "internal/bytealg.MakeNoZero"], plainKeys := false, apart := false, narrowed := true }
def FnExactTokensTextUptoSaid : Prop := fnExactTokensTextUptoRow.holds Try.pinned (OpenSpec.upto fnExactTokensTextSpec)

end Rows
end Go.Proofs.Ytfadodmkppeodaa
