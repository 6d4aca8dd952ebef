/-
  NARROWER THAN 'FOR EVERY INPUT', by the rows' own cells (each row's printed sentence says how): FnExactDeepOf: loops · FnExactPartsOf: loops · FnExactTypeOk: loops · FnExactSameType: loops · FnExactHasHandles: loops · FnExactHasBorrow: loops · FnExactResourcesOf: loops · FnExactSameFunc: loops.
  DERIVED. THE GIVEN ROWS OF THIS SEAT. 8 by the template 'for every input the law returns true; each argument reads behind the call as it read before'; 0 by the template 'total and deterministic' (their statements: YtfmfkbdmphfkfaaTotals.lean).
  GIVEN WITH THE SEED: the statements are not yours to turn. If you find one false, say at which input.
  Laid BY PROGRAM, IN A SANDBOX (cutbox-rows.mjs): the forced cells as the released guide's own fill.sh prints them over the translation ffcac77a20c32c1d… (all of the seat's roots in one cut). By AI agents, Wed Nov 11 2026. No macro, syntax, notation, axiom, sorry.
-/
import Derived.Test.YtfmfkbdmphfkfaaChecked
import GoSem.Claim
import GoSem.ClaimJoined
import GoSem.ClaimMapViews
import Derived.JoinedTies
import Derived.KernelRfl
namespace Go.Proofs.Ytfmfkbdmphfkfaa
/- THE CELL 'sum', in the pinned program and in every row, IS THE sha256 OF THE DUMP (.gsa) THAT YtfmfkbdmphfkfaaProg.lean LOADS. Nothing in Lean hashes anything: it is a label: what it is worth is what the hold of that sum in a sandbox is worth. -/
noncomputable def Try.pinned : Pinned := { name := "ytfmfkbdmphfkfaa", sum := "ffcac77a20c32c1deb66fb405a9a2ebc9f35aeab8219b04f772dcb299aae994d", checked := Try.checked }
namespace Rows
def none {H : Type} : Left H := { results := [], args := [] }

/-- 'laws.FnExactDeepOf': WHATEVER THE INPUT: true; the input reads as it did. -/
def fnExactDeepOfSpec : ChangeSpec := { name := "fnExactDeepOf", fn := fun _ => fun
  | [d] => { results := [.lit (.bool true)], args := [d] }
  | _ => none }
def fnExactDeepOfRow : OpenClaim := { program := "ytfmfkbdmphfkfaa", sum := "ffcac77a20c32c1deb66fb405a9a2ebc9f35aeab8219b04f772dcb299aae994d", func := "loop.example/g00901/laws.FnExactDeepOf", spec := "fnExactDeepOf", unfollowed := true, recurses := true, loops := true, plainKeys := false, apart := false }
def FnExactDeepOfSaid : Prop := fnExactDeepOfRow.holds Try.pinned (OpenSpec.ofChange fnExactDeepOfSpec)

/-- ITS FALSE NEIGHBOUR: 'it returns false'. Refute it at one input. -/
def fnExactDeepOfWrong : ChangeSpec := { name := "fnExactDeepOf", fn := fun _ => fun
  | [d] => { results := [.lit (.bool false)], args := [d] }
  | _ => none }
def FnExactDeepOfWrongFalsely : Prop := fnExactDeepOfRow.holds Try.pinned (OpenSpec.ofChange fnExactDeepOfWrong)

/-- 'laws.FnExactPartsOf': WHATEVER THE INPUT: true; the input reads as it did. -/
def fnExactPartsOfSpec : ChangeSpec := { name := "fnExactPartsOf", fn := fun _ => fun
  | [d] => { results := [.lit (.bool true)], args := [d] }
  | _ => none }
def fnExactPartsOfRow : OpenClaim := { program := "ytfmfkbdmphfkfaa", sum := "ffcac77a20c32c1deb66fb405a9a2ebc9f35aeab8219b04f772dcb299aae994d", func := "loop.example/g00901/laws.FnExactPartsOf", spec := "fnExactPartsOf", unfollowed := true, recurses := true, loops := true, plainKeys := false, apart := false }
def FnExactPartsOfSaid : Prop := fnExactPartsOfRow.holds Try.pinned (OpenSpec.ofChange fnExactPartsOfSpec)

/-- ITS FALSE NEIGHBOUR: 'it returns false'. Refute it at one input. -/
def fnExactPartsOfWrong : ChangeSpec := { name := "fnExactPartsOf", fn := fun _ => fun
  | [d] => { results := [.lit (.bool false)], args := [d] }
  | _ => none }
def FnExactPartsOfWrongFalsely : Prop := fnExactPartsOfRow.holds Try.pinned (OpenSpec.ofChange fnExactPartsOfWrong)

/-- 'laws.FnExactTypeOk': WHATEVER THE INPUT: true; the input reads as it did. -/
def fnExactTypeOkSpec : ChangeSpec := { name := "fnExactTypeOk", fn := fun _ => fun
  | [d] => { results := [.lit (.bool true)], args := [d] }
  | _ => none }
def fnExactTypeOkRow : OpenClaim := { program := "ytfmfkbdmphfkfaa", sum := "ffcac77a20c32c1deb66fb405a9a2ebc9f35aeab8219b04f772dcb299aae994d", func := "loop.example/g00901/laws.FnExactTypeOk", spec := "fnExactTypeOk", unfollowed := true, recurses := true, loops := true, plainKeys := false, apart := false }
def FnExactTypeOkSaid : Prop := fnExactTypeOkRow.holds Try.pinned (OpenSpec.ofChange fnExactTypeOkSpec)

/-- ITS FALSE NEIGHBOUR: 'it returns false'. Refute it at one input. -/
def fnExactTypeOkWrong : ChangeSpec := { name := "fnExactTypeOk", fn := fun _ => fun
  | [d] => { results := [.lit (.bool false)], args := [d] }
  | _ => none }
def FnExactTypeOkWrongFalsely : Prop := fnExactTypeOkRow.holds Try.pinned (OpenSpec.ofChange fnExactTypeOkWrong)

/-- 'laws.FnExactSameType': WHATEVER THE INPUT: true; the input reads as it did. -/
def fnExactSameTypeSpec : ChangeSpec := { name := "fnExactSameType", fn := fun _ => fun
  | [d1, d2] => { results := [.lit (.bool true)], args := [d1, d2] }
  | _ => none }
def fnExactSameTypeRow : OpenClaim := { program := "ytfmfkbdmphfkfaa", sum := "ffcac77a20c32c1deb66fb405a9a2ebc9f35aeab8219b04f772dcb299aae994d", func := "loop.example/g00901/laws.FnExactSameType", spec := "fnExactSameType", recurses := true, loops := true, plainKeys := false, apart := false }
def FnExactSameTypeSaid : Prop := fnExactSameTypeRow.holds Try.pinned (OpenSpec.ofChange fnExactSameTypeSpec)

/-- ITS FALSE NEIGHBOUR: 'it returns false'. Refute it at one input. -/
def fnExactSameTypeWrong : ChangeSpec := { name := "fnExactSameType", fn := fun _ => fun
  | [d1, d2] => { results := [.lit (.bool false)], args := [d1, d2] }
  | _ => none }
def FnExactSameTypeWrongFalsely : Prop := fnExactSameTypeRow.holds Try.pinned (OpenSpec.ofChange fnExactSameTypeWrong)

/-- 'laws.FnExactHasHandles': WHATEVER THE INPUT: true; the input reads as it did. -/
def fnExactHasHandlesSpec : ChangeSpec := { name := "fnExactHasHandles", fn := fun _ => fun
  | [d] => { results := [.lit (.bool true)], args := [d] }
  | _ => none }
def fnExactHasHandlesRow : OpenClaim := { program := "ytfmfkbdmphfkfaa", sum := "ffcac77a20c32c1deb66fb405a9a2ebc9f35aeab8219b04f772dcb299aae994d", func := "loop.example/g00901/laws.FnExactHasHandles", spec := "fnExactHasHandles", unfollowed := true, recurses := true, loops := true, plainKeys := false, apart := false }
def FnExactHasHandlesSaid : Prop := fnExactHasHandlesRow.holds Try.pinned (OpenSpec.ofChange fnExactHasHandlesSpec)

/-- ITS FALSE NEIGHBOUR: 'it returns false'. Refute it at one input. -/
def fnExactHasHandlesWrong : ChangeSpec := { name := "fnExactHasHandles", fn := fun _ => fun
  | [d] => { results := [.lit (.bool false)], args := [d] }
  | _ => none }
def FnExactHasHandlesWrongFalsely : Prop := fnExactHasHandlesRow.holds Try.pinned (OpenSpec.ofChange fnExactHasHandlesWrong)

/-- 'laws.FnExactHasBorrow': WHATEVER THE INPUT: true; the input reads as it did. -/
def fnExactHasBorrowSpec : ChangeSpec := { name := "fnExactHasBorrow", fn := fun _ => fun
  | [d] => { results := [.lit (.bool true)], args := [d] }
  | _ => none }
def fnExactHasBorrowRow : OpenClaim := { program := "ytfmfkbdmphfkfaa", sum := "ffcac77a20c32c1deb66fb405a9a2ebc9f35aeab8219b04f772dcb299aae994d", func := "loop.example/g00901/laws.FnExactHasBorrow", spec := "fnExactHasBorrow", unfollowed := true, recurses := true, loops := true, plainKeys := false, apart := false }
def FnExactHasBorrowSaid : Prop := fnExactHasBorrowRow.holds Try.pinned (OpenSpec.ofChange fnExactHasBorrowSpec)

/-- ITS FALSE NEIGHBOUR: 'it returns false'. Refute it at one input. -/
def fnExactHasBorrowWrong : ChangeSpec := { name := "fnExactHasBorrow", fn := fun _ => fun
  | [d] => { results := [.lit (.bool false)], args := [d] }
  | _ => none }
def FnExactHasBorrowWrongFalsely : Prop := fnExactHasBorrowRow.holds Try.pinned (OpenSpec.ofChange fnExactHasBorrowWrong)

/-- 'laws.FnExactResourcesOf': WHATEVER THE INPUT: true; the input reads as it did. -/
def fnExactResourcesOfSpec : ChangeSpec := { name := "fnExactResourcesOf", fn := fun _ => fun
  | [d] => { results := [.lit (.bool true)], args := [d] }
  | _ => none }
def fnExactResourcesOfRow : OpenClaim := { program := "ytfmfkbdmphfkfaa", sum := "ffcac77a20c32c1deb66fb405a9a2ebc9f35aeab8219b04f772dcb299aae994d", func := "loop.example/g00901/laws.FnExactResourcesOf", spec := "fnExactResourcesOf", unfollowed := true, recurses := true, loops := true, plainKeys := false, apart := false }
def FnExactResourcesOfSaid : Prop := fnExactResourcesOfRow.holds Try.pinned (OpenSpec.ofChange fnExactResourcesOfSpec)

/-- ITS FALSE NEIGHBOUR: 'it returns false'. Refute it at one input. -/
def fnExactResourcesOfWrong : ChangeSpec := { name := "fnExactResourcesOf", fn := fun _ => fun
  | [d] => { results := [.lit (.bool false)], args := [d] }
  | _ => none }
def FnExactResourcesOfWrongFalsely : Prop := fnExactResourcesOfRow.holds Try.pinned (OpenSpec.ofChange fnExactResourcesOfWrong)

/-- 'laws.FnExactSameFunc': WHATEVER THE INPUT: true; the input reads as it did. -/
def fnExactSameFuncSpec : ChangeSpec := { name := "fnExactSameFunc", fn := fun _ => fun
  | [d1, d2] => { results := [.lit (.bool true)], args := [d1, d2] }
  | _ => none }
def fnExactSameFuncRow : OpenClaim := { program := "ytfmfkbdmphfkfaa", sum := "ffcac77a20c32c1deb66fb405a9a2ebc9f35aeab8219b04f772dcb299aae994d", func := "loop.example/g00901/laws.FnExactSameFunc", spec := "fnExactSameFunc", unfollowed := true, recurses := true, loops := true, plainKeys := false, apart := false }
def FnExactSameFuncSaid : Prop := fnExactSameFuncRow.holds Try.pinned (OpenSpec.ofChange fnExactSameFuncSpec)

/-- ITS FALSE NEIGHBOUR: 'it returns false'. Refute it at one input. -/
def fnExactSameFuncWrong : ChangeSpec := { name := "fnExactSameFunc", fn := fun _ => fun
  | [d1, d2] => { results := [.lit (.bool false)], args := [d1, d2] }
  | _ => none }
def FnExactSameFuncWrongFalsely : Prop := fnExactSameFuncRow.holds Try.pinned (OpenSpec.ofChange fnExactSameFuncWrong)

/- THE SECOND FORM. 'bulk': how many values and letters a reading holds, each counted each time it is reached (what is shared counts as often as it is met; a slice's spare places count too). A statement '..UptoSaid' is the law's where the arguments, and the package variables that the reading takes, are together of bulk at most 1048576: NARROWER than '..Said'. Prove '..Said' where nothing that the law and all that it calls make is longer than what came in: it says more and counts as full. Else prove '..UptoSaid'. A law counts once. -/
mutual
def uptoBulk {H : Type} : DataW H → Nat
  | .lit (.string bytes) => bytes.length + 1
  | .lit _ => 1
  | .nil => 1
  | .ptr d => uptoBulk d + 1
  | .slice elems spare => uptoBulkAll elems + uptoBulkAll spare + 1
  | .agg parts => uptoBulkAll parts + 1
  | .iface _ d => uptoBulk d + 1
  | .map entries => uptoBulkEntries entries + 1
  | .held _ => 1
def uptoBulkAll {H : Type} : List (DataW H) → Nat
  | [] => 0
  | d :: r => uptoBulk d + uptoBulkAll r
def uptoBulkEntries {H : Type} : List (Lit × DataW H) → Nat
  | [] => 0
  | x :: r => uptoBulkEntry x + uptoBulkEntries r
def uptoBulkEntry {H : Type} : Lit × DataW H → Nat
  | (.string bytes, d) => bytes.length + uptoBulk d + 1
  | (_, d) => uptoBulk d + 1
 end
def uptoSmall : (H : Type) → List (DataW H) → Bool := fun _ ds => decide (uptoBulkAll ds ≤ 1048576)
def OpenSpec.upto (s : _root_.Go.ChangeSpec) : _root_.Go.OpenSpec := { _root_.Go.OpenSpec.ofChange s with cond := some uptoSmall }

/-- 'laws.FnExactDeepOf', WHERE WHAT IT READS IS OF BULK AT MOST 1048576: true; the input reads as it did. -/
def fnExactDeepOfUptoRow : OpenClaim := { program := "ytfmfkbdmphfkfaa", sum := "ffcac77a20c32c1deb66fb405a9a2ebc9f35aeab8219b04f772dcb299aae994d", func := "loop.example/g00901/laws.FnExactDeepOf", spec := "fnExactDeepOf", unfollowed := true, recurses := true, loops := true, plainKeys := false, apart := false, narrowed := true }
def FnExactDeepOfUptoSaid : Prop := fnExactDeepOfUptoRow.holds Try.pinned (OpenSpec.upto fnExactDeepOfSpec)

/-- 'laws.FnExactPartsOf', WHERE WHAT IT READS IS OF BULK AT MOST 1048576: true; the input reads as it did. -/
def fnExactPartsOfUptoRow : OpenClaim := { program := "ytfmfkbdmphfkfaa", sum := "ffcac77a20c32c1deb66fb405a9a2ebc9f35aeab8219b04f772dcb299aae994d", func := "loop.example/g00901/laws.FnExactPartsOf", spec := "fnExactPartsOf", unfollowed := true, recurses := true, loops := true, plainKeys := false, apart := false, narrowed := true }
def FnExactPartsOfUptoSaid : Prop := fnExactPartsOfUptoRow.holds Try.pinned (OpenSpec.upto fnExactPartsOfSpec)

/-- 'laws.FnExactTypeOk', WHERE WHAT IT READS IS OF BULK AT MOST 1048576: true; the input reads as it did. -/
def fnExactTypeOkUptoRow : OpenClaim := { program := "ytfmfkbdmphfkfaa", sum := "ffcac77a20c32c1deb66fb405a9a2ebc9f35aeab8219b04f772dcb299aae994d", func := "loop.example/g00901/laws.FnExactTypeOk", spec := "fnExactTypeOk", unfollowed := true, recurses := true, loops := true, plainKeys := false, apart := false, narrowed := true }
def FnExactTypeOkUptoSaid : Prop := fnExactTypeOkUptoRow.holds Try.pinned (OpenSpec.upto fnExactTypeOkSpec)

/-- 'laws.FnExactSameType', WHERE WHAT IT READS IS OF BULK AT MOST 1048576: true; the input reads as it did. -/
def fnExactSameTypeUptoRow : OpenClaim := { program := "ytfmfkbdmphfkfaa", sum := "ffcac77a20c32c1deb66fb405a9a2ebc9f35aeab8219b04f772dcb299aae994d", func := "loop.example/g00901/laws.FnExactSameType", spec := "fnExactSameType", recurses := true, loops := true, plainKeys := false, apart := false, narrowed := true }
def FnExactSameTypeUptoSaid : Prop := fnExactSameTypeUptoRow.holds Try.pinned (OpenSpec.upto fnExactSameTypeSpec)

/-- 'laws.FnExactHasHandles', WHERE WHAT IT READS IS OF BULK AT MOST 1048576: true; the input reads as it did. -/
def fnExactHasHandlesUptoRow : OpenClaim := { program := "ytfmfkbdmphfkfaa", sum := "ffcac77a20c32c1deb66fb405a9a2ebc9f35aeab8219b04f772dcb299aae994d", func := "loop.example/g00901/laws.FnExactHasHandles", spec := "fnExactHasHandles", unfollowed := true, recurses := true, loops := true, plainKeys := false, apart := false, narrowed := true }
def FnExactHasHandlesUptoSaid : Prop := fnExactHasHandlesUptoRow.holds Try.pinned (OpenSpec.upto fnExactHasHandlesSpec)

/-- 'laws.FnExactHasBorrow', WHERE WHAT IT READS IS OF BULK AT MOST 1048576: true; the input reads as it did. -/
def fnExactHasBorrowUptoRow : OpenClaim := { program := "ytfmfkbdmphfkfaa", sum := "ffcac77a20c32c1deb66fb405a9a2ebc9f35aeab8219b04f772dcb299aae994d", func := "loop.example/g00901/laws.FnExactHasBorrow", spec := "fnExactHasBorrow", unfollowed := true, recurses := true, loops := true, plainKeys := false, apart := false, narrowed := true }
def FnExactHasBorrowUptoSaid : Prop := fnExactHasBorrowUptoRow.holds Try.pinned (OpenSpec.upto fnExactHasBorrowSpec)

/-- 'laws.FnExactResourcesOf', WHERE WHAT IT READS IS OF BULK AT MOST 1048576: true; the input reads as it did. -/
def fnExactResourcesOfUptoRow : OpenClaim := { program := "ytfmfkbdmphfkfaa", sum := "ffcac77a20c32c1deb66fb405a9a2ebc9f35aeab8219b04f772dcb299aae994d", func := "loop.example/g00901/laws.FnExactResourcesOf", spec := "fnExactResourcesOf", unfollowed := true, recurses := true, loops := true, plainKeys := false, apart := false, narrowed := true }
def FnExactResourcesOfUptoSaid : Prop := fnExactResourcesOfUptoRow.holds Try.pinned (OpenSpec.upto fnExactResourcesOfSpec)

/-- 'laws.FnExactSameFunc', WHERE WHAT IT READS IS OF BULK AT MOST 1048576: true; the input reads as it did. -/
def fnExactSameFuncUptoRow : OpenClaim := { program := "ytfmfkbdmphfkfaa", sum := "ffcac77a20c32c1deb66fb405a9a2ebc9f35aeab8219b04f772dcb299aae994d", func := "loop.example/g00901/laws.FnExactSameFunc", spec := "fnExactSameFunc", unfollowed := true, recurses := true, loops := true, plainKeys := false, apart := false, narrowed := true }
def FnExactSameFuncUptoSaid : Prop := fnExactSameFuncUptoRow.holds Try.pinned (OpenSpec.upto fnExactSameFuncSpec)

end Rows
end Go.Proofs.Ytfmfkbdmphfkfaa
