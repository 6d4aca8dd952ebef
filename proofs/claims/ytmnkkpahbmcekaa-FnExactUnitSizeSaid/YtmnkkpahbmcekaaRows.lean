/-
  No cell of these rows narrows 'for every input' (looked for: loops, veiled, ifaces, maps, wideKeys, modest, calm, conditions, laid).
  DERIVED. THE GIVEN ROWS OF THIS SEAT. 6 by the template 'for every input the law returns true; each argument reads behind the call as it read before'; 0 by the template 'total and deterministic' (their statements: YtmnkkpahbmcekaaTotals.lean).
  GIVEN WITH THE SEED: the statements are not yours to turn. If you find one false, say at which input.
  Laid BY PROGRAM, IN A SANDBOX (cutbox-rows.mjs): the forced cells as the released guide's own fill.sh prints them over the translation 1203ccfc743a8bd0… (all of the seat's roots in one cut). By AI agents, Wed Nov 11 2026. No macro, syntax, notation, axiom, sorry.
-/
import Derived.Test.YtmnkkpahbmcekaaChecked
import GoSem.Claim
import GoSem.ClaimJoined
import GoSem.ClaimMapViews
import Derived.JoinedTies
import Derived.KernelRfl
namespace Go.Proofs.Ytmnkkpahbmcekaa
/- THE CELL 'sum', in the pinned program and in every row, IS THE sha256 OF THE DUMP (.gsa) THAT YtmnkkpahbmcekaaProg.lean LOADS. Nothing in Lean hashes anything: it is a label: what it is worth is what the hold of that sum in a sandbox is worth. -/
noncomputable def Try.pinned : Pinned := { name := "ytmnkkpahbmcekaa", sum := "1203ccfc743a8bd02efd83e449bab4f3a99b3fe42ff77cb7419a0ac1f13a8a0d", checked := Try.checked }
namespace Rows
def none {H : Type} : Left H := { results := [], args := [] }

/-- 'laws.FnExactEncodingOk': WHATEVER THE INPUT: true; the input reads as it did. -/
def fnExactEncodingOkSpec : ChangeSpec := { name := "fnExactEncodingOk", fn := fun _ => fun
  | [d] => { results := [.lit (.bool true)], args := [d] }
  | _ => none }
def fnExactEncodingOkRow : OpenClaim := { program := "ytmnkkpahbmcekaa", sum := "1203ccfc743a8bd02efd83e449bab4f3a99b3fe42ff77cb7419a0ac1f13a8a0d", func := "loop.example/g00901/laws.FnExactEncodingOk", spec := "fnExactEncodingOk", apart := false }
def FnExactEncodingOkSaid : Prop := fnExactEncodingOkRow.holds Try.pinned (OpenSpec.ofChange fnExactEncodingOkSpec)

/-- ITS FALSE NEIGHBOUR: 'it returns false'. Refute it at one input. -/
def fnExactEncodingOkWrong : ChangeSpec := { name := "fnExactEncodingOk", fn := fun _ => fun
  | [d] => { results := [.lit (.bool false)], args := [d] }
  | _ => none }
def FnExactEncodingOkWrongFalsely : Prop := fnExactEncodingOkRow.holds Try.pinned (OpenSpec.ofChange fnExactEncodingOkWrong)

/-- 'laws.FnExactUnitSize': WHATEVER THE INPUT: true; the input reads as it did. -/
def fnExactUnitSizeSpec : ChangeSpec := { name := "fnExactUnitSize", fn := fun _ => fun
  | [d] => { results := [.lit (.bool true)], args := [d] }
  | _ => none }
def fnExactUnitSizeRow : OpenClaim := { program := "ytmnkkpahbmcekaa", sum := "1203ccfc743a8bd02efd83e449bab4f3a99b3fe42ff77cb7419a0ac1f13a8a0d", func := "loop.example/g00901/laws.FnExactUnitSize", spec := "fnExactUnitSize", apart := false }
def FnExactUnitSizeSaid : Prop := fnExactUnitSizeRow.holds Try.pinned (OpenSpec.ofChange fnExactUnitSizeSpec)

/-- ITS FALSE NEIGHBOUR: 'it returns false'. Refute it at one input. -/
def fnExactUnitSizeWrong : ChangeSpec := { name := "fnExactUnitSize", fn := fun _ => fun
  | [d] => { results := [.lit (.bool false)], args := [d] }
  | _ => none }
def FnExactUnitSizeWrongFalsely : Prop := fnExactUnitSizeRow.holds Try.pinned (OpenSpec.ofChange fnExactUnitSizeWrong)

/-- 'laws.FnExactKindsOk': WHATEVER THE INPUT: true; the input reads as it did. -/
def fnExactKindsOkSpec : ChangeSpec := { name := "fnExactKindsOk", fn := fun _ => fun
  | [d] => { results := [.lit (.bool true)], args := [d] }
  | _ => none }
def fnExactKindsOkRow : OpenClaim := { program := "ytmnkkpahbmcekaa", sum := "1203ccfc743a8bd02efd83e449bab4f3a99b3fe42ff77cb7419a0ac1f13a8a0d", func := "loop.example/g00901/laws.FnExactKindsOk", spec := "fnExactKindsOk", unfollowed := true, recurses := true, apart := false }
def FnExactKindsOkSaid : Prop := fnExactKindsOkRow.holds Try.pinned (OpenSpec.ofChange fnExactKindsOkSpec)

/-- ITS FALSE NEIGHBOUR: 'it returns false'. Refute it at one input. -/
def fnExactKindsOkWrong : ChangeSpec := { name := "fnExactKindsOk", fn := fun _ => fun
  | [d] => { results := [.lit (.bool false)], args := [d] }
  | _ => none }
def FnExactKindsOkWrongFalsely : Prop := fnExactKindsOkRow.holds Try.pinned (OpenSpec.ofChange fnExactKindsOkWrong)

/-- 'laws.FnExactJoinKinds': WHATEVER THE INPUT: true; the input reads as it did. -/
def fnExactJoinKindsSpec : ChangeSpec := { name := "fnExactJoinKinds", fn := fun _ => fun
  | [d1, d2] => { results := [.lit (.bool true)], args := [d1, d2] }
  | _ => none }
def fnExactJoinKindsRow : OpenClaim := { program := "ytmnkkpahbmcekaa", sum := "1203ccfc743a8bd02efd83e449bab4f3a99b3fe42ff77cb7419a0ac1f13a8a0d", func := "loop.example/g00901/laws.FnExactJoinKinds", spec := "fnExactJoinKinds", unfollowed := true, recurses := true, apart := false }
def FnExactJoinKindsSaid : Prop := fnExactJoinKindsRow.holds Try.pinned (OpenSpec.ofChange fnExactJoinKindsSpec)

/-- ITS FALSE NEIGHBOUR: 'it returns false'. Refute it at one input. -/
def fnExactJoinKindsWrong : ChangeSpec := { name := "fnExactJoinKinds", fn := fun _ => fun
  | [d1, d2] => { results := [.lit (.bool false)], args := [d1, d2] }
  | _ => none }
def FnExactJoinKindsWrongFalsely : Prop := fnExactJoinKindsRow.holds Try.pinned (OpenSpec.ofChange fnExactJoinKindsWrong)

/-- 'laws.FnExactFlatOk': WHATEVER THE INPUT: true; the input reads as it did. -/
def fnExactFlatOkSpec : ChangeSpec := { name := "fnExactFlatOk", fn := fun _ => fun
  | [d1, d2] => { results := [.lit (.bool true)], args := [d1, d2] }
  | _ => none }
def fnExactFlatOkRow : OpenClaim := { program := "ytmnkkpahbmcekaa", sum := "1203ccfc743a8bd02efd83e449bab4f3a99b3fe42ff77cb7419a0ac1f13a8a0d", func := "loop.example/g00901/laws.FnExactFlatOk", spec := "fnExactFlatOk", unfollowed := true, recurses := true, apart := false }
def FnExactFlatOkSaid : Prop := fnExactFlatOkRow.holds Try.pinned (OpenSpec.ofChange fnExactFlatOkSpec)

/-- ITS FALSE NEIGHBOUR: 'it returns false'. Refute it at one input. -/
def fnExactFlatOkWrong : ChangeSpec := { name := "fnExactFlatOk", fn := fun _ => fun
  | [d1, d2] => { results := [.lit (.bool false)], args := [d1, d2] }
  | _ => none }
def FnExactFlatOkWrongFalsely : Prop := fnExactFlatOkRow.holds Try.pinned (OpenSpec.ofChange fnExactFlatOkWrong)

/-- 'laws.FnExactToSmall': WHATEVER THE INPUT: true; the input reads as it did. -/
def fnExactToSmallSpec : ChangeSpec := { name := "fnExactToSmall", fn := fun _ => fun
  | [d] => { results := [.lit (.bool true)], args := [d] }
  | _ => none }
def fnExactToSmallRow : OpenClaim := { program := "ytmnkkpahbmcekaa", sum := "1203ccfc743a8bd02efd83e449bab4f3a99b3fe42ff77cb7419a0ac1f13a8a0d", func := "loop.example/g00901/laws.FnExactToSmall", spec := "fnExactToSmall", apart := false }
def FnExactToSmallSaid : Prop := fnExactToSmallRow.holds Try.pinned (OpenSpec.ofChange fnExactToSmallSpec)

/-- ITS FALSE NEIGHBOUR: 'it returns false'. Refute it at one input. -/
def fnExactToSmallWrong : ChangeSpec := { name := "fnExactToSmall", fn := fun _ => fun
  | [d] => { results := [.lit (.bool false)], args := [d] }
  | _ => none }
def FnExactToSmallWrongFalsely : Prop := fnExactToSmallRow.holds Try.pinned (OpenSpec.ofChange fnExactToSmallWrong)

/- THE SECOND FORM. 'bulk': how many values and letters a reading holds, each counted each time it is reached (what is shared counts as often as it is met; a slice's spare places count too). A statement '..UptoSaid' is the law's where the arguments, and the package variables that the reading takes, are together of bulk at most 1048576: NARROWER than '..Said'. Prove '..Said' where nothing that the law and all that it calls make is longer than what came in: it says more and counts as full. Else prove '..UptoSaid'. A law counts once. -/
mutual
def uptoBulk {H : Type} : DataW H → Nat
  | .lit (.string bytes) => bytes.length + 1
  | .lit _ => 1
  | .nil => 1
  | .ptr d => uptoBulk d + 1
  | .slice elems spare => uptoBulkAll elems + uptoBulkAll spare + 1
  | .agg parts => uptoBulkAll parts + 1
  | .iface _ d => uptoBulk d + 1
  | .map entries => uptoBulkEntries entries + 1
  | .held _ => 1
def uptoBulkAll {H : Type} : List (DataW H) → Nat
  | [] => 0
  | d :: r => uptoBulk d + uptoBulkAll r
def uptoBulkEntries {H : Type} : List (Lit × DataW H) → Nat
  | [] => 0
  | x :: r => uptoBulkEntry x + uptoBulkEntries r
def uptoBulkEntry {H : Type} : Lit × DataW H → Nat
  | (.string bytes, d) => bytes.length + uptoBulk d + 1
  | (_, d) => uptoBulk d + 1
 end
def uptoSmall : (H : Type) → List (DataW H) → Bool := fun _ ds => decide (uptoBulkAll ds ≤ 1048576)
def OpenSpec.upto (s : _root_.Go.ChangeSpec) : _root_.Go.OpenSpec := { _root_.Go.OpenSpec.ofChange s with cond := some uptoSmall }

/-- 'laws.FnExactEncodingOk', WHERE WHAT IT READS IS OF BULK AT MOST 1048576: true; the input reads as it did. -/
def fnExactEncodingOkUptoRow : OpenClaim := { program := "ytmnkkpahbmcekaa", sum := "1203ccfc743a8bd02efd83e449bab4f3a99b3fe42ff77cb7419a0ac1f13a8a0d", func := "loop.example/g00901/laws.FnExactEncodingOk", spec := "fnExactEncodingOk", apart := false, narrowed := true }
def FnExactEncodingOkUptoSaid : Prop := fnExactEncodingOkUptoRow.holds Try.pinned (OpenSpec.upto fnExactEncodingOkSpec)

/-- 'laws.FnExactUnitSize', WHERE WHAT IT READS IS OF BULK AT MOST 1048576: true; the input reads as it did. -/
def fnExactUnitSizeUptoRow : OpenClaim := { program := "ytmnkkpahbmcekaa", sum := "1203ccfc743a8bd02efd83e449bab4f3a99b3fe42ff77cb7419a0ac1f13a8a0d", func := "loop.example/g00901/laws.FnExactUnitSize", spec := "fnExactUnitSize", apart := false, narrowed := true }
def FnExactUnitSizeUptoSaid : Prop := fnExactUnitSizeUptoRow.holds Try.pinned (OpenSpec.upto fnExactUnitSizeSpec)

/-- 'laws.FnExactKindsOk', WHERE WHAT IT READS IS OF BULK AT MOST 1048576: true; the input reads as it did. -/
def fnExactKindsOkUptoRow : OpenClaim := { program := "ytmnkkpahbmcekaa", sum := "1203ccfc743a8bd02efd83e449bab4f3a99b3fe42ff77cb7419a0ac1f13a8a0d", func := "loop.example/g00901/laws.FnExactKindsOk", spec := "fnExactKindsOk", unfollowed := true, recurses := true, apart := false, narrowed := true }
def FnExactKindsOkUptoSaid : Prop := fnExactKindsOkUptoRow.holds Try.pinned (OpenSpec.upto fnExactKindsOkSpec)

/-- 'laws.FnExactJoinKinds', WHERE WHAT IT READS IS OF BULK AT MOST 1048576: true; the input reads as it did. -/
def fnExactJoinKindsUptoRow : OpenClaim := { program := "ytmnkkpahbmcekaa", sum := "1203ccfc743a8bd02efd83e449bab4f3a99b3fe42ff77cb7419a0ac1f13a8a0d", func := "loop.example/g00901/laws.FnExactJoinKinds", spec := "fnExactJoinKinds", unfollowed := true, recurses := true, apart := false, narrowed := true }
def FnExactJoinKindsUptoSaid : Prop := fnExactJoinKindsUptoRow.holds Try.pinned (OpenSpec.upto fnExactJoinKindsSpec)

/-- 'laws.FnExactFlatOk', WHERE WHAT IT READS IS OF BULK AT MOST 1048576: true; the input reads as it did. -/
def fnExactFlatOkUptoRow : OpenClaim := { program := "ytmnkkpahbmcekaa", sum := "1203ccfc743a8bd02efd83e449bab4f3a99b3fe42ff77cb7419a0ac1f13a8a0d", func := "loop.example/g00901/laws.FnExactFlatOk", spec := "fnExactFlatOk", unfollowed := true, recurses := true, apart := false, narrowed := true }
def FnExactFlatOkUptoSaid : Prop := fnExactFlatOkUptoRow.holds Try.pinned (OpenSpec.upto fnExactFlatOkSpec)

/-- 'laws.FnExactToSmall', WHERE WHAT IT READS IS OF BULK AT MOST 1048576: true; the input reads as it did. -/
def fnExactToSmallUptoRow : OpenClaim := { program := "ytmnkkpahbmcekaa", sum := "1203ccfc743a8bd02efd83e449bab4f3a99b3fe42ff77cb7419a0ac1f13a8a0d", func := "loop.example/g00901/laws.FnExactToSmall", spec := "fnExactToSmall", apart := false, narrowed := true }
def FnExactToSmallUptoSaid : Prop := fnExactToSmallUptoRow.holds Try.pinned (OpenSpec.upto fnExactToSmallSpec)

end Rows
end Go.Proofs.Ytmnkkpahbmcekaa
