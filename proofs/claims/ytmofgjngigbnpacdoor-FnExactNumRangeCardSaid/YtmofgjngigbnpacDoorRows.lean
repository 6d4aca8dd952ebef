/-
  NARROWER THAN 'FOR EVERY INPUT', by the rows' own cells (each row's printed sentence says how): FnExactNumRange: laid.
  DERIVED. THE GIVEN ROWS OF THIS SEAT. 1 by the template 'for every input the law returns true; each argument reads behind the call as it read before'; 0 by the template 'total and deterministic' (their statements: YtmofgjngigbnpacDoorTotals.lean).
  GIVEN WITH THE SEED: the statements are not yours to turn. If you find one false, say at which input.
  Laid BY PROGRAM, IN A SANDBOX (cutbox-rows.mjs): the forced cells as the released guide's own fill.sh prints them over the translation 8b293520cc60a90c… (all of the seat's roots in one cut). By AI agents, Wed Nov 11 2026. No macro, syntax, notation, axiom, sorry.
-/
import Derived.Test.YtmofgjngigbnpacDoorChecked
import GoSem.Claim
import GoSem.ClaimJoined
import GoSem.ClaimMapViews
import Derived.JoinedTies
import Derived.KernelRfl
namespace Go.Proofs.YtmofgjngigbnpacDoor
/- THE CELL 'sum', in the pinned program and in every row, IS THE sha256 OF THE DUMP (.gsa) THAT YtmofgjngigbnpacDoorProg.lean LOADS. Nothing in Lean hashes anything: it is a label: what it is worth is what the hold of that sum in a sandbox is worth. -/
noncomputable def Tryd.pinned : Pinned := { name := "ytmofgjngigbnpacdoor", sum := "8b293520cc60a90c2f18809879a28cdfecc81bc52f56441aa0ecb8555b9ceec5", checked := Tryd.checked }
namespace Rows
def none {H : Type} : Left H := { results := [], args := [] }

/- WHAT THE LISTED PACKAGE-LEVEL VARIABLES READ AS WHEN THE CALL BEGINS. Each datum BY PROGRAM (the guide's laid-datum.mjs) off the statement by which the dump's own 'gosem.cut.vars' lays the variable. In a bare row this is a premise. The card (YtmofgjngigbnpacDoorCards.lean) ties it to the program's text. -/
def laid_loop_example_g00901_impl_numRanges {H : Type} : DataW H := .agg [.agg [.lit (.int .i64 0), .lit (.int .i64 0)], .agg [.lit (.int .i64 0), .lit (.int .i64 0)], .agg [.lit (.int .i64 0), .lit (.int .i64 0)], .agg [.lit (.int .i64 0), .lit (.int .i64 255)], .agg [.lit (.int .i64 (-128)), .lit (.int .i64 127)], .agg [.lit (.int .i64 0), .lit (.int .i64 65535)], .agg [.lit (.int .i64 (-32768)), .lit (.int .i64 32767)], .agg [.lit (.int .i64 0), .lit (.int .i64 4294967295)], .agg [.lit (.int .i64 (-2147483648)), .lit (.int .i64 2147483647)], .agg [.lit (.int .i64 (-9223372036854775808)), .lit (.int .i64 9223372036854775807)]]

/-- 'laws.FnExactNumRange': WHATEVER THE INPUT: true; the input reads as it did. -/
def fnExactNumRangeSpec : ChangeSpec := { name := "fnExactNumRange", vars := ["loop.example/g00901/impl.numRanges"], fn := fun _ => fun
  | [d, g1] => { results := [.lit (.bool true)], args := [d], vars := [g1] }
  | _ => none }
def fnExactNumRangeRow : OpenClaim := { program := "ytmofgjngigbnpacdoor", sum := "8b293520cc60a90c2f18809879a28cdfecc81bc52f56441aa0ecb8555b9ceec5", func := "loop.example/g00901/laws.FnExactNumRange", spec := "fnExactNumRange", named := ["loop.example/g00901/impl.numRanges"], apart := false, laid := [("loop.example/g00901/impl.numRanges", laid_loop_example_g00901_impl_numRanges)] }
def FnExactNumRangeSaid : Prop := fnExactNumRangeRow.holds Tryd.pinned (OpenSpec.ofChange fnExactNumRangeSpec)

/-- ITS FALSE NEIGHBOUR: 'it returns false'. Refute it at one input. -/
def fnExactNumRangeWrong : ChangeSpec := { name := "fnExactNumRange", vars := ["loop.example/g00901/impl.numRanges"], fn := fun _ => fun
  | [d, g1] => { results := [.lit (.bool false)], args := [d], vars := [g1] }
  | _ => none }
def FnExactNumRangeWrongFalsely : Prop := fnExactNumRangeRow.holds Tryd.pinned (OpenSpec.ofChange fnExactNumRangeWrong)

/- THE SECOND FORM. 'bulk': how many values and letters a reading holds, each counted each time it is reached (what is shared counts as often as it is met; a slice's spare places count too). A statement '..UptoSaid' is the law's where the arguments, and the package variables that the reading takes, are together of bulk at most 1048576: NARROWER than '..Said'. Prove '..Said' where nothing that the law and all that it calls make is longer than what came in: it says more and counts as full. Else prove '..UptoSaid'. A law counts once. -/
mutual
def uptoBulk {H : Type} : DataW H → Nat
  | .lit (.string bytes) => bytes.length + 1
  | .lit _ => 1
  | .nil => 1
  | .ptr d => uptoBulk d + 1
  | .slice elems spare => uptoBulkAll elems + uptoBulkAll spare + 1
  | .agg parts => uptoBulkAll parts + 1
  | .iface _ d => uptoBulk d + 1
  | .map entries => uptoBulkEntries entries + 1
  | .held _ => 1
def uptoBulkAll {H : Type} : List (DataW H) → Nat
  | [] => 0
  | d :: r => uptoBulk d + uptoBulkAll r
def uptoBulkEntries {H : Type} : List (Lit × DataW H) → Nat
  | [] => 0
  | x :: r => uptoBulkEntry x + uptoBulkEntries r
def uptoBulkEntry {H : Type} : Lit × DataW H → Nat
  | (.string bytes, d) => bytes.length + uptoBulk d + 1
  | (_, d) => uptoBulk d + 1
 end
def uptoSmall : (H : Type) → List (DataW H) → Bool := fun _ ds => decide (uptoBulkAll ds ≤ 1048576)
def OpenSpec.upto (s : _root_.Go.ChangeSpec) : _root_.Go.OpenSpec := { _root_.Go.OpenSpec.ofChange s with cond := some uptoSmall }

/-- 'laws.FnExactNumRange', WHERE WHAT IT READS IS OF BULK AT MOST 1048576: true; the input reads as it did. -/
def fnExactNumRangeUptoRow : OpenClaim := { program := "ytmofgjngigbnpacdoor", sum := "8b293520cc60a90c2f18809879a28cdfecc81bc52f56441aa0ecb8555b9ceec5", func := "loop.example/g00901/laws.FnExactNumRange", spec := "fnExactNumRange", named := ["loop.example/g00901/impl.numRanges"], apart := false, laid := [("loop.example/g00901/impl.numRanges", laid_loop_example_g00901_impl_numRanges)], narrowed := true }
def FnExactNumRangeUptoSaid : Prop := fnExactNumRangeUptoRow.holds Tryd.pinned (OpenSpec.upto fnExactNumRangeSpec)

end Rows
end Go.Proofs.YtmofgjngigbnpacDoor
