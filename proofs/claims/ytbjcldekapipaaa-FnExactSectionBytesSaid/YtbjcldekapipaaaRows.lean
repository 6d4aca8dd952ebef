/-
  No cell of these rows narrows 'for every input' (looked for: loops, veiled, ifaces, maps, wideKeys, modest, calm, conditions, laid).
  DERIVED. THE GIVEN ROWS OF THIS SEAT. 3 by the template 'for every input the law returns true; each argument reads behind the call as it read before'; 0 by the template 'total and deterministic' (their statements: YtbjcldekapipaaaTotals.lean).
  GIVEN WITH THE SEED: the statements are not yours to turn. If you find one false, say at which input.
  Laid BY PROGRAM, IN A SANDBOX (cutbox-rows.mjs): the forced cells as the released guide's own fill.sh prints them over the translation 272e48553873ecdb… (all of the seat's roots in one cut). By AI agents, Wed Nov 11 2026. No macro, syntax, notation, axiom, sorry.
-/
import Derived.Test.YtbjcldekapipaaaChecked
import GoSem.Claim
import GoSem.ClaimJoined
import GoSem.ClaimMapViews
import Derived.JoinedTies
import Derived.KernelRfl
namespace Go.Proofs.Ytbjcldekapipaaa
/- THE CELL 'sum', in the pinned program and in every row, IS THE sha256 OF THE DUMP (.gsa) THAT YtbjcldekapipaaaProg.lean LOADS. Nothing in Lean hashes anything: it is a label: what it is worth is what the hold of that sum in a sandbox is worth. -/
noncomputable def Try.pinned : Pinned := { name := "ytbjcldekapipaaa", sum := "272e48553873ecdbea9876d78b0025325d31e34e2bc527c4e8bafd586918a7c3", checked := Try.checked }
namespace Rows
def none {H : Type} : Left H := { results := [], args := [] }

/-- 'laws.FnExactSameMachine': WHATEVER THE INPUT: true; the input reads as it did. -/
def fnExactSameMachineSpec : ChangeSpec := { name := "fnExactSameMachine", fn := fun _ => fun
  | [d1, d2] => { results := [.lit (.bool true)], args := [d1, d2] }
  | _ => none }
def fnExactSameMachineRow : OpenClaim := { program := "ytbjcldekapipaaa", sum := "272e48553873ecdbea9876d78b0025325d31e34e2bc527c4e8bafd586918a7c3", func := "loop.example/g00901/laws.FnExactSameMachine", spec := "fnExactSameMachine", unfollowed := true, recurses := true, apart := false }
def FnExactSameMachineSaid : Prop := fnExactSameMachineRow.holds Try.pinned (OpenSpec.ofChange fnExactSameMachineSpec)

/-- ITS FALSE NEIGHBOUR: 'it returns false'. Refute it at one input. -/
def fnExactSameMachineWrong : ChangeSpec := { name := "fnExactSameMachine", fn := fun _ => fun
  | [d1, d2] => { results := [.lit (.bool false)], args := [d1, d2] }
  | _ => none }
def FnExactSameMachineWrongFalsely : Prop := fnExactSameMachineRow.holds Try.pinned (OpenSpec.ofChange fnExactSameMachineWrong)

/-- 'laws.FnExactSectionBytes': WHATEVER THE INPUT: true; the input reads as it did. -/
def fnExactSectionBytesSpec : ChangeSpec := { name := "fnExactSectionBytes", fn := fun _ => fun
  | [d] => { results := [.lit (.bool true)], args := [d] }
  | _ => none }
def fnExactSectionBytesRow : OpenClaim := { program := "ytbjcldekapipaaa", sum := "272e48553873ecdbea9876d78b0025325d31e34e2bc527c4e8bafd586918a7c3", func := "loop.example/g00901/laws.FnExactSectionBytes", spec := "fnExactSectionBytes", unfollowed := true, recurses := true, apart := false }
def FnExactSectionBytesSaid : Prop := fnExactSectionBytesRow.holds Try.pinned (OpenSpec.ofChange fnExactSectionBytesSpec)

/-- ITS FALSE NEIGHBOUR: 'it returns false'. Refute it at one input. -/
def fnExactSectionBytesWrong : ChangeSpec := { name := "fnExactSectionBytes", fn := fun _ => fun
  | [d] => { results := [.lit (.bool false)], args := [d] }
  | _ => none }
def FnExactSectionBytesWrongFalsely : Prop := fnExactSectionBytesRow.holds Try.pinned (OpenSpec.ofChange fnExactSectionBytesWrong)

/-- 'laws.FnAlloc': WHATEVER THE INPUT: true; the input reads as it did. -/
def fnAllocSpec : ChangeSpec := { name := "fnAlloc", fn := fun _ => fun
  | [d1, d2] => { results := [.lit (.bool true)], args := [d1, d2] }
  | _ => none }
def fnAllocRow : OpenClaim := { program := "ytbjcldekapipaaa", sum := "272e48553873ecdbea9876d78b0025325d31e34e2bc527c4e8bafd586918a7c3", func := "loop.example/g00901/laws.FnAlloc", spec := "fnAlloc", apart := false }
def FnAllocSaid : Prop := fnAllocRow.holds Try.pinned (OpenSpec.ofChange fnAllocSpec)

/-- ITS FALSE NEIGHBOUR: 'it returns false'. Refute it at one input. -/
def fnAllocWrong : ChangeSpec := { name := "fnAlloc", fn := fun _ => fun
  | [d1, d2] => { results := [.lit (.bool false)], args := [d1, d2] }
  | _ => none }
def FnAllocWrongFalsely : Prop := fnAllocRow.holds Try.pinned (OpenSpec.ofChange fnAllocWrong)

/- THE SECOND FORM. 'bulk': how many values and letters a reading holds, each counted each time it is reached (what is shared counts as often as it is met; a slice's spare places count too). A statement '..UptoSaid' is the law's where the arguments, and the package variables that the reading takes, are together of bulk at most 1048576: NARROWER than '..Said'. Prove '..Said' where nothing that the law and all that it calls make is longer than what came in: it says more and counts as full. Else prove '..UptoSaid'. A law counts once. -/
mutual
def uptoBulk {H : Type} : DataW H → Nat
  | .lit (.string bytes) => bytes.length + 1
  | .lit _ => 1
  | .nil => 1
  | .ptr d => uptoBulk d + 1
  | .slice elems spare => uptoBulkAll elems + uptoBulkAll spare + 1
  | .agg parts => uptoBulkAll parts + 1
  | .iface _ d => uptoBulk d + 1
  | .map entries => uptoBulkEntries entries + 1
  | .held _ => 1
def uptoBulkAll {H : Type} : List (DataW H) → Nat
  | [] => 0
  | d :: r => uptoBulk d + uptoBulkAll r
def uptoBulkEntries {H : Type} : List (Lit × DataW H) → Nat
  | [] => 0
  | x :: r => uptoBulkEntry x + uptoBulkEntries r
def uptoBulkEntry {H : Type} : Lit × DataW H → Nat
  | (.string bytes, d) => bytes.length + uptoBulk d + 1
  | (_, d) => uptoBulk d + 1
 end
def uptoSmall : (H : Type) → List (DataW H) → Bool := fun _ ds => decide (uptoBulkAll ds ≤ 1048576)
def OpenSpec.upto (s : _root_.Go.ChangeSpec) : _root_.Go.OpenSpec := { _root_.Go.OpenSpec.ofChange s with cond := some uptoSmall }

/-- 'laws.FnExactSameMachine', WHERE WHAT IT READS IS OF BULK AT MOST 1048576: true; the input reads as it did. -/
def fnExactSameMachineUptoRow : OpenClaim := { program := "ytbjcldekapipaaa", sum := "272e48553873ecdbea9876d78b0025325d31e34e2bc527c4e8bafd586918a7c3", func := "loop.example/g00901/laws.FnExactSameMachine", spec := "fnExactSameMachine", unfollowed := true, recurses := true, apart := false, narrowed := true }
def FnExactSameMachineUptoSaid : Prop := fnExactSameMachineUptoRow.holds Try.pinned (OpenSpec.upto fnExactSameMachineSpec)

/-- 'laws.FnExactSectionBytes', WHERE WHAT IT READS IS OF BULK AT MOST 1048576: true; the input reads as it did. -/
def fnExactSectionBytesUptoRow : OpenClaim := { program := "ytbjcldekapipaaa", sum := "272e48553873ecdbea9876d78b0025325d31e34e2bc527c4e8bafd586918a7c3", func := "loop.example/g00901/laws.FnExactSectionBytes", spec := "fnExactSectionBytes", unfollowed := true, recurses := true, apart := false, narrowed := true }
def FnExactSectionBytesUptoSaid : Prop := fnExactSectionBytesUptoRow.holds Try.pinned (OpenSpec.upto fnExactSectionBytesSpec)

/-- 'laws.FnAlloc', WHERE WHAT IT READS IS OF BULK AT MOST 1048576: true; the input reads as it did. -/
def fnAllocUptoRow : OpenClaim := { program := "ytbjcldekapipaaa", sum := "272e48553873ecdbea9876d78b0025325d31e34e2bc527c4e8bafd586918a7c3", func := "loop.example/g00901/laws.FnAlloc", spec := "fnAlloc", apart := false, narrowed := true }
def FnAllocUptoSaid : Prop := fnAllocUptoRow.holds Try.pinned (OpenSpec.upto fnAllocSpec)

end Rows
end Go.Proofs.Ytbjcldekapipaaa
