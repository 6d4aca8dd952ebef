/-
  NARROWER THAN 'FOR EVERY INPUT', by the rows' own cells (each row's printed sentence says how): FnExactCopiedBytes: loops · FnExactSamePlan: loops.
  DERIVED. THE GIVEN ROWS OF THIS SEAT. 7 by the template 'for every input the law returns true; each argument reads behind the call as it read before'; 0 by the template 'total and deterministic' (their statements: YthdnklhaagofhaaTotals.lean).
  GIVEN WITH THE SEED: the statements are not yours to turn. If you find one false, say at which input.
  Laid BY PROGRAM, IN A SANDBOX (cutbox-rows.mjs): the forced cells as the released guide's own fill.sh prints them over the translation 4f9efc072b377168… (all of the seat's roots in one cut). By AI agents, Wed Nov 11 2026. No macro, syntax, notation, axiom, sorry.
-/
import Derived.Test.YthdnklhaagofhaaChecked
import GoSem.Claim
import GoSem.ClaimJoined
import GoSem.ClaimMapViews
import Derived.JoinedTies
import Derived.KernelRfl
namespace Go.Proofs.Ythdnklhaagofhaa
/- THE CELL 'sum', in the pinned program and in every row, IS THE sha256 OF THE DUMP (.gsa) THAT YthdnklhaagofhaaProg.lean LOADS. Nothing in Lean hashes anything: it is a label: what it is worth is what the hold of that sum in a sandbox is worth. -/
noncomputable def Try.pinned : Pinned := { name := "ythdnklhaagofhaa", sum := "4f9efc072b37716879e15ca4d33637a8d7f9301fc67429c989fd3ead1b1f5b17", checked := Try.checked }
namespace Rows
def none {H : Type} : Left H := { results := [], args := [] }

/-- 'laws.FnLeb': WHATEVER THE INPUT: true; the input reads as it did. -/
def fnLebSpec : ChangeSpec := { name := "fnLeb", fn := fun _ => fun
  | [d1, d2] => { results := [.lit (.bool true)], args := [d1, d2] }
  | _ => none }
def fnLebRow : OpenClaim := { program := "ythdnklhaagofhaa", sum := "4f9efc072b37716879e15ca4d33637a8d7f9301fc67429c989fd3ead1b1f5b17", func := "loop.example/g00901/laws.FnLeb", spec := "fnLeb", inPlace := ["internal/bytealg.IndexByteString", "internal/bytealg.IndexString"], unfollowed := true, recurses := true, named := ["internal/bytealg.MaxLen"], plainKeys := false, apart := false }
def FnLebSaid : Prop := fnLebRow.holds Try.pinned (OpenSpec.ofChange fnLebSpec)

/-- ITS FALSE NEIGHBOUR: 'it returns false'. Refute it at one input. -/
def fnLebWrong : ChangeSpec := { name := "fnLeb", fn := fun _ => fun
  | [d1, d2] => { results := [.lit (.bool false)], args := [d1, d2] }
  | _ => none }
def FnLebWrongFalsely : Prop := fnLebRow.holds Try.pinned (OpenSpec.ofChange fnLebWrong)

/-- 'laws.FnLayout': WHATEVER THE INPUT: true; the input reads as it did. -/
def fnLayoutSpec : ChangeSpec := { name := "fnLayout", fn := fun _ => fun
  | [d1, d2] => { results := [.lit (.bool true)], args := [d1, d2] }
  | _ => none }
def fnLayoutRow : OpenClaim := { program := "ythdnklhaagofhaa", sum := "4f9efc072b37716879e15ca4d33637a8d7f9301fc67429c989fd3ead1b1f5b17", func := "loop.example/g00901/laws.FnLayout", spec := "fnLayout", unfollowed := true, recurses := true, plainKeys := false, apart := false }
def FnLayoutSaid : Prop := fnLayoutRow.holds Try.pinned (OpenSpec.ofChange fnLayoutSpec)

/-- ITS FALSE NEIGHBOUR: 'it returns false'. Refute it at one input. -/
def fnLayoutWrong : ChangeSpec := { name := "fnLayout", fn := fun _ => fun
  | [d1, d2] => { results := [.lit (.bool false)], args := [d1, d2] }
  | _ => none }
def FnLayoutWrongFalsely : Prop := fnLayoutRow.holds Try.pinned (OpenSpec.ofChange fnLayoutWrong)

/-- 'laws.FnOffsetsApart': WHATEVER THE INPUT: true; the input reads as it did. -/
def fnOffsetsApartSpec : ChangeSpec := { name := "fnOffsetsApart", fn := fun _ => fun
  | [d1, d2] => { results := [.lit (.bool true)], args := [d1, d2] }
  | _ => none }
def fnOffsetsApartRow : OpenClaim := { program := "ythdnklhaagofhaa", sum := "4f9efc072b37716879e15ca4d33637a8d7f9301fc67429c989fd3ead1b1f5b17", func := "loop.example/g00901/laws.FnOffsetsApart", spec := "fnOffsetsApart", unfollowed := true, recurses := true, plainKeys := false, apart := false }
def FnOffsetsApartSaid : Prop := fnOffsetsApartRow.holds Try.pinned (OpenSpec.ofChange fnOffsetsApartSpec)

/-- ITS FALSE NEIGHBOUR: 'it returns false'. Refute it at one input. -/
def fnOffsetsApartWrong : ChangeSpec := { name := "fnOffsetsApart", fn := fun _ => fun
  | [d1, d2] => { results := [.lit (.bool false)], args := [d1, d2] }
  | _ => none }
def FnOffsetsApartWrongFalsely : Prop := fnOffsetsApartRow.holds Try.pinned (OpenSpec.ofChange fnOffsetsApartWrong)

/-- 'laws.FnAlloc': WHATEVER THE INPUT: true; the input reads as it did. -/
def fnAllocSpec : ChangeSpec := { name := "fnAlloc", fn := fun _ => fun
  | [d1, d2] => { results := [.lit (.bool true)], args := [d1, d2] }
  | _ => none }
def fnAllocRow : OpenClaim := { program := "ythdnklhaagofhaa", sum := "4f9efc072b37716879e15ca4d33637a8d7f9301fc67429c989fd3ead1b1f5b17", func := "loop.example/g00901/laws.FnAlloc", spec := "fnAlloc", plainKeys := false, apart := false }
def FnAllocSaid : Prop := fnAllocRow.holds Try.pinned (OpenSpec.ofChange fnAllocSpec)

/-- ITS FALSE NEIGHBOUR: 'it returns false'. Refute it at one input. -/
def fnAllocWrong : ChangeSpec := { name := "fnAlloc", fn := fun _ => fun
  | [d1, d2] => { results := [.lit (.bool false)], args := [d1, d2] }
  | _ => none }
def FnAllocWrongFalsely : Prop := fnAllocRow.holds Try.pinned (OpenSpec.ofChange fnAllocWrong)

/-- 'laws.FnFree': WHATEVER THE INPUT: true; the input reads as it did. -/
def fnFreeSpec : ChangeSpec := { name := "fnFree", fn := fun _ => fun
  | [d1, d2] => { results := [.lit (.bool true)], args := [d1, d2] }
  | _ => none }
def fnFreeRow : OpenClaim := { program := "ythdnklhaagofhaa", sum := "4f9efc072b37716879e15ca4d33637a8d7f9301fc67429c989fd3ead1b1f5b17", func := "loop.example/g00901/laws.FnFree", spec := "fnFree", inPlace := ["internal/abi.NoEscape", "internal/bytealg.MakeNoZero"], plainKeys := false, apart := false }
def FnFreeSaid : Prop := fnFreeRow.holds Try.pinned (OpenSpec.ofChange fnFreeSpec)

/-- ITS FALSE NEIGHBOUR: 'it returns false'. Refute it at one input. -/
def fnFreeWrong : ChangeSpec := { name := "fnFree", fn := fun _ => fun
  | [d1, d2] => { results := [.lit (.bool false)], args := [d1, d2] }
  | _ => none }
def FnFreeWrongFalsely : Prop := fnFreeRow.holds Try.pinned (OpenSpec.ofChange fnFreeWrong)

/-- 'laws.FnExactCopiedBytes': WHATEVER THE INPUT: true; the input reads as it did. -/
def fnExactCopiedBytesSpec : ChangeSpec := { name := "fnExactCopiedBytes", fn := fun _ => fun
  | [d] => { results := [.lit (.bool true)], args := [d] }
  | _ => none }
def fnExactCopiedBytesRow : OpenClaim := { program := "ythdnklhaagofhaa", sum := "4f9efc072b37716879e15ca4d33637a8d7f9301fc67429c989fd3ead1b1f5b17", func := "loop.example/g00901/laws.FnExactCopiedBytes", spec := "fnExactCopiedBytes", recurses := true, loops := true, plainKeys := false, apart := false }
def FnExactCopiedBytesSaid : Prop := fnExactCopiedBytesRow.holds Try.pinned (OpenSpec.ofChange fnExactCopiedBytesSpec)

/-- ITS FALSE NEIGHBOUR: 'it returns false'. Refute it at one input. -/
def fnExactCopiedBytesWrong : ChangeSpec := { name := "fnExactCopiedBytes", fn := fun _ => fun
  | [d] => { results := [.lit (.bool false)], args := [d] }
  | _ => none }
def FnExactCopiedBytesWrongFalsely : Prop := fnExactCopiedBytesRow.holds Try.pinned (OpenSpec.ofChange fnExactCopiedBytesWrong)

/-- 'laws.FnExactSamePlan': WHATEVER THE INPUT: true; the input reads as it did. -/
def fnExactSamePlanSpec : ChangeSpec := { name := "fnExactSamePlan", fn := fun _ => fun
  | [d1, d2] => { results := [.lit (.bool true)], args := [d1, d2] }
  | _ => none }
def fnExactSamePlanRow : OpenClaim := { program := "ythdnklhaagofhaa", sum := "4f9efc072b37716879e15ca4d33637a8d7f9301fc67429c989fd3ead1b1f5b17", func := "loop.example/g00901/laws.FnExactSamePlan", spec := "fnExactSamePlan", unfollowed := true, recurses := true, loops := true, plainKeys := false, apart := false }
def FnExactSamePlanSaid : Prop := fnExactSamePlanRow.holds Try.pinned (OpenSpec.ofChange fnExactSamePlanSpec)

/-- ITS FALSE NEIGHBOUR: 'it returns false'. Refute it at one input. -/
def fnExactSamePlanWrong : ChangeSpec := { name := "fnExactSamePlan", fn := fun _ => fun
  | [d1, d2] => { results := [.lit (.bool false)], args := [d1, d2] }
  | _ => none }
def FnExactSamePlanWrongFalsely : Prop := fnExactSamePlanRow.holds Try.pinned (OpenSpec.ofChange fnExactSamePlanWrong)

/- THE SECOND FORM. 'bulk': how many values and letters a reading holds, each counted each time it is reached (what is shared counts as often as it is met; a slice's spare places count too). A statement '..UptoSaid' is the law's where the arguments, and the package variables that the reading takes, are together of bulk at most 1048576: NARROWER than '..Said'. Prove '..Said' where nothing that the law and all that it calls make is longer than what came in: it says more and counts as full. Else prove '..UptoSaid'. A law counts once. -/
mutual
def uptoBulk {H : Type} : DataW H → Nat
  | .lit (.string bytes) => bytes.length + 1
  | .lit _ => 1
  | .nil => 1
  | .ptr d => uptoBulk d + 1
  | .slice elems spare => uptoBulkAll elems + uptoBulkAll spare + 1
  | .agg parts => uptoBulkAll parts + 1
  | .iface _ d => uptoBulk d + 1
  | .map entries => uptoBulkEntries entries + 1
  | .held _ => 1
def uptoBulkAll {H : Type} : List (DataW H) → Nat
  | [] => 0
  | d :: r => uptoBulk d + uptoBulkAll r
def uptoBulkEntries {H : Type} : List (Lit × DataW H) → Nat
  | [] => 0
  | x :: r => uptoBulkEntry x + uptoBulkEntries r
def uptoBulkEntry {H : Type} : Lit × DataW H → Nat
  | (.string bytes, d) => bytes.length + uptoBulk d + 1
  | (_, d) => uptoBulk d + 1
 end
def uptoSmall : (H : Type) → List (DataW H) → Bool := fun _ ds => decide (uptoBulkAll ds ≤ 1048576)
def OpenSpec.upto (s : _root_.Go.ChangeSpec) : _root_.Go.OpenSpec := { _root_.Go.OpenSpec.ofChange s with cond := some uptoSmall }

/-- 'laws.FnLeb', WHERE WHAT IT READS IS OF BULK AT MOST 1048576: true; the input reads as it did. -/
def fnLebUptoRow : OpenClaim := { program := "ythdnklhaagofhaa", sum := "4f9efc072b37716879e15ca4d33637a8d7f9301fc67429c989fd3ead1b1f5b17", func := "loop.example/g00901/laws.FnLeb", spec := "fnLeb", inPlace := ["internal/bytealg.IndexByteString", "internal/bytealg.IndexString"], unfollowed := true, recurses := true, named := ["internal/bytealg.MaxLen"], plainKeys := false, apart := false, narrowed := true }
def FnLebUptoSaid : Prop := fnLebUptoRow.holds Try.pinned (OpenSpec.upto fnLebSpec)

/-- 'laws.FnLayout', WHERE WHAT IT READS IS OF BULK AT MOST 1048576: true; the input reads as it did. -/
def fnLayoutUptoRow : OpenClaim := { program := "ythdnklhaagofhaa", sum := "4f9efc072b37716879e15ca4d33637a8d7f9301fc67429c989fd3ead1b1f5b17", func := "loop.example/g00901/laws.FnLayout", spec := "fnLayout", unfollowed := true, recurses := true, plainKeys := false, apart := false, narrowed := true }
def FnLayoutUptoSaid : Prop := fnLayoutUptoRow.holds Try.pinned (OpenSpec.upto fnLayoutSpec)

/-- 'laws.FnOffsetsApart', WHERE WHAT IT READS IS OF BULK AT MOST 1048576: true; the input reads as it did. -/
def fnOffsetsApartUptoRow : OpenClaim := { program := "ythdnklhaagofhaa", sum := "4f9efc072b37716879e15ca4d33637a8d7f9301fc67429c989fd3ead1b1f5b17", func := "loop.example/g00901/laws.FnOffsetsApart", spec := "fnOffsetsApart", unfollowed := true, recurses := true, plainKeys := false, apart := false, narrowed := true }
def FnOffsetsApartUptoSaid : Prop := fnOffsetsApartUptoRow.holds Try.pinned (OpenSpec.upto fnOffsetsApartSpec)

/-- 'laws.FnAlloc', WHERE WHAT IT READS IS OF BULK AT MOST 1048576: true; the input reads as it did. -/
def fnAllocUptoRow : OpenClaim := { program := "ythdnklhaagofhaa", sum := "4f9efc072b37716879e15ca4d33637a8d7f9301fc67429c989fd3ead1b1f5b17", func := "loop.example/g00901/laws.FnAlloc", spec := "fnAlloc", plainKeys := false, apart := false, narrowed := true }
def FnAllocUptoSaid : Prop := fnAllocUptoRow.holds Try.pinned (OpenSpec.upto fnAllocSpec)

/-- 'laws.FnFree', WHERE WHAT IT READS IS OF BULK AT MOST 1048576: true; the input reads as it did. -/
def fnFreeUptoRow : OpenClaim := { program := "ythdnklhaagofhaa", sum := "4f9efc072b37716879e15ca4d33637a8d7f9301fc67429c989fd3ead1b1f5b17", func := "loop.example/g00901/laws.FnFree", spec := "fnFree", inPlace := ["internal/abi.NoEscape", "internal/bytealg.MakeNoZero"], plainKeys := false, apart := false, narrowed := true }
def FnFreeUptoSaid : Prop := fnFreeUptoRow.holds Try.pinned (OpenSpec.upto fnFreeSpec)

/-- 'laws.FnExactCopiedBytes', WHERE WHAT IT READS IS OF BULK AT MOST 1048576: true; the input reads as it did. -/
def fnExactCopiedBytesUptoRow : OpenClaim := { program := "ythdnklhaagofhaa", sum := "4f9efc072b37716879e15ca4d33637a8d7f9301fc67429c989fd3ead1b1f5b17", func := "loop.example/g00901/laws.FnExactCopiedBytes", spec := "fnExactCopiedBytes", recurses := true, loops := true, plainKeys := false, apart := false, narrowed := true }
def FnExactCopiedBytesUptoSaid : Prop := fnExactCopiedBytesUptoRow.holds Try.pinned (OpenSpec.upto fnExactCopiedBytesSpec)

/-- 'laws.FnExactSamePlan', WHERE WHAT IT READS IS OF BULK AT MOST 1048576: true; the input reads as it did. -/
def fnExactSamePlanUptoRow : OpenClaim := { program := "ythdnklhaagofhaa", sum := "4f9efc072b37716879e15ca4d33637a8d7f9301fc67429c989fd3ead1b1f5b17", func := "loop.example/g00901/laws.FnExactSamePlan", spec := "fnExactSamePlan", unfollowed := true, recurses := true, loops := true, plainKeys := false, apart := false, narrowed := true }
def FnExactSamePlanUptoSaid : Prop := fnExactSamePlanUptoRow.holds Try.pinned (OpenSpec.upto fnExactSamePlanSpec)

end Rows
end Go.Proofs.Ythdnklhaagofhaa
