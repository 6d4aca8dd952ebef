/-
  NARROWER THAN 'FOR EVERY INPUT', by the rows' own cells (each row's printed sentence says how): FnExactSameFunc: loops · FnExactSameFace: loops.
  DERIVED. THE GIVEN ROWS OF THIS SEAT. 3 by the template 'for every input the law returns true; each argument reads behind the call as it read before'; 0 by the template 'total and deterministic' (their statements: YtmofgjngigbnpabTotals.lean).
  GIVEN WITH THE SEED: the statements are not yours to turn. If you find one false, say at which input.
  Laid BY PROGRAM, IN A SANDBOX (cutbox-rows.mjs): the forced cells as the released guide's own fill.sh prints them over the translation 9f980c27a9890e48… (all of the seat's roots in one cut). By AI agents, Wed Nov 11 2026. No macro, syntax, notation, axiom, sorry.
-/
import Derived.Test.YtmofgjngigbnpabChecked
import GoSem.Claim
import GoSem.ClaimJoined
import GoSem.ClaimMapViews
import Derived.JoinedTies
import Derived.KernelRfl
namespace Go.Proofs.Ytmofgjngigbnpab
/- THE CELL 'sum', in the pinned program and in every row, IS THE sha256 OF THE DUMP (.gsa) THAT YtmofgjngigbnpabProg.lean LOADS. Nothing in Lean hashes anything: it is a label: what it is worth is what the hold of that sum in a sandbox is worth. -/
noncomputable def Try.pinned : Pinned := { name := "ytmofgjngigbnpab", sum := "9f980c27a9890e482637053f111cd97dd6e835438921eee5b85f61fc308f2e4a", checked := Try.checked }
namespace Rows
def none {H : Type} : Left H := { results := [], args := [] }

/-- 'laws.FnExactSameFunc': WHATEVER THE INPUT: true; the input reads as it did. -/
def fnExactSameFuncSpec : ChangeSpec := { name := "fnExactSameFunc", fn := fun _ => fun
  | [d1, d2] => { results := [.lit (.bool true)], args := [d1, d2] }
  | _ => none }
def fnExactSameFuncRow : OpenClaim := { program := "ytmofgjngigbnpab", sum := "9f980c27a9890e482637053f111cd97dd6e835438921eee5b85f61fc308f2e4a", func := "loop.example/g00901/laws.FnExactSameFunc", spec := "fnExactSameFunc", unfollowed := true, recurses := true, loops := true, plainKeys := false, apart := false }
def FnExactSameFuncSaid : Prop := fnExactSameFuncRow.holds Try.pinned (OpenSpec.ofChange fnExactSameFuncSpec)

/-- ITS FALSE NEIGHBOUR: 'it returns false'. Refute it at one input. -/
def fnExactSameFuncWrong : ChangeSpec := { name := "fnExactSameFunc", fn := fun _ => fun
  | [d1, d2] => { results := [.lit (.bool false)], args := [d1, d2] }
  | _ => none }
def FnExactSameFuncWrongFalsely : Prop := fnExactSameFuncRow.holds Try.pinned (OpenSpec.ofChange fnExactSameFuncWrong)

/-- 'laws.FnExactSameFace': WHATEVER THE INPUT: true; the input reads as it did. -/
def fnExactSameFaceSpec : ChangeSpec := { name := "fnExactSameFace", fn := fun _ => fun
  | [d1, d2] => { results := [.lit (.bool true)], args := [d1, d2] }
  | _ => none }
def fnExactSameFaceRow : OpenClaim := { program := "ytmofgjngigbnpab", sum := "9f980c27a9890e482637053f111cd97dd6e835438921eee5b85f61fc308f2e4a", func := "loop.example/g00901/laws.FnExactSameFace", spec := "fnExactSameFace", unfollowed := true, recurses := true, loops := true, plainKeys := false, apart := false }
def FnExactSameFaceSaid : Prop := fnExactSameFaceRow.holds Try.pinned (OpenSpec.ofChange fnExactSameFaceSpec)

/-- ITS FALSE NEIGHBOUR: 'it returns false'. Refute it at one input. -/
def fnExactSameFaceWrong : ChangeSpec := { name := "fnExactSameFace", fn := fun _ => fun
  | [d1, d2] => { results := [.lit (.bool false)], args := [d1, d2] }
  | _ => none }
def FnExactSameFaceWrongFalsely : Prop := fnExactSameFaceRow.holds Try.pinned (OpenSpec.ofChange fnExactSameFaceWrong)

/-- 'laws.FnExactCharOk': WHATEVER THE INPUT: true; the input reads as it did. -/
def fnExactCharOkSpec : ChangeSpec := { name := "fnExactCharOk", fn := fun _ => fun
  | [d] => { results := [.lit (.bool true)], args := [d] }
  | _ => none }
def fnExactCharOkRow : OpenClaim := { program := "ytmofgjngigbnpab", sum := "9f980c27a9890e482637053f111cd97dd6e835438921eee5b85f61fc308f2e4a", func := "loop.example/g00901/laws.FnExactCharOk", spec := "fnExactCharOk", plainKeys := false, apart := false }
def FnExactCharOkSaid : Prop := fnExactCharOkRow.holds Try.pinned (OpenSpec.ofChange fnExactCharOkSpec)

/-- ITS FALSE NEIGHBOUR: 'it returns false'. Refute it at one input. -/
def fnExactCharOkWrong : ChangeSpec := { name := "fnExactCharOk", fn := fun _ => fun
  | [d] => { results := [.lit (.bool false)], args := [d] }
  | _ => none }
def FnExactCharOkWrongFalsely : Prop := fnExactCharOkRow.holds Try.pinned (OpenSpec.ofChange fnExactCharOkWrong)

/- THE SECOND FORM. 'bulk': how many values and letters a reading holds, each counted each time it is reached (what is shared counts as often as it is met; a slice's spare places count too). A statement '..UptoSaid' is the law's where the arguments, and the package variables that the reading takes, are together of bulk at most 1048576: NARROWER than '..Said'. Prove '..Said' where nothing that the law and all that it calls make is longer than what came in: it says more and counts as full. Else prove '..UptoSaid'. A law counts once. -/
mutual
def uptoBulk {H : Type} : DataW H → Nat
  | .lit (.string bytes) => bytes.length + 1
  | .lit _ => 1
  | .nil => 1
  | .ptr d => uptoBulk d + 1
  | .slice elems spare => uptoBulkAll elems + uptoBulkAll spare + 1
  | .agg parts => uptoBulkAll parts + 1
  | .iface _ d => uptoBulk d + 1
  | .map entries => uptoBulkEntries entries + 1
  | .held _ => 1
def uptoBulkAll {H : Type} : List (DataW H) → Nat
  | [] => 0
  | d :: r => uptoBulk d + uptoBulkAll r
def uptoBulkEntries {H : Type} : List (Lit × DataW H) → Nat
  | [] => 0
  | x :: r => uptoBulkEntry x + uptoBulkEntries r
def uptoBulkEntry {H : Type} : Lit × DataW H → Nat
  | (.string bytes, d) => bytes.length + uptoBulk d + 1
  | (_, d) => uptoBulk d + 1
 end
def uptoSmall : (H : Type) → List (DataW H) → Bool := fun _ ds => decide (uptoBulkAll ds ≤ 1048576)
def OpenSpec.upto (s : _root_.Go.ChangeSpec) : _root_.Go.OpenSpec := { _root_.Go.OpenSpec.ofChange s with cond := some uptoSmall }

/-- 'laws.FnExactSameFunc', WHERE WHAT IT READS IS OF BULK AT MOST 1048576: true; the input reads as it did. -/
def fnExactSameFuncUptoRow : OpenClaim := { program := "ytmofgjngigbnpab", sum := "9f980c27a9890e482637053f111cd97dd6e835438921eee5b85f61fc308f2e4a", func := "loop.example/g00901/laws.FnExactSameFunc", spec := "fnExactSameFunc", unfollowed := true, recurses := true, loops := true, plainKeys := false, apart := false, narrowed := true }
def FnExactSameFuncUptoSaid : Prop := fnExactSameFuncUptoRow.holds Try.pinned (OpenSpec.upto fnExactSameFuncSpec)

/-- 'laws.FnExactSameFace', WHERE WHAT IT READS IS OF BULK AT MOST 1048576: true; the input reads as it did. -/
def fnExactSameFaceUptoRow : OpenClaim := { program := "ytmofgjngigbnpab", sum := "9f980c27a9890e482637053f111cd97dd6e835438921eee5b85f61fc308f2e4a", func := "loop.example/g00901/laws.FnExactSameFace", spec := "fnExactSameFace", unfollowed := true, recurses := true, loops := true, plainKeys := false, apart := false, narrowed := true }
def FnExactSameFaceUptoSaid : Prop := fnExactSameFaceUptoRow.holds Try.pinned (OpenSpec.upto fnExactSameFaceSpec)

/-- 'laws.FnExactCharOk', WHERE WHAT IT READS IS OF BULK AT MOST 1048576: true; the input reads as it did. -/
def fnExactCharOkUptoRow : OpenClaim := { program := "ytmofgjngigbnpab", sum := "9f980c27a9890e482637053f111cd97dd6e835438921eee5b85f61fc308f2e4a", func := "loop.example/g00901/laws.FnExactCharOk", spec := "fnExactCharOk", plainKeys := false, apart := false, narrowed := true }
def FnExactCharOkUptoSaid : Prop := fnExactCharOkUptoRow.holds Try.pinned (OpenSpec.upto fnExactCharOkSpec)

end Rows
end Go.Proofs.Ytmofgjngigbnpab
