/-
  NARROWER THAN 'FOR EVERY INPUT', by the rows' own cells (each row's printed sentence says how): FnExactPartsAt: loops · FnExactTotalSize: loops · FnExactTotalAlign: loops · FnExactCasesOf: loops · FnExactCaseAt: loops.
  DERIVED. THE GIVEN ROWS OF THIS SEAT. 5 by the template 'for every input the law returns true; each argument reads behind the call as it read before'; 0 by the template 'total and deterministic' (their statements: YtbdnlloadmleaabTotals.lean).
  GIVEN WITH THE SEED: the statements are not yours to turn. If you find one false, say at which input.
  Laid BY PROGRAM, IN A SANDBOX (cutbox-rows.mjs): the forced cells as the released guide's own fill.sh prints them over the translation 7a69e4974d248731… (all of the seat's roots in one cut). By AI agents, Wed Nov 11 2026. No macro, syntax, notation, axiom, sorry.
-/
import Derived.Test.YtbdnlloadmleaabChecked
import GoSem.Claim
import GoSem.ClaimJoined
import GoSem.ClaimMapViews
import Derived.JoinedTies
import Derived.KernelRfl
namespace Go.Proofs.Ytbdnlloadmleaab
/- THE CELL 'sum', in the pinned program and in every row, IS THE sha256 OF THE DUMP (.gsa) THAT YtbdnlloadmleaabProg.lean LOADS. Nothing in Lean hashes anything: it is a label: what it is worth is what the hold of that sum in a sandbox is worth. -/
noncomputable def Try.pinned : Pinned := { name := "ytbdnlloadmleaab", sum := "7a69e4974d2487319fdd4288205bbcb12015ea6678aa970a259dfc177248e9df", checked := Try.checked }
namespace Rows
def none {H : Type} : Left H := { results := [], args := [] }

/-- 'laws.FnExactPartsAt': WHATEVER THE INPUT: true; the input reads as it did. -/
def fnExactPartsAtSpec : ChangeSpec := { name := "fnExactPartsAt", fn := fun _ => fun
  | [d] => { results := [.lit (.bool true)], args := [d] }
  | _ => none }
def fnExactPartsAtRow : OpenClaim := { program := "ytbdnlloadmleaab", sum := "7a69e4974d2487319fdd4288205bbcb12015ea6678aa970a259dfc177248e9df", func := "loop.example/g00901/laws.FnExactPartsAt", spec := "fnExactPartsAt", unfollowed := true, recurses := true, loops := true, apart := false }
def FnExactPartsAtSaid : Prop := fnExactPartsAtRow.holds Try.pinned (OpenSpec.ofChange fnExactPartsAtSpec)

/-- ITS FALSE NEIGHBOUR: 'it returns false'. Refute it at one input. -/
def fnExactPartsAtWrong : ChangeSpec := { name := "fnExactPartsAt", fn := fun _ => fun
  | [d] => { results := [.lit (.bool false)], args := [d] }
  | _ => none }
def FnExactPartsAtWrongFalsely : Prop := fnExactPartsAtRow.holds Try.pinned (OpenSpec.ofChange fnExactPartsAtWrong)

/-- 'laws.FnExactTotalSize': WHATEVER THE INPUT: true; the input reads as it did. -/
def fnExactTotalSizeSpec : ChangeSpec := { name := "fnExactTotalSize", fn := fun _ => fun
  | [d] => { results := [.lit (.bool true)], args := [d] }
  | _ => none }
def fnExactTotalSizeRow : OpenClaim := { program := "ytbdnlloadmleaab", sum := "7a69e4974d2487319fdd4288205bbcb12015ea6678aa970a259dfc177248e9df", func := "loop.example/g00901/laws.FnExactTotalSize", spec := "fnExactTotalSize", unfollowed := true, recurses := true, loops := true, apart := false }
def FnExactTotalSizeSaid : Prop := fnExactTotalSizeRow.holds Try.pinned (OpenSpec.ofChange fnExactTotalSizeSpec)

/-- ITS FALSE NEIGHBOUR: 'it returns false'. Refute it at one input. -/
def fnExactTotalSizeWrong : ChangeSpec := { name := "fnExactTotalSize", fn := fun _ => fun
  | [d] => { results := [.lit (.bool false)], args := [d] }
  | _ => none }
def FnExactTotalSizeWrongFalsely : Prop := fnExactTotalSizeRow.holds Try.pinned (OpenSpec.ofChange fnExactTotalSizeWrong)

/-- 'laws.FnExactTotalAlign': WHATEVER THE INPUT: true; the input reads as it did. -/
def fnExactTotalAlignSpec : ChangeSpec := { name := "fnExactTotalAlign", fn := fun _ => fun
  | [d] => { results := [.lit (.bool true)], args := [d] }
  | _ => none }
def fnExactTotalAlignRow : OpenClaim := { program := "ytbdnlloadmleaab", sum := "7a69e4974d2487319fdd4288205bbcb12015ea6678aa970a259dfc177248e9df", func := "loop.example/g00901/laws.FnExactTotalAlign", spec := "fnExactTotalAlign", unfollowed := true, recurses := true, loops := true, apart := false }
def FnExactTotalAlignSaid : Prop := fnExactTotalAlignRow.holds Try.pinned (OpenSpec.ofChange fnExactTotalAlignSpec)

/-- ITS FALSE NEIGHBOUR: 'it returns false'. Refute it at one input. -/
def fnExactTotalAlignWrong : ChangeSpec := { name := "fnExactTotalAlign", fn := fun _ => fun
  | [d] => { results := [.lit (.bool false)], args := [d] }
  | _ => none }
def FnExactTotalAlignWrongFalsely : Prop := fnExactTotalAlignRow.holds Try.pinned (OpenSpec.ofChange fnExactTotalAlignWrong)

/-- 'laws.FnExactCasesOf': WHATEVER THE INPUT: true; the input reads as it did. -/
def fnExactCasesOfSpec : ChangeSpec := { name := "fnExactCasesOf", fn := fun _ => fun
  | [d] => { results := [.lit (.bool true)], args := [d] }
  | _ => none }
def fnExactCasesOfRow : OpenClaim := { program := "ytbdnlloadmleaab", sum := "7a69e4974d2487319fdd4288205bbcb12015ea6678aa970a259dfc177248e9df", func := "loop.example/g00901/laws.FnExactCasesOf", spec := "fnExactCasesOf", unfollowed := true, recurses := true, loops := true, apart := false }
def FnExactCasesOfSaid : Prop := fnExactCasesOfRow.holds Try.pinned (OpenSpec.ofChange fnExactCasesOfSpec)

/-- ITS FALSE NEIGHBOUR: 'it returns false'. Refute it at one input. -/
def fnExactCasesOfWrong : ChangeSpec := { name := "fnExactCasesOf", fn := fun _ => fun
  | [d] => { results := [.lit (.bool false)], args := [d] }
  | _ => none }
def FnExactCasesOfWrongFalsely : Prop := fnExactCasesOfRow.holds Try.pinned (OpenSpec.ofChange fnExactCasesOfWrong)

/-- 'laws.FnExactCaseAt': WHATEVER THE INPUT: true; the input reads as it did. -/
def fnExactCaseAtSpec : ChangeSpec := { name := "fnExactCaseAt", fn := fun _ => fun
  | [d] => { results := [.lit (.bool true)], args := [d] }
  | _ => none }
def fnExactCaseAtRow : OpenClaim := { program := "ytbdnlloadmleaab", sum := "7a69e4974d2487319fdd4288205bbcb12015ea6678aa970a259dfc177248e9df", func := "loop.example/g00901/laws.FnExactCaseAt", spec := "fnExactCaseAt", unfollowed := true, recurses := true, loops := true, apart := false }
def FnExactCaseAtSaid : Prop := fnExactCaseAtRow.holds Try.pinned (OpenSpec.ofChange fnExactCaseAtSpec)

/-- ITS FALSE NEIGHBOUR: 'it returns false'. Refute it at one input. -/
def fnExactCaseAtWrong : ChangeSpec := { name := "fnExactCaseAt", fn := fun _ => fun
  | [d] => { results := [.lit (.bool false)], args := [d] }
  | _ => none }
def FnExactCaseAtWrongFalsely : Prop := fnExactCaseAtRow.holds Try.pinned (OpenSpec.ofChange fnExactCaseAtWrong)

/- THE SECOND FORM. 'bulk': how many values and letters a reading holds, each counted each time it is reached (what is shared counts as often as it is met; a slice's spare places count too). A statement '..UptoSaid' is the law's where the arguments, and the package variables that the reading takes, are together of bulk at most 1048576: NARROWER than '..Said'. Prove '..Said' where nothing that the law and all that it calls make is longer than what came in: it says more and counts as full. Else prove '..UptoSaid'. A law counts once. -/
mutual
def uptoBulk {H : Type} : DataW H → Nat
  | .lit (.string bytes) => bytes.length + 1
  | .lit _ => 1
  | .nil => 1
  | .ptr d => uptoBulk d + 1
  | .slice elems spare => uptoBulkAll elems + uptoBulkAll spare + 1
  | .agg parts => uptoBulkAll parts + 1
  | .iface _ d => uptoBulk d + 1
  | .map entries => uptoBulkEntries entries + 1
  | .held _ => 1
def uptoBulkAll {H : Type} : List (DataW H) → Nat
  | [] => 0
  | d :: r => uptoBulk d + uptoBulkAll r
def uptoBulkEntries {H : Type} : List (Lit × DataW H) → Nat
  | [] => 0
  | x :: r => uptoBulkEntry x + uptoBulkEntries r
def uptoBulkEntry {H : Type} : Lit × DataW H → Nat
  | (.string bytes, d) => bytes.length + uptoBulk d + 1
  | (_, d) => uptoBulk d + 1
 end
def uptoSmall : (H : Type) → List (DataW H) → Bool := fun _ ds => decide (uptoBulkAll ds ≤ 1048576)
def OpenSpec.upto (s : _root_.Go.ChangeSpec) : _root_.Go.OpenSpec := { _root_.Go.OpenSpec.ofChange s with cond := some uptoSmall }

/-- 'laws.FnExactPartsAt', WHERE WHAT IT READS IS OF BULK AT MOST 1048576: true; the input reads as it did. -/
def fnExactPartsAtUptoRow : OpenClaim := { program := "ytbdnlloadmleaab", sum := "7a69e4974d2487319fdd4288205bbcb12015ea6678aa970a259dfc177248e9df", func := "loop.example/g00901/laws.FnExactPartsAt", spec := "fnExactPartsAt", unfollowed := true, recurses := true, loops := true, apart := false, narrowed := true }
def FnExactPartsAtUptoSaid : Prop := fnExactPartsAtUptoRow.holds Try.pinned (OpenSpec.upto fnExactPartsAtSpec)

/-- 'laws.FnExactTotalSize', WHERE WHAT IT READS IS OF BULK AT MOST 1048576: true; the input reads as it did. -/
def fnExactTotalSizeUptoRow : OpenClaim := { program := "ytbdnlloadmleaab", sum := "7a69e4974d2487319fdd4288205bbcb12015ea6678aa970a259dfc177248e9df", func := "loop.example/g00901/laws.FnExactTotalSize", spec := "fnExactTotalSize", unfollowed := true, recurses := true, loops := true, apart := false, narrowed := true }
def FnExactTotalSizeUptoSaid : Prop := fnExactTotalSizeUptoRow.holds Try.pinned (OpenSpec.upto fnExactTotalSizeSpec)

/-- 'laws.FnExactTotalAlign', WHERE WHAT IT READS IS OF BULK AT MOST 1048576: true; the input reads as it did. -/
def fnExactTotalAlignUptoRow : OpenClaim := { program := "ytbdnlloadmleaab", sum := "7a69e4974d2487319fdd4288205bbcb12015ea6678aa970a259dfc177248e9df", func := "loop.example/g00901/laws.FnExactTotalAlign", spec := "fnExactTotalAlign", unfollowed := true, recurses := true, loops := true, apart := false, narrowed := true }
def FnExactTotalAlignUptoSaid : Prop := fnExactTotalAlignUptoRow.holds Try.pinned (OpenSpec.upto fnExactTotalAlignSpec)

/-- 'laws.FnExactCasesOf', WHERE WHAT IT READS IS OF BULK AT MOST 1048576: true; the input reads as it did. -/
def fnExactCasesOfUptoRow : OpenClaim := { program := "ytbdnlloadmleaab", sum := "7a69e4974d2487319fdd4288205bbcb12015ea6678aa970a259dfc177248e9df", func := "loop.example/g00901/laws.FnExactCasesOf", spec := "fnExactCasesOf", unfollowed := true, recurses := true, loops := true, apart := false, narrowed := true }
def FnExactCasesOfUptoSaid : Prop := fnExactCasesOfUptoRow.holds Try.pinned (OpenSpec.upto fnExactCasesOfSpec)

/-- 'laws.FnExactCaseAt', WHERE WHAT IT READS IS OF BULK AT MOST 1048576: true; the input reads as it did. -/
def fnExactCaseAtUptoRow : OpenClaim := { program := "ytbdnlloadmleaab", sum := "7a69e4974d2487319fdd4288205bbcb12015ea6678aa970a259dfc177248e9df", func := "loop.example/g00901/laws.FnExactCaseAt", spec := "fnExactCaseAt", unfollowed := true, recurses := true, loops := true, apart := false, narrowed := true }
def FnExactCaseAtUptoSaid : Prop := fnExactCaseAtUptoRow.holds Try.pinned (OpenSpec.upto fnExactCaseAtSpec)

end Rows
end Go.Proofs.Ytbdnlloadmleaab
