/-
  NARROWER THAN 'FOR EVERY INPUT', by the rows' own cells (each row's printed sentence says how): FnExactTrapWord: laid · FnExactInsBytes: laid · FnExactInsOf: laid · FnExactBodyBytes: laid · FnExactBodyOf: laid · FnExactBlocksOf: laid.
  DERIVED. THE GIVEN ROWS OF THIS SEAT. 6 by the template 'for every input the law returns true; each argument reads behind the call as it read before'; 0 by the template 'total and deterministic' (their statements: YtbjcldekapipaaaDoorTotals.lean).
  GIVEN WITH THE SEED: the statements are not yours to turn. If you find one false, say at which input.
  Laid BY PROGRAM, IN A SANDBOX (cutbox-rows.mjs): the forced cells as the released guide's own fill.sh prints them over the translation 9a0ef163c3dcff40… (all of the seat's roots in one cut). By AI agents, Wed Nov 11 2026. No macro, syntax, notation, axiom, sorry.
-/
import Derived.Test.YtbjcldekapipaaaDoorChecked
import GoSem.PinnedTables
import GoSem.Claim
import GoSem.ClaimJoined
import GoSem.ClaimMapViews
import Derived.JoinedTies
import Derived.KernelRfl
namespace Go.Proofs.YtbjcldekapipaaaDoor
/- THE CELL 'sum', in the pinned program and in every row, IS THE sha256 OF THE DUMP (.gsa) THAT YtbjcldekapipaaaDoorProg.lean LOADS. Nothing in Lean hashes anything: it is a label: what it is worth is what the hold of that sum in a sandbox is worth. -/
noncomputable def Tryd.pinned : Pinned := { name := "ytbjcldekapipaaadoor", sum := "9a0ef163c3dcff40bfa6ce3a2e9217f7fd27e68e60b6a14fc4360acbc6380329", checked := Tryd.checked }
namespace Rows
def none {H : Type} : Left H := { results := [], args := [] }

/- WHAT THE LISTED PACKAGE-LEVEL VARIABLES READ AS WHEN THE CALL BEGINS. Each datum BY PROGRAM (the guide's laid-datum.mjs) off the statement by which the dump's own 'gosem.cut.vars' lays the variable. In a bare row this is a premise. The card (YtbjcldekapipaaaDoorCards.lean) ties it to the program's text. -/
def laid_loop_example_g00901_impl_trapWords {H : Type} : DataW H := .agg [.lit (.string []), .lit (.string [122, 101, 114, 111]), .lit (.string [109, 101, 109, 111, 114, 121]), .lit (.string [100, 101, 112, 116, 104]), .lit (.string [99, 111, 100, 101])]
def laid_loop_example_g00901_impl_mnemonics {H : Type} : DataW H := .agg [.lit (.string []), .lit (.string [99, 111, 110, 115, 116]), .lit (.string [103, 101, 116]), .lit (.string [115, 101, 116]), .lit (.string [116, 101, 101]), .lit (.string [100, 114, 111, 112]), .lit (.string [97, 100, 100]), .lit (.string [115, 117, 98]), .lit (.string [109, 117, 108]), .lit (.string [100, 105, 118]), .lit (.string [114, 101, 109]), .lit (.string [97, 110, 100]), .lit (.string [111, 114]), .lit (.string [120, 111, 114]), .lit (.string [115, 104, 108]), .lit (.string [115, 104, 114]), .lit (.string [101, 113]), .lit (.string [110, 101]), .lit (.string [108, 116]), .lit (.string [103, 116]), .lit (.string [108, 101]), .lit (.string [103, 101]), .lit (.string [101, 113, 122]), .lit (.string [115, 101, 108, 101, 99, 116]), .lit (.string [98, 108, 111, 99, 107]), .lit (.string [108, 111, 111, 112]), .lit (.string [105, 102]), .lit (.string [101, 108, 115, 101]), .lit (.string [101, 110, 100]), .lit (.string [98, 114]), .lit (.string [98, 114, 105, 102]), .lit (.string [114, 101, 116, 117, 114, 110]), .lit (.string [99, 97, 108, 108]), .lit (.string [104, 111, 115, 116]), .lit (.string [108, 111, 97, 100, 56]), .lit (.string [108, 111, 97, 100, 51, 50]), .lit (.string [108, 111, 97, 100, 54, 52]), .lit (.string [115, 116, 111, 114, 101, 56]), .lit (.string [115, 116, 111, 114, 101, 51, 50]), .lit (.string [115, 116, 111, 114, 101, 54, 52]), .lit (.string [116, 114, 97, 112])]
def laid_unicode_utf8_acceptRanges {H : Type} : DataW H := .agg [.agg [.lit (.int .u8 128), .lit (.int .u8 191)], .agg [.lit (.int .u8 160), .lit (.int .u8 191)], .agg [.lit (.int .u8 128), .lit (.int .u8 159)], .agg [.lit (.int .u8 144), .lit (.int .u8 191)], .agg [.lit (.int .u8 128), .lit (.int .u8 143)], .agg [.lit (.int .u8 0), .lit (.int .u8 0)], .agg [.lit (.int .u8 0), .lit (.int .u8 0)], .agg [.lit (.int .u8 0), .lit (.int .u8 0)], .agg [.lit (.int .u8 0), .lit (.int .u8 0)], .agg [.lit (.int .u8 0), .lit (.int .u8 0)], .agg [.lit (.int .u8 0), .lit (.int .u8 0)], .agg [.lit (.int .u8 0), .lit (.int .u8 0)], .agg [.lit (.int .u8 0), .lit (.int .u8 0)], .agg [.lit (.int .u8 0), .lit (.int .u8 0)], .agg [.lit (.int .u8 0), .lit (.int .u8 0)], .agg [.lit (.int .u8 0), .lit (.int .u8 0)]]
/-- One of Go's own tables, pinned by name: the form's constant. -/
def laid_unicode_utf8_first : DataW Unit := Go.Pinned.utf8First

/-- 'laws.FnExactTrapWord': WHATEVER THE INPUT: true; the input reads as it did. -/
def fnExactTrapWordSpec : ChangeSpec := { name := "fnExactTrapWord", vars := ["loop.example/g00901/impl.trapWords"], fn := fun _ => fun
  | [d, g1] => { results := [.lit (.bool true)], args := [d], vars := [g1] }
  | _ => none }
def fnExactTrapWordRow : OpenClaim := { program := "ytbjcldekapipaaadoor", sum := "9a0ef163c3dcff40bfa6ce3a2e9217f7fd27e68e60b6a14fc4360acbc6380329", func := "loop.example/g00901/laws.FnExactTrapWord", spec := "fnExactTrapWord", named := ["loop.example/g00901/impl.trapWords"], apart := false, laid := [("loop.example/g00901/impl.trapWords", laid_loop_example_g00901_impl_trapWords)] }
def FnExactTrapWordSaid : Prop := fnExactTrapWordRow.holds Tryd.pinned (OpenSpec.ofChange fnExactTrapWordSpec)

/-- ITS FALSE NEIGHBOUR: 'it returns false'. Refute it at one input. -/
def fnExactTrapWordWrong : ChangeSpec := { name := "fnExactTrapWord", vars := ["loop.example/g00901/impl.trapWords"], fn := fun _ => fun
  | [d, g1] => { results := [.lit (.bool false)], args := [d], vars := [g1] }
  | _ => none }
def FnExactTrapWordWrongFalsely : Prop := fnExactTrapWordRow.holds Tryd.pinned (OpenSpec.ofChange fnExactTrapWordWrong)

/-- 'laws.FnExactInsBytes': WHATEVER THE INPUT: true; the input reads as it did. -/
def fnExactInsBytesSpec : ChangeSpec := { name := "fnExactInsBytes", vars := ["loop.example/g00901/impl.mnemonics"], fn := fun _ => fun
  | [d, g1] => { results := [.lit (.bool true)], args := [d], vars := [g1] }
  | _ => none }
def fnExactInsBytesRow : OpenClaim := { program := "ytbjcldekapipaaadoor", sum := "9a0ef163c3dcff40bfa6ce3a2e9217f7fd27e68e60b6a14fc4360acbc6380329", func := "loop.example/g00901/laws.FnExactInsBytes", spec := "fnExactInsBytes", unfollowed := true, recurses := true, named := ["loop.example/g00901/impl.mnemonics"], apart := false, laid := [("loop.example/g00901/impl.mnemonics", laid_loop_example_g00901_impl_mnemonics)] }
def FnExactInsBytesSaid : Prop := fnExactInsBytesRow.holds Tryd.pinned (OpenSpec.ofChange fnExactInsBytesSpec)

/-- ITS FALSE NEIGHBOUR: 'it returns false'. Refute it at one input. -/
def fnExactInsBytesWrong : ChangeSpec := { name := "fnExactInsBytes", vars := ["loop.example/g00901/impl.mnemonics"], fn := fun _ => fun
  | [d, g1] => { results := [.lit (.bool false)], args := [d], vars := [g1] }
  | _ => none }
def FnExactInsBytesWrongFalsely : Prop := fnExactInsBytesRow.holds Tryd.pinned (OpenSpec.ofChange fnExactInsBytesWrong)

/-- 'laws.FnExactInsOf': WHATEVER THE INPUT: true; the input reads as it did. -/
def fnExactInsOfSpec : ChangeSpec := { name := "fnExactInsOf", vars := ["loop.example/g00901/impl.mnemonics"], fn := fun _ => fun
  | [d, g1] => { results := [.lit (.bool true)], args := [d], vars := [g1] }
  | _ => none }
def fnExactInsOfRow : OpenClaim := { program := "ytbjcldekapipaaadoor", sum := "9a0ef163c3dcff40bfa6ce3a2e9217f7fd27e68e60b6a14fc4360acbc6380329", func := "loop.example/g00901/laws.FnExactInsOf", spec := "fnExactInsOf", unfollowed := true, recurses := true, named := ["loop.example/g00901/impl.mnemonics"], apart := false, laid := [("loop.example/g00901/impl.mnemonics", laid_loop_example_g00901_impl_mnemonics)] }
def FnExactInsOfSaid : Prop := fnExactInsOfRow.holds Tryd.pinned (OpenSpec.ofChange fnExactInsOfSpec)

/-- ITS FALSE NEIGHBOUR: 'it returns false'. Refute it at one input. -/
def fnExactInsOfWrong : ChangeSpec := { name := "fnExactInsOf", vars := ["loop.example/g00901/impl.mnemonics"], fn := fun _ => fun
  | [d, g1] => { results := [.lit (.bool false)], args := [d], vars := [g1] }
  | _ => none }
def FnExactInsOfWrongFalsely : Prop := fnExactInsOfRow.holds Tryd.pinned (OpenSpec.ofChange fnExactInsOfWrong)

/-- 'laws.FnExactBodyBytes': WHATEVER THE INPUT: true; the input reads as it did. -/
def fnExactBodyBytesSpec : ChangeSpec := { name := "fnExactBodyBytes", vars := ["loop.example/g00901/impl.mnemonics"], fn := fun _ => fun
  | [d, g1] => { results := [.lit (.bool true)], args := [d], vars := [g1] }
  | _ => none }
def fnExactBodyBytesRow : OpenClaim := { program := "ytbjcldekapipaaadoor", sum := "9a0ef163c3dcff40bfa6ce3a2e9217f7fd27e68e60b6a14fc4360acbc6380329", func := "loop.example/g00901/laws.FnExactBodyBytes", spec := "fnExactBodyBytes", unfollowed := true, recurses := true, named := ["loop.example/g00901/impl.mnemonics"], apart := false, laid := [("loop.example/g00901/impl.mnemonics", laid_loop_example_g00901_impl_mnemonics)] }
def FnExactBodyBytesSaid : Prop := fnExactBodyBytesRow.holds Tryd.pinned (OpenSpec.ofChange fnExactBodyBytesSpec)

/-- ITS FALSE NEIGHBOUR: 'it returns false'. Refute it at one input. -/
def fnExactBodyBytesWrong : ChangeSpec := { name := "fnExactBodyBytes", vars := ["loop.example/g00901/impl.mnemonics"], fn := fun _ => fun
  | [d, g1] => { results := [.lit (.bool false)], args := [d], vars := [g1] }
  | _ => none }
def FnExactBodyBytesWrongFalsely : Prop := fnExactBodyBytesRow.holds Tryd.pinned (OpenSpec.ofChange fnExactBodyBytesWrong)

/-- 'laws.FnExactBodyOf': WHATEVER THE INPUT: true; the input reads as it did. -/
def fnExactBodyOfSpec : ChangeSpec := { name := "fnExactBodyOf", vars := ["loop.example/g00901/impl.mnemonics"], fn := fun _ => fun
  | [d, g1] => { results := [.lit (.bool true)], args := [d], vars := [g1] }
  | _ => none }
def fnExactBodyOfRow : OpenClaim := { program := "ytbjcldekapipaaadoor", sum := "9a0ef163c3dcff40bfa6ce3a2e9217f7fd27e68e60b6a14fc4360acbc6380329", func := "loop.example/g00901/laws.FnExactBodyOf", spec := "fnExactBodyOf", unfollowed := true, recurses := true, named := ["loop.example/g00901/impl.mnemonics"], apart := false, laid := [("loop.example/g00901/impl.mnemonics", laid_loop_example_g00901_impl_mnemonics)] }
def FnExactBodyOfSaid : Prop := fnExactBodyOfRow.holds Tryd.pinned (OpenSpec.ofChange fnExactBodyOfSpec)

/-- ITS FALSE NEIGHBOUR: 'it returns false'. Refute it at one input. -/
def fnExactBodyOfWrong : ChangeSpec := { name := "fnExactBodyOf", vars := ["loop.example/g00901/impl.mnemonics"], fn := fun _ => fun
  | [d, g1] => { results := [.lit (.bool false)], args := [d], vars := [g1] }
  | _ => none }
def FnExactBodyOfWrongFalsely : Prop := fnExactBodyOfRow.holds Tryd.pinned (OpenSpec.ofChange fnExactBodyOfWrong)

/-- 'laws.FnExactBlocksOf': WHATEVER THE INPUT: true; the input reads as it did. -/
def fnExactBlocksOfSpec : ChangeSpec := { name := "fnExactBlocksOf", vars := ["loop.example/g00901/impl.mnemonics"], fn := fun _ => fun
  | [d, g1] => { results := [.lit (.bool true)], args := [d], vars := [g1] }
  | _ => none }
def fnExactBlocksOfRow : OpenClaim := { program := "ytbjcldekapipaaadoor", sum := "9a0ef163c3dcff40bfa6ce3a2e9217f7fd27e68e60b6a14fc4360acbc6380329", func := "loop.example/g00901/laws.FnExactBlocksOf", spec := "fnExactBlocksOf", inPlace := ["internal/bytealg.IndexByteString", "internal/bytealg.IndexString"], unfollowed := true, recurses := true, named := ["unicode/utf8.first", "unicode/utf8.acceptRanges", "loop.example/g00901/impl.mnemonics", "internal/bytealg.MaxLen"], apart := false, laid := [("unicode/utf8.acceptRanges", laid_unicode_utf8_acceptRanges), ("loop.example/g00901/impl.mnemonics", laid_loop_example_g00901_impl_mnemonics), ("unicode/utf8.first", laid_unicode_utf8_first)] }
def FnExactBlocksOfSaid : Prop := fnExactBlocksOfRow.holds Tryd.pinned (OpenSpec.ofChange fnExactBlocksOfSpec)

/-- ITS FALSE NEIGHBOUR: 'it returns false'. Refute it at one input. -/
def fnExactBlocksOfWrong : ChangeSpec := { name := "fnExactBlocksOf", vars := ["loop.example/g00901/impl.mnemonics"], fn := fun _ => fun
  | [d, g1] => { results := [.lit (.bool false)], args := [d], vars := [g1] }
  | _ => none }
def FnExactBlocksOfWrongFalsely : Prop := fnExactBlocksOfRow.holds Tryd.pinned (OpenSpec.ofChange fnExactBlocksOfWrong)

/- THE SECOND FORM. 'bulk': how many values and letters a reading holds, each counted each time it is reached (what is shared counts as often as it is met; a slice's spare places count too). A statement '..UptoSaid' is the law's where the arguments, and the package variables that the reading takes, are together of bulk at most 1048576: NARROWER than '..Said'. Prove '..Said' where nothing that the law and all that it calls make is longer than what came in: it says more and counts as full. Else prove '..UptoSaid'. A law counts once. -/
mutual
def uptoBulk {H : Type} : DataW H → Nat
  | .lit (.string bytes) => bytes.length + 1
  | .lit _ => 1
  | .nil => 1
  | .ptr d => uptoBulk d + 1
  | .slice elems spare => uptoBulkAll elems + uptoBulkAll spare + 1
  | .agg parts => uptoBulkAll parts + 1
  | .iface _ d => uptoBulk d + 1
  | .map entries => uptoBulkEntries entries + 1
  | .held _ => 1
def uptoBulkAll {H : Type} : List (DataW H) → Nat
  | [] => 0
  | d :: r => uptoBulk d + uptoBulkAll r
def uptoBulkEntries {H : Type} : List (Lit × DataW H) → Nat
  | [] => 0
  | x :: r => uptoBulkEntry x + uptoBulkEntries r
def uptoBulkEntry {H : Type} : Lit × DataW H → Nat
  | (.string bytes, d) => bytes.length + uptoBulk d + 1
  | (_, d) => uptoBulk d + 1
 end
def uptoSmall : (H : Type) → List (DataW H) → Bool := fun _ ds => decide (uptoBulkAll ds ≤ 1048576)
def OpenSpec.upto (s : _root_.Go.ChangeSpec) : _root_.Go.OpenSpec := { _root_.Go.OpenSpec.ofChange s with cond := some uptoSmall }

/-- 'laws.FnExactTrapWord', WHERE WHAT IT READS IS OF BULK AT MOST 1048576: true; the input reads as it did. -/
def fnExactTrapWordUptoRow : OpenClaim := { program := "ytbjcldekapipaaadoor", sum := "9a0ef163c3dcff40bfa6ce3a2e9217f7fd27e68e60b6a14fc4360acbc6380329", func := "loop.example/g00901/laws.FnExactTrapWord", spec := "fnExactTrapWord", named := ["loop.example/g00901/impl.trapWords"], apart := false, laid := [("loop.example/g00901/impl.trapWords", laid_loop_example_g00901_impl_trapWords)], narrowed := true }
def FnExactTrapWordUptoSaid : Prop := fnExactTrapWordUptoRow.holds Tryd.pinned (OpenSpec.upto fnExactTrapWordSpec)

/-- 'laws.FnExactInsBytes', WHERE WHAT IT READS IS OF BULK AT MOST 1048576: true; the input reads as it did. -/
def fnExactInsBytesUptoRow : OpenClaim := { program := "ytbjcldekapipaaadoor", sum := "9a0ef163c3dcff40bfa6ce3a2e9217f7fd27e68e60b6a14fc4360acbc6380329", func := "loop.example/g00901/laws.FnExactInsBytes", spec := "fnExactInsBytes", unfollowed := true, recurses := true, named := ["loop.example/g00901/impl.mnemonics"], apart := false, laid := [("loop.example/g00901/impl.mnemonics", laid_loop_example_g00901_impl_mnemonics)], narrowed := true }
def FnExactInsBytesUptoSaid : Prop := fnExactInsBytesUptoRow.holds Tryd.pinned (OpenSpec.upto fnExactInsBytesSpec)

/-- 'laws.FnExactInsOf', WHERE WHAT IT READS IS OF BULK AT MOST 1048576: true; the input reads as it did. -/
def fnExactInsOfUptoRow : OpenClaim := { program := "ytbjcldekapipaaadoor", sum := "9a0ef163c3dcff40bfa6ce3a2e9217f7fd27e68e60b6a14fc4360acbc6380329", func := "loop.example/g00901/laws.FnExactInsOf", spec := "fnExactInsOf", unfollowed := true, recurses := true, named := ["loop.example/g00901/impl.mnemonics"], apart := false, laid := [("loop.example/g00901/impl.mnemonics", laid_loop_example_g00901_impl_mnemonics)], narrowed := true }
def FnExactInsOfUptoSaid : Prop := fnExactInsOfUptoRow.holds Tryd.pinned (OpenSpec.upto fnExactInsOfSpec)

/-- 'laws.FnExactBodyBytes', WHERE WHAT IT READS IS OF BULK AT MOST 1048576: true; the input reads as it did. -/
def fnExactBodyBytesUptoRow : OpenClaim := { program := "ytbjcldekapipaaadoor", sum := "9a0ef163c3dcff40bfa6ce3a2e9217f7fd27e68e60b6a14fc4360acbc6380329", func := "loop.example/g00901/laws.FnExactBodyBytes", spec := "fnExactBodyBytes", unfollowed := true, recurses := true, named := ["loop.example/g00901/impl.mnemonics"], apart := false, laid := [("loop.example/g00901/impl.mnemonics", laid_loop_example_g00901_impl_mnemonics)], narrowed := true }
def FnExactBodyBytesUptoSaid : Prop := fnExactBodyBytesUptoRow.holds Tryd.pinned (OpenSpec.upto fnExactBodyBytesSpec)

/-- 'laws.FnExactBodyOf', WHERE WHAT IT READS IS OF BULK AT MOST 1048576: true; the input reads as it did. -/
def fnExactBodyOfUptoRow : OpenClaim := { program := "ytbjcldekapipaaadoor", sum := "9a0ef163c3dcff40bfa6ce3a2e9217f7fd27e68e60b6a14fc4360acbc6380329", func := "loop.example/g00901/laws.FnExactBodyOf", spec := "fnExactBodyOf", unfollowed := true, recurses := true, named := ["loop.example/g00901/impl.mnemonics"], apart := false, laid := [("loop.example/g00901/impl.mnemonics", laid_loop_example_g00901_impl_mnemonics)], narrowed := true }
def FnExactBodyOfUptoSaid : Prop := fnExactBodyOfUptoRow.holds Tryd.pinned (OpenSpec.upto fnExactBodyOfSpec)

/-- 'laws.FnExactBlocksOf', WHERE WHAT IT READS IS OF BULK AT MOST 1048576: true; the input reads as it did. -/
def fnExactBlocksOfUptoRow : OpenClaim := { program := "ytbjcldekapipaaadoor", sum := "9a0ef163c3dcff40bfa6ce3a2e9217f7fd27e68e60b6a14fc4360acbc6380329", func := "loop.example/g00901/laws.FnExactBlocksOf", spec := "fnExactBlocksOf", inPlace := ["internal/bytealg.IndexByteString", "internal/bytealg.IndexString"], unfollowed := true, recurses := true, named := ["unicode/utf8.first", "unicode/utf8.acceptRanges", "loop.example/g00901/impl.mnemonics", "internal/bytealg.MaxLen"], apart := false, laid := [("unicode/utf8.acceptRanges", laid_unicode_utf8_acceptRanges), ("loop.example/g00901/impl.mnemonics", laid_loop_example_g00901_impl_mnemonics), ("unicode/utf8.first", laid_unicode_utf8_first)], narrowed := true }
def FnExactBlocksOfUptoSaid : Prop := fnExactBlocksOfUptoRow.holds Tryd.pinned (OpenSpec.upto fnExactBlocksOfSpec)

end Rows
end Go.Proofs.YtbjcldekapipaaaDoor
