/-
  NARROWER THAN 'FOR EVERY INPUT', by the rows' own cells (each row's printed sentence says how): FnExactTypeText: loops, laid · FnExactReadType: laid · FnExactFuncOk: loops, laid · FnExactParamsOf: loops, laid · FnExactFuncText: loops, laid · FnExactTextOk: laid.
  DERIVED. THE GIVEN ROWS OF THIS SEAT. 6 by the template 'for every input the law returns true; each argument reads behind the call as it read before'; 0 by the template 'total and deterministic' (their statements: YtmofgjngigbnpabDoorTotals.lean).
  GIVEN WITH THE SEED: the statements are not yours to turn. If you find one false, say at which input.
  Laid BY PROGRAM, IN A SANDBOX (cutbox-rows.mjs): the forced cells as the released guide's own fill.sh prints them over the translation 7c5da6b8cc55e6be… (all of the seat's roots in one cut). By AI agents, Wed Nov 11 2026. No macro, syntax, notation, axiom, sorry.
-/
import Derived.Test.YtmofgjngigbnpabDoorChecked
import GoSem.PinnedTables
import GoSem.Claim
import GoSem.ClaimJoined
import GoSem.ClaimMapViews
import Derived.JoinedTies
import Derived.KernelRfl
namespace Go.Proofs.YtmofgjngigbnpabDoor
/- THE CELL 'sum', in the pinned program and in every row, IS THE sha256 OF THE DUMP (.gsa) THAT YtmofgjngigbnpabDoorProg.lean LOADS. Nothing in Lean hashes anything: it is a label: what it is worth is what the hold of that sum in a sandbox is worth. -/
noncomputable def Tryd.pinned : Pinned := { name := "ytmofgjngigbnpabdoor", sum := "7c5da6b8cc55e6bed45e7b718bd68977b2278e9ecde07335797f110e14f9af5f", checked := Tryd.checked }
namespace Rows
def none {H : Type} : Left H := { results := [], args := [] }

/- WHAT THE LISTED PACKAGE-LEVEL VARIABLES READ AS WHEN THE CALL BEGINS. Each datum BY PROGRAM (the guide's laid-datum.mjs) off the statement by which the dump's own 'gosem.cut.vars' lays the variable. In a bare row this is a premise. The card (YtmofgjngigbnpabDoorCards.lean) ties it to the program's text. -/
def laid_loop_example_g00901_impl_typeWords {H : Type} : DataW H := .agg [.lit (.string []), .lit (.string [117, 110, 105, 116]), .lit (.string [98, 111, 111, 108]), .lit (.string [117, 56]), .lit (.string [115, 56]), .lit (.string [117, 49, 54]), .lit (.string [115, 49, 54]), .lit (.string [117, 51, 50]), .lit (.string [115, 51, 50]), .lit (.string [115, 54, 52]), .lit (.string [99, 104, 97, 114]), .lit (.string [116, 101, 120, 116]), .lit (.string [108, 105, 115, 116]), .lit (.string [111, 112, 116, 105, 111, 110]), .lit (.string [114, 101, 115, 117, 108, 116]), .lit (.string [116, 117, 112, 108, 101]), .lit (.string [114, 101, 99, 111, 114, 100]), .lit (.string [118, 97, 114, 105, 97, 110, 116]), .lit (.string [101, 110, 117, 109]), .lit (.string [102, 108, 97, 103, 115]), .lit (.string [111, 119, 110]), .lit (.string [98, 111, 114, 114, 111, 119]), .lit (.string [115, 116, 114, 101, 97, 109]), .lit (.string [102, 117, 116, 117, 114, 101])]
def laid_unicode_utf8_acceptRanges {H : Type} : DataW H := .agg [.agg [.lit (.int .u8 128), .lit (.int .u8 191)], .agg [.lit (.int .u8 160), .lit (.int .u8 191)], .agg [.lit (.int .u8 128), .lit (.int .u8 159)], .agg [.lit (.int .u8 144), .lit (.int .u8 191)], .agg [.lit (.int .u8 128), .lit (.int .u8 143)], .agg [.lit (.int .u8 0), .lit (.int .u8 0)], .agg [.lit (.int .u8 0), .lit (.int .u8 0)], .agg [.lit (.int .u8 0), .lit (.int .u8 0)], .agg [.lit (.int .u8 0), .lit (.int .u8 0)], .agg [.lit (.int .u8 0), .lit (.int .u8 0)], .agg [.lit (.int .u8 0), .lit (.int .u8 0)], .agg [.lit (.int .u8 0), .lit (.int .u8 0)], .agg [.lit (.int .u8 0), .lit (.int .u8 0)], .agg [.lit (.int .u8 0), .lit (.int .u8 0)], .agg [.lit (.int .u8 0), .lit (.int .u8 0)], .agg [.lit (.int .u8 0), .lit (.int .u8 0)]]
/-- One of Go's own tables, pinned by name: the form's constant. -/
def laid_unicode_utf8_first : DataW Unit := Go.Pinned.utf8First

/-- 'laws.FnExactTypeText': WHATEVER THE INPUT: true; the input reads as it did. -/
def fnExactTypeTextSpec : ChangeSpec := { name := "fnExactTypeText", vars := ["loop.example/g00901/impl.typeWords"], fn := fun _ => fun
  | [d, g1] => { results := [.lit (.bool true)], args := [d], vars := [g1] }
  | _ => none }
def fnExactTypeTextRow : OpenClaim := { program := "ytmofgjngigbnpabdoor", sum := "7c5da6b8cc55e6bed45e7b718bd68977b2278e9ecde07335797f110e14f9af5f", func := "loop.example/g00901/laws.FnExactTypeText", spec := "fnExactTypeText", inPlace := ["internal/abi.NoEscape", "internal/bytealg.MakeNoZero"], unfollowed := true, recurses := true, named := ["loop.example/g00901/impl.typeWords"], loops := true, apart := false, laid := [("loop.example/g00901/impl.typeWords", laid_loop_example_g00901_impl_typeWords)] }
def FnExactTypeTextSaid : Prop := fnExactTypeTextRow.holds Tryd.pinned (OpenSpec.ofChange fnExactTypeTextSpec)

/-- ITS FALSE NEIGHBOUR: 'it returns false'. Refute it at one input. -/
def fnExactTypeTextWrong : ChangeSpec := { name := "fnExactTypeText", vars := ["loop.example/g00901/impl.typeWords"], fn := fun _ => fun
  | [d, g1] => { results := [.lit (.bool false)], args := [d], vars := [g1] }
  | _ => none }
def FnExactTypeTextWrongFalsely : Prop := fnExactTypeTextRow.holds Tryd.pinned (OpenSpec.ofChange fnExactTypeTextWrong)

/-- 'laws.FnExactReadType': WHATEVER THE INPUT: true; the input reads as it did. -/
def fnExactReadTypeSpec : ChangeSpec := { name := "fnExactReadType", vars := ["loop.example/g00901/impl.typeWords"], fn := fun _ => fun
  | [d, g1] => { results := [.lit (.bool true)], args := [d], vars := [g1] }
  | _ => none }
def fnExactReadTypeRow : OpenClaim := { program := "ytmofgjngigbnpabdoor", sum := "7c5da6b8cc55e6bed45e7b718bd68977b2278e9ecde07335797f110e14f9af5f", func := "loop.example/g00901/laws.FnExactReadType", spec := "fnExactReadType", inPlace := ["internal/bytealg.IndexByteString", "internal/bytealg.IndexString", "internal/abi.NoEscape", "internal/bytealg.MakeNoZero"], unfollowed := true, recurses := true, named := ["unicode/utf8.first", "unicode/utf8.acceptRanges", "loop.example/g00901/impl.typeWords", "internal/bytealg.MaxLen"], apart := false, laid := [("unicode/utf8.acceptRanges", laid_unicode_utf8_acceptRanges), ("loop.example/g00901/impl.typeWords", laid_loop_example_g00901_impl_typeWords), ("unicode/utf8.first", laid_unicode_utf8_first)] }
def FnExactReadTypeSaid : Prop := fnExactReadTypeRow.holds Tryd.pinned (OpenSpec.ofChange fnExactReadTypeSpec)

/-- ITS FALSE NEIGHBOUR: 'it returns false'. Refute it at one input. -/
def fnExactReadTypeWrong : ChangeSpec := { name := "fnExactReadType", vars := ["loop.example/g00901/impl.typeWords"], fn := fun _ => fun
  | [d, g1] => { results := [.lit (.bool false)], args := [d], vars := [g1] }
  | _ => none }
def FnExactReadTypeWrongFalsely : Prop := fnExactReadTypeRow.holds Tryd.pinned (OpenSpec.ofChange fnExactReadTypeWrong)

/-- 'laws.FnExactFuncOk': WHATEVER THE INPUT: true; the input reads as it did. -/
def fnExactFuncOkSpec : ChangeSpec := { name := "fnExactFuncOk", fn := fun _ => fun
  | [d] => { results := [.lit (.bool true)], args := [d] }
  | _ => none }
def fnExactFuncOkRow : OpenClaim := { program := "ytmofgjngigbnpabdoor", sum := "7c5da6b8cc55e6bed45e7b718bd68977b2278e9ecde07335797f110e14f9af5f", func := "loop.example/g00901/laws.FnExactFuncOk", spec := "fnExactFuncOk", inPlace := ["internal/bytealg.IndexByteString", "internal/bytealg.IndexString"], unfollowed := true, recurses := true, named := ["unicode/utf8.first", "unicode/utf8.acceptRanges", "internal/bytealg.MaxLen"], loops := true, apart := false, laid := [("unicode/utf8.acceptRanges", laid_unicode_utf8_acceptRanges), ("unicode/utf8.first", laid_unicode_utf8_first)] }
def FnExactFuncOkSaid : Prop := fnExactFuncOkRow.holds Tryd.pinned (OpenSpec.ofChange fnExactFuncOkSpec)

/-- ITS FALSE NEIGHBOUR: 'it returns false'. Refute it at one input. -/
def fnExactFuncOkWrong : ChangeSpec := { name := "fnExactFuncOk", fn := fun _ => fun
  | [d] => { results := [.lit (.bool false)], args := [d] }
  | _ => none }
def FnExactFuncOkWrongFalsely : Prop := fnExactFuncOkRow.holds Tryd.pinned (OpenSpec.ofChange fnExactFuncOkWrong)

/-- 'laws.FnExactParamsOf': WHATEVER THE INPUT: true; the input reads as it did. -/
def fnExactParamsOfSpec : ChangeSpec := { name := "fnExactParamsOf", fn := fun _ => fun
  | [d] => { results := [.lit (.bool true)], args := [d] }
  | _ => none }
def fnExactParamsOfRow : OpenClaim := { program := "ytmofgjngigbnpabdoor", sum := "7c5da6b8cc55e6bed45e7b718bd68977b2278e9ecde07335797f110e14f9af5f", func := "loop.example/g00901/laws.FnExactParamsOf", spec := "fnExactParamsOf", inPlace := ["internal/bytealg.IndexByteString", "internal/bytealg.IndexString"], unfollowed := true, recurses := true, named := ["unicode/utf8.first", "unicode/utf8.acceptRanges", "internal/bytealg.MaxLen"], loops := true, apart := false, laid := [("unicode/utf8.acceptRanges", laid_unicode_utf8_acceptRanges), ("unicode/utf8.first", laid_unicode_utf8_first)] }
def FnExactParamsOfSaid : Prop := fnExactParamsOfRow.holds Tryd.pinned (OpenSpec.ofChange fnExactParamsOfSpec)

/-- ITS FALSE NEIGHBOUR: 'it returns false'. Refute it at one input. -/
def fnExactParamsOfWrong : ChangeSpec := { name := "fnExactParamsOf", fn := fun _ => fun
  | [d] => { results := [.lit (.bool false)], args := [d] }
  | _ => none }
def FnExactParamsOfWrongFalsely : Prop := fnExactParamsOfRow.holds Tryd.pinned (OpenSpec.ofChange fnExactParamsOfWrong)

/-- 'laws.FnExactFuncText': WHATEVER THE INPUT: true; the input reads as it did. -/
def fnExactFuncTextSpec : ChangeSpec := { name := "fnExactFuncText", vars := ["loop.example/g00901/impl.typeWords"], fn := fun _ => fun
  | [d, g1] => { results := [.lit (.bool true)], args := [d], vars := [g1] }
  | _ => none }
def fnExactFuncTextRow : OpenClaim := { program := "ytmofgjngigbnpabdoor", sum := "7c5da6b8cc55e6bed45e7b718bd68977b2278e9ecde07335797f110e14f9af5f", func := "loop.example/g00901/laws.FnExactFuncText", spec := "fnExactFuncText", inPlace := ["internal/bytealg.IndexByteString", "internal/bytealg.IndexString", "internal/abi.NoEscape", "internal/bytealg.MakeNoZero"], unfollowed := true, recurses := true, named := ["unicode/utf8.first", "unicode/utf8.acceptRanges", "internal/bytealg.MaxLen", "loop.example/g00901/impl.typeWords"], loops := true, apart := false, laid := [("unicode/utf8.acceptRanges", laid_unicode_utf8_acceptRanges), ("loop.example/g00901/impl.typeWords", laid_loop_example_g00901_impl_typeWords), ("unicode/utf8.first", laid_unicode_utf8_first)] }
def FnExactFuncTextSaid : Prop := fnExactFuncTextRow.holds Tryd.pinned (OpenSpec.ofChange fnExactFuncTextSpec)

/-- ITS FALSE NEIGHBOUR: 'it returns false'. Refute it at one input. -/
def fnExactFuncTextWrong : ChangeSpec := { name := "fnExactFuncText", vars := ["loop.example/g00901/impl.typeWords"], fn := fun _ => fun
  | [d, g1] => { results := [.lit (.bool false)], args := [d], vars := [g1] }
  | _ => none }
def FnExactFuncTextWrongFalsely : Prop := fnExactFuncTextRow.holds Tryd.pinned (OpenSpec.ofChange fnExactFuncTextWrong)

/-- 'laws.FnExactTextOk': WHATEVER THE INPUT: true; the input reads as it did. -/
def fnExactTextOkSpec : ChangeSpec := { name := "fnExactTextOk", fn := fun _ => fun
  | [d] => { results := [.lit (.bool true)], args := [d] }
  | _ => none }
def fnExactTextOkRow : OpenClaim := { program := "ytmofgjngigbnpabdoor", sum := "7c5da6b8cc55e6bed45e7b718bd68977b2278e9ecde07335797f110e14f9af5f", func := "loop.example/g00901/laws.FnExactTextOk", spec := "fnExactTextOk", named := ["unicode/utf8.first", "unicode/utf8.acceptRanges"], apart := false, laid := [("unicode/utf8.acceptRanges", laid_unicode_utf8_acceptRanges), ("unicode/utf8.first", laid_unicode_utf8_first)] }
def FnExactTextOkSaid : Prop := fnExactTextOkRow.holds Tryd.pinned (OpenSpec.ofChange fnExactTextOkSpec)

/-- ITS FALSE NEIGHBOUR: 'it returns false'. Refute it at one input. -/
def fnExactTextOkWrong : ChangeSpec := { name := "fnExactTextOk", fn := fun _ => fun
  | [d] => { results := [.lit (.bool false)], args := [d] }
  | _ => none }
def FnExactTextOkWrongFalsely : Prop := fnExactTextOkRow.holds Tryd.pinned (OpenSpec.ofChange fnExactTextOkWrong)

/- THE SECOND FORM. 'bulk': how many values and letters a reading holds, each counted each time it is reached (what is shared counts as often as it is met; a slice's spare places count too). A statement '..UptoSaid' is the law's where the arguments, and the package variables that the reading takes, are together of bulk at most 1048576: NARROWER than '..Said'. Prove '..Said' where nothing that the law and all that it calls make is longer than what came in: it says more and counts as full. Else prove '..UptoSaid'. A law counts once. -/
mutual
def uptoBulk {H : Type} : DataW H → Nat
  | .lit (.string bytes) => bytes.length + 1
  | .lit _ => 1
  | .nil => 1
  | .ptr d => uptoBulk d + 1
  | .slice elems spare => uptoBulkAll elems + uptoBulkAll spare + 1
  | .agg parts => uptoBulkAll parts + 1
  | .iface _ d => uptoBulk d + 1
  | .map entries => uptoBulkEntries entries + 1
  | .held _ => 1
def uptoBulkAll {H : Type} : List (DataW H) → Nat
  | [] => 0
  | d :: r => uptoBulk d + uptoBulkAll r
def uptoBulkEntries {H : Type} : List (Lit × DataW H) → Nat
  | [] => 0
  | x :: r => uptoBulkEntry x + uptoBulkEntries r
def uptoBulkEntry {H : Type} : Lit × DataW H → Nat
  | (.string bytes, d) => bytes.length + uptoBulk d + 1
  | (_, d) => uptoBulk d + 1
 end
def uptoSmall : (H : Type) → List (DataW H) → Bool := fun _ ds => decide (uptoBulkAll ds ≤ 1048576)
def OpenSpec.upto (s : _root_.Go.ChangeSpec) : _root_.Go.OpenSpec := { _root_.Go.OpenSpec.ofChange s with cond := some uptoSmall }

/-- 'laws.FnExactTypeText', WHERE WHAT IT READS IS OF BULK AT MOST 1048576: true; the input reads as it did. -/
def fnExactTypeTextUptoRow : OpenClaim := { program := "ytmofgjngigbnpabdoor", sum := "7c5da6b8cc55e6bed45e7b718bd68977b2278e9ecde07335797f110e14f9af5f", func := "loop.example/g00901/laws.FnExactTypeText", spec := "fnExactTypeText", inPlace := ["internal/abi.NoEscape", "internal/bytealg.MakeNoZero"], unfollowed := true, recurses := true, named := ["loop.example/g00901/impl.typeWords"], loops := true, apart := false, laid := [("loop.example/g00901/impl.typeWords", laid_loop_example_g00901_impl_typeWords)], narrowed := true }
def FnExactTypeTextUptoSaid : Prop := fnExactTypeTextUptoRow.holds Tryd.pinned (OpenSpec.upto fnExactTypeTextSpec)

/-- 'laws.FnExactReadType', WHERE WHAT IT READS IS OF BULK AT MOST 1048576: true; the input reads as it did. -/
def fnExactReadTypeUptoRow : OpenClaim := { program := "ytmofgjngigbnpabdoor", sum := "7c5da6b8cc55e6bed45e7b718bd68977b2278e9ecde07335797f110e14f9af5f", func := "loop.example/g00901/laws.FnExactReadType", spec := "fnExactReadType", inPlace := ["internal/bytealg.IndexByteString", "internal/bytealg.IndexString", "internal/abi.NoEscape", "internal/bytealg.MakeNoZero"], unfollowed := true, recurses := true, named := ["unicode/utf8.first", "unicode/utf8.acceptRanges", "loop.example/g00901/impl.typeWords", "internal/bytealg.MaxLen"], apart := false, laid := [("unicode/utf8.acceptRanges", laid_unicode_utf8_acceptRanges), ("loop.example/g00901/impl.typeWords", laid_loop_example_g00901_impl_typeWords), ("unicode/utf8.first", laid_unicode_utf8_first)], narrowed := true }
def FnExactReadTypeUptoSaid : Prop := fnExactReadTypeUptoRow.holds Tryd.pinned (OpenSpec.upto fnExactReadTypeSpec)

/-- 'laws.FnExactFuncOk', WHERE WHAT IT READS IS OF BULK AT MOST 1048576: true; the input reads as it did. -/
def fnExactFuncOkUptoRow : OpenClaim := { program := "ytmofgjngigbnpabdoor", sum := "7c5da6b8cc55e6bed45e7b718bd68977b2278e9ecde07335797f110e14f9af5f", func := "loop.example/g00901/laws.FnExactFuncOk", spec := "fnExactFuncOk", inPlace := ["internal/bytealg.IndexByteString", "internal/bytealg.IndexString"], unfollowed := true, recurses := true, named := ["unicode/utf8.first", "unicode/utf8.acceptRanges", "internal/bytealg.MaxLen"], loops := true, apart := false, laid := [("unicode/utf8.acceptRanges", laid_unicode_utf8_acceptRanges), ("unicode/utf8.first", laid_unicode_utf8_first)], narrowed := true }
def FnExactFuncOkUptoSaid : Prop := fnExactFuncOkUptoRow.holds Tryd.pinned (OpenSpec.upto fnExactFuncOkSpec)

/-- 'laws.FnExactParamsOf', WHERE WHAT IT READS IS OF BULK AT MOST 1048576: true; the input reads as it did. -/
def fnExactParamsOfUptoRow : OpenClaim := { program := "ytmofgjngigbnpabdoor", sum := "7c5da6b8cc55e6bed45e7b718bd68977b2278e9ecde07335797f110e14f9af5f", func := "loop.example/g00901/laws.FnExactParamsOf", spec := "fnExactParamsOf", inPlace := ["internal/bytealg.IndexByteString", "internal/bytealg.IndexString"], unfollowed := true, recurses := true, named := ["unicode/utf8.first", "unicode/utf8.acceptRanges", "internal/bytealg.MaxLen"], loops := true, apart := false, laid := [("unicode/utf8.acceptRanges", laid_unicode_utf8_acceptRanges), ("unicode/utf8.first", laid_unicode_utf8_first)], narrowed := true }
def FnExactParamsOfUptoSaid : Prop := fnExactParamsOfUptoRow.holds Tryd.pinned (OpenSpec.upto fnExactParamsOfSpec)

/-- 'laws.FnExactFuncText', WHERE WHAT IT READS IS OF BULK AT MOST 1048576: true; the input reads as it did. -/
def fnExactFuncTextUptoRow : OpenClaim := { program := "ytmofgjngigbnpabdoor", sum := "7c5da6b8cc55e6bed45e7b718bd68977b2278e9ecde07335797f110e14f9af5f", func := "loop.example/g00901/laws.FnExactFuncText", spec := "fnExactFuncText", inPlace := ["internal/bytealg.IndexByteString", "internal/bytealg.IndexString", "internal/abi.NoEscape", "internal/bytealg.MakeNoZero"], unfollowed := true, recurses := true, named := ["unicode/utf8.first", "unicode/utf8.acceptRanges", "internal/bytealg.MaxLen", "loop.example/g00901/impl.typeWords"], loops := true, apart := false, laid := [("unicode/utf8.acceptRanges", laid_unicode_utf8_acceptRanges), ("loop.example/g00901/impl.typeWords", laid_loop_example_g00901_impl_typeWords), ("unicode/utf8.first", laid_unicode_utf8_first)], narrowed := true }
def FnExactFuncTextUptoSaid : Prop := fnExactFuncTextUptoRow.holds Tryd.pinned (OpenSpec.upto fnExactFuncTextSpec)

/-- 'laws.FnExactTextOk', WHERE WHAT IT READS IS OF BULK AT MOST 1048576: true; the input reads as it did. -/
def fnExactTextOkUptoRow : OpenClaim := { program := "ytmofgjngigbnpabdoor", sum := "7c5da6b8cc55e6bed45e7b718bd68977b2278e9ecde07335797f110e14f9af5f", func := "loop.example/g00901/laws.FnExactTextOk", spec := "fnExactTextOk", named := ["unicode/utf8.first", "unicode/utf8.acceptRanges"], apart := false, laid := [("unicode/utf8.acceptRanges", laid_unicode_utf8_acceptRanges), ("unicode/utf8.first", laid_unicode_utf8_first)], narrowed := true }
def FnExactTextOkUptoSaid : Prop := fnExactTextOkUptoRow.holds Tryd.pinned (OpenSpec.upto fnExactTextOkSpec)

end Rows
end Go.Proofs.YtmofgjngigbnpabDoor
