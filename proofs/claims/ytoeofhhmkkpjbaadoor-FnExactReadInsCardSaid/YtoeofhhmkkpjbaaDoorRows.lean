/-
  NARROWER THAN 'FOR EVERY INPUT', by the rows' own cells (each row's printed sentence says how): FnExactWordOk: laid · FnExactOpWord: laid · FnExactInsOk: laid · FnExactInsText: laid · FnExactReadIns: laid · FnExactModuleShape: laid · FnExactCoreOf: laid · FnExactImportOf: laid · FnExactBlocksOf: laid.
  DERIVED. THE GIVEN ROWS OF THIS SEAT. 9 by the template 'for every input the law returns true; each argument reads behind the call as it read before'; 0 by the template 'total and deterministic' (their statements: YtoeofhhmkkpjbaaDoorTotals.lean).
  GIVEN WITH THE SEED: the statements are not yours to turn. If you find one false, say at which input.
  Laid BY PROGRAM, IN A SANDBOX (cutbox-rows.mjs): the forced cells as the released guide's own fill.sh prints them over the translation f9d07fe765727b71… (all of the seat's roots in one cut). By AI agents, Wed Nov 11 2026. No macro, syntax, notation, axiom, sorry.
-/
import Derived.Test.YtoeofhhmkkpjbaaDoorChecked
import GoSem.PinnedTables
import GoSem.Claim
import GoSem.ClaimJoined
import GoSem.ClaimMapViews
import Derived.JoinedTies
import Derived.KernelRfl
namespace Go.Proofs.YtoeofhhmkkpjbaaDoor
/- THE CELL 'sum', in the pinned program and in every row, IS THE sha256 OF THE DUMP (.gsa) THAT YtoeofhhmkkpjbaaDoorProg.lean LOADS. Nothing in Lean hashes anything: it is a label: what it is worth is what the hold of that sum in a sandbox is worth. -/
noncomputable def Tryd.pinned : Pinned := { name := "ytoeofhhmkkpjbaadoor", sum := "f9d07fe765727b713e041f58f1d66b167590a1db75d16fdf71cb0bd21c3de453", checked := Tryd.checked }
namespace Rows
def none {H : Type} : Left H := { results := [], args := [] }

/- WHAT THE LISTED PACKAGE-LEVEL VARIABLES READ AS WHEN THE CALL BEGINS. Each datum BY PROGRAM (the guide's laid-datum.mjs) off the statement by which the dump's own 'gosem.cut.vars' lays the variable. In a bare row this is a premise. The card (YtoeofhhmkkpjbaaDoorCards.lean) ties it to the program's text. -/
def laid_unicode_utf8_acceptRanges {H : Type} : DataW H := .agg [.agg [.lit (.int .u8 128), .lit (.int .u8 191)], .agg [.lit (.int .u8 160), .lit (.int .u8 191)], .agg [.lit (.int .u8 128), .lit (.int .u8 159)], .agg [.lit (.int .u8 144), .lit (.int .u8 191)], .agg [.lit (.int .u8 128), .lit (.int .u8 143)], .agg [.lit (.int .u8 0), .lit (.int .u8 0)], .agg [.lit (.int .u8 0), .lit (.int .u8 0)], .agg [.lit (.int .u8 0), .lit (.int .u8 0)], .agg [.lit (.int .u8 0), .lit (.int .u8 0)], .agg [.lit (.int .u8 0), .lit (.int .u8 0)], .agg [.lit (.int .u8 0), .lit (.int .u8 0)], .agg [.lit (.int .u8 0), .lit (.int .u8 0)], .agg [.lit (.int .u8 0), .lit (.int .u8 0)], .agg [.lit (.int .u8 0), .lit (.int .u8 0)], .agg [.lit (.int .u8 0), .lit (.int .u8 0)], .agg [.lit (.int .u8 0), .lit (.int .u8 0)]]
/-- One of Go's own tables, pinned by name: the form's constant. -/
def laid_unicode_utf8_first : DataW Unit := Go.Pinned.utf8First
def laid_loop_example_g00901_impl_mnemonics {H : Type} : DataW H := .agg [.lit (.string []), .lit (.string [99, 111, 110, 115, 116]), .lit (.string [103, 101, 116]), .lit (.string [115, 101, 116]), .lit (.string [116, 101, 101]), .lit (.string [100, 114, 111, 112]), .lit (.string [97, 100, 100]), .lit (.string [115, 117, 98]), .lit (.string [109, 117, 108]), .lit (.string [100, 105, 118]), .lit (.string [114, 101, 109]), .lit (.string [97, 110, 100]), .lit (.string [111, 114]), .lit (.string [120, 111, 114]), .lit (.string [115, 104, 108]), .lit (.string [115, 104, 114]), .lit (.string [101, 113]), .lit (.string [110, 101]), .lit (.string [108, 116]), .lit (.string [103, 116]), .lit (.string [108, 101]), .lit (.string [103, 101]), .lit (.string [101, 113, 122]), .lit (.string [115, 101, 108, 101, 99, 116]), .lit (.string [98, 108, 111, 99, 107]), .lit (.string [108, 111, 111, 112]), .lit (.string [105, 102]), .lit (.string [101, 108, 115, 101]), .lit (.string [101, 110, 100]), .lit (.string [98, 114]), .lit (.string [98, 114, 105, 102]), .lit (.string [114, 101, 116, 117, 114, 110]), .lit (.string [99, 97, 108, 108]), .lit (.string [104, 111, 115, 116]), .lit (.string [108, 111, 97, 100, 56]), .lit (.string [108, 111, 97, 100, 51, 50]), .lit (.string [108, 111, 97, 100, 54, 52]), .lit (.string [115, 116, 111, 114, 101, 56]), .lit (.string [115, 116, 111, 114, 101, 51, 50]), .lit (.string [115, 116, 111, 114, 101, 54, 52]), .lit (.string [116, 114, 97, 112])]
def laid_math_bits_deBruijn32tab {H : Type} : DataW H := .agg [.lit (.int .u8 0), .lit (.int .u8 1), .lit (.int .u8 28), .lit (.int .u8 2), .lit (.int .u8 29), .lit (.int .u8 14), .lit (.int .u8 24), .lit (.int .u8 3), .lit (.int .u8 30), .lit (.int .u8 22), .lit (.int .u8 20), .lit (.int .u8 15), .lit (.int .u8 25), .lit (.int .u8 17), .lit (.int .u8 4), .lit (.int .u8 8), .lit (.int .u8 31), .lit (.int .u8 27), .lit (.int .u8 13), .lit (.int .u8 23), .lit (.int .u8 21), .lit (.int .u8 19), .lit (.int .u8 16), .lit (.int .u8 7), .lit (.int .u8 26), .lit (.int .u8 12), .lit (.int .u8 18), .lit (.int .u8 6), .lit (.int .u8 11), .lit (.int .u8 5), .lit (.int .u8 10), .lit (.int .u8 9)]
def laid_math_bits_deBruijn64tab {H : Type} : DataW H := .agg [.lit (.int .u8 0), .lit (.int .u8 1), .lit (.int .u8 56), .lit (.int .u8 2), .lit (.int .u8 57), .lit (.int .u8 49), .lit (.int .u8 28), .lit (.int .u8 3), .lit (.int .u8 61), .lit (.int .u8 58), .lit (.int .u8 42), .lit (.int .u8 50), .lit (.int .u8 38), .lit (.int .u8 29), .lit (.int .u8 17), .lit (.int .u8 4), .lit (.int .u8 62), .lit (.int .u8 47), .lit (.int .u8 59), .lit (.int .u8 36), .lit (.int .u8 45), .lit (.int .u8 43), .lit (.int .u8 51), .lit (.int .u8 22), .lit (.int .u8 53), .lit (.int .u8 39), .lit (.int .u8 33), .lit (.int .u8 30), .lit (.int .u8 24), .lit (.int .u8 18), .lit (.int .u8 12), .lit (.int .u8 5), .lit (.int .u8 63), .lit (.int .u8 55), .lit (.int .u8 48), .lit (.int .u8 27), .lit (.int .u8 60), .lit (.int .u8 41), .lit (.int .u8 37), .lit (.int .u8 16), .lit (.int .u8 46), .lit (.int .u8 35), .lit (.int .u8 44), .lit (.int .u8 21), .lit (.int .u8 52), .lit (.int .u8 32), .lit (.int .u8 23), .lit (.int .u8 11), .lit (.int .u8 54), .lit (.int .u8 26), .lit (.int .u8 40), .lit (.int .u8 15), .lit (.int .u8 34), .lit (.int .u8 20), .lit (.int .u8 31), .lit (.int .u8 10), .lit (.int .u8 25), .lit (.int .u8 14), .lit (.int .u8 19), .lit (.int .u8 9), .lit (.int .u8 13), .lit (.int .u8 8), .lit (.int .u8 7), .lit (.int .u8 6)]
def laid_internal_strconv_uint64pow10 {H : Type} : DataW H := .agg [.lit (.int .u64 1), .lit (.int .u64 10), .lit (.int .u64 100), .lit (.int .u64 1000), .lit (.int .u64 10000), .lit (.int .u64 100000), .lit (.int .u64 1000000), .lit (.int .u64 10000000), .lit (.int .u64 100000000), .lit (.int .u64 1000000000), .lit (.int .u64 10000000000), .lit (.int .u64 100000000000), .lit (.int .u64 1000000000000), .lit (.int .u64 10000000000000), .lit (.int .u64 100000000000000), .lit (.int .u64 1000000000000000), .lit (.int .u64 10000000000000000), .lit (.int .u64 100000000000000000), .lit (.int .u64 1000000000000000000), .lit (.int .u64 10000000000000000000)]
def laid_strconv_ErrRange {H : Type} : DataW H := .iface "*errors.errorString" (.ptr (.agg [.lit (.string [118, 97, 108, 117, 101, 32, 111, 117, 116, 32, 111, 102, 32, 114, 97, 110, 103, 101])]))
def laid_strconv_ErrSyntax {H : Type} : DataW H := .iface "*errors.errorString" (.ptr (.agg [.lit (.string [105, 110, 118, 97, 108, 105, 100, 32, 115, 121, 110, 116, 97, 120])]))

/-- 'laws.FnExactWordOk': WHATEVER THE INPUT: true; the input reads as it did. -/
def fnExactWordOkSpec : ChangeSpec := { name := "fnExactWordOk", fn := fun _ => fun
  | [d] => { results := [.lit (.bool true)], args := [d] }
  | _ => none }
def fnExactWordOkRow : OpenClaim := { program := "ytoeofhhmkkpjbaadoor", sum := "f9d07fe765727b713e041f58f1d66b167590a1db75d16fdf71cb0bd21c3de453", func := "loop.example/g00901/laws.FnExactWordOk", spec := "fnExactWordOk", inPlace := ["internal/bytealg.IndexByteString", "internal/bytealg.IndexString"], named := ["unicode/utf8.first", "unicode/utf8.acceptRanges", "internal/bytealg.MaxLen"], apart := false, laid := [("unicode/utf8.acceptRanges", laid_unicode_utf8_acceptRanges), ("unicode/utf8.first", laid_unicode_utf8_first)] }
def FnExactWordOkSaid : Prop := fnExactWordOkRow.holds Tryd.pinned (OpenSpec.ofChange fnExactWordOkSpec)

/-- ITS FALSE NEIGHBOUR: 'it returns false'. Refute it at one input. -/
def fnExactWordOkWrong : ChangeSpec := { name := "fnExactWordOk", fn := fun _ => fun
  | [d] => { results := [.lit (.bool false)], args := [d] }
  | _ => none }
def FnExactWordOkWrongFalsely : Prop := fnExactWordOkRow.holds Tryd.pinned (OpenSpec.ofChange fnExactWordOkWrong)

/-- 'laws.FnExactOpWord': WHATEVER THE INPUT: true; the input reads as it did. -/
def fnExactOpWordSpec : ChangeSpec := { name := "fnExactOpWord", vars := ["loop.example/g00901/impl.mnemonics"], fn := fun _ => fun
  | [d, g1] => { results := [.lit (.bool true)], args := [d], vars := [g1] }
  | _ => none }
def fnExactOpWordRow : OpenClaim := { program := "ytoeofhhmkkpjbaadoor", sum := "f9d07fe765727b713e041f58f1d66b167590a1db75d16fdf71cb0bd21c3de453", func := "loop.example/g00901/laws.FnExactOpWord", spec := "fnExactOpWord", named := ["loop.example/g00901/impl.mnemonics"], apart := false, laid := [("loop.example/g00901/impl.mnemonics", laid_loop_example_g00901_impl_mnemonics)] }
def FnExactOpWordSaid : Prop := fnExactOpWordRow.holds Tryd.pinned (OpenSpec.ofChange fnExactOpWordSpec)

/-- ITS FALSE NEIGHBOUR: 'it returns false'. Refute it at one input. -/
def fnExactOpWordWrong : ChangeSpec := { name := "fnExactOpWord", vars := ["loop.example/g00901/impl.mnemonics"], fn := fun _ => fun
  | [d, g1] => { results := [.lit (.bool false)], args := [d], vars := [g1] }
  | _ => none }
def FnExactOpWordWrongFalsely : Prop := fnExactOpWordRow.holds Tryd.pinned (OpenSpec.ofChange fnExactOpWordWrong)

/-- 'laws.FnExactInsOk': WHATEVER THE INPUT: true; the input reads as it did. -/
def fnExactInsOkSpec : ChangeSpec := { name := "fnExactInsOk", vars := ["loop.example/g00901/impl.mnemonics"], fn := fun _ => fun
  | [d, g1] => { results := [.lit (.bool true)], args := [d], vars := [g1] }
  | _ => none }
def fnExactInsOkRow : OpenClaim := { program := "ytoeofhhmkkpjbaadoor", sum := "f9d07fe765727b713e041f58f1d66b167590a1db75d16fdf71cb0bd21c3de453", func := "loop.example/g00901/laws.FnExactInsOk", spec := "fnExactInsOk", named := ["loop.example/g00901/impl.mnemonics"], apart := false, laid := [("loop.example/g00901/impl.mnemonics", laid_loop_example_g00901_impl_mnemonics)] }
def FnExactInsOkSaid : Prop := fnExactInsOkRow.holds Tryd.pinned (OpenSpec.ofChange fnExactInsOkSpec)

/-- ITS FALSE NEIGHBOUR: 'it returns false'. Refute it at one input. -/
def fnExactInsOkWrong : ChangeSpec := { name := "fnExactInsOk", vars := ["loop.example/g00901/impl.mnemonics"], fn := fun _ => fun
  | [d, g1] => { results := [.lit (.bool false)], args := [d], vars := [g1] }
  | _ => none }
def FnExactInsOkWrongFalsely : Prop := fnExactInsOkRow.holds Tryd.pinned (OpenSpec.ofChange fnExactInsOkWrong)

/-- 'laws.FnExactInsText': WHATEVER THE INPUT: true; the input reads as it did. -/
def fnExactInsTextSpec : ChangeSpec := { name := "fnExactInsText", vars := ["loop.example/g00901/impl.mnemonics"], fn := fun _ => fun
  | [d, g1] => { results := [.lit (.bool true)], args := [d], vars := [g1] }
  | _ => none }
def fnExactInsTextRow : OpenClaim := { program := "ytoeofhhmkkpjbaadoor", sum := "f9d07fe765727b713e041f58f1d66b167590a1db75d16fdf71cb0bd21c3de453", func := "loop.example/g00901/laws.FnExactInsText", spec := "fnExactInsText", recurses := true, named := ["loop.example/g00901/impl.mnemonics", "internal/strconv.uint64pow10", "math/bits.deBruijn32tab", "math/bits.deBruijn64tab"], apart := false, laid := [("math/bits.deBruijn32tab", laid_math_bits_deBruijn32tab), ("math/bits.deBruijn64tab", laid_math_bits_deBruijn64tab), ("internal/strconv.uint64pow10", laid_internal_strconv_uint64pow10), ("loop.example/g00901/impl.mnemonics", laid_loop_example_g00901_impl_mnemonics)] }
def FnExactInsTextSaid : Prop := fnExactInsTextRow.holds Tryd.pinned (OpenSpec.ofChange fnExactInsTextSpec)

/-- ITS FALSE NEIGHBOUR: 'it returns false'. Refute it at one input. -/
def fnExactInsTextWrong : ChangeSpec := { name := "fnExactInsText", vars := ["loop.example/g00901/impl.mnemonics"], fn := fun _ => fun
  | [d, g1] => { results := [.lit (.bool false)], args := [d], vars := [g1] }
  | _ => none }
def FnExactInsTextWrongFalsely : Prop := fnExactInsTextRow.holds Tryd.pinned (OpenSpec.ofChange fnExactInsTextWrong)

/-- 'laws.FnExactReadIns': WHATEVER THE INPUT: true; the input reads as it did. -/
def fnExactReadInsSpec : ChangeSpec := { name := "fnExactReadIns", vars := ["loop.example/g00901/impl.mnemonics"], fn := fun _ => fun
  | [d, g1] => { results := [.lit (.bool true)], args := [d], vars := [g1] }
  | _ => none }
def fnExactReadInsRow : OpenClaim := { program := "ytoeofhhmkkpjbaadoor", sum := "f9d07fe765727b713e041f58f1d66b167590a1db75d16fdf71cb0bd21c3de453", func := "loop.example/g00901/laws.FnExactReadIns", spec := "fnExactReadIns", inPlace := ["internal/bytealg.IndexByteString", "internal/bytealg.IndexString"], recurses := true, named := ["internal/bytealg.MaxLen", "strconv.ErrSyntax", "strconv.ErrRange", "internal/strconv.uint64pow10", "math/bits.deBruijn32tab", "math/bits.deBruijn64tab", "loop.example/g00901/impl.mnemonics"], apart := false, laid := [("math/bits.deBruijn32tab", laid_math_bits_deBruijn32tab), ("math/bits.deBruijn64tab", laid_math_bits_deBruijn64tab), ("internal/strconv.uint64pow10", laid_internal_strconv_uint64pow10), ("strconv.ErrRange", laid_strconv_ErrRange), ("strconv.ErrSyntax", laid_strconv_ErrSyntax), ("loop.example/g00901/impl.mnemonics", laid_loop_example_g00901_impl_mnemonics)] }
def FnExactReadInsSaid : Prop := fnExactReadInsRow.holds Tryd.pinned (OpenSpec.ofChange fnExactReadInsSpec)

/-- ITS FALSE NEIGHBOUR: 'it returns false'. Refute it at one input. -/
def fnExactReadInsWrong : ChangeSpec := { name := "fnExactReadIns", vars := ["loop.example/g00901/impl.mnemonics"], fn := fun _ => fun
  | [d, g1] => { results := [.lit (.bool false)], args := [d], vars := [g1] }
  | _ => none }
def FnExactReadInsWrongFalsely : Prop := fnExactReadInsRow.holds Tryd.pinned (OpenSpec.ofChange fnExactReadInsWrong)

/-- 'laws.FnExactModuleShape': WHATEVER THE INPUT: true; the input reads as it did. -/
def fnExactModuleShapeSpec : ChangeSpec := { name := "fnExactModuleShape", vars := ["loop.example/g00901/impl.mnemonics"], fn := fun _ => fun
  | [d, g1] => { results := [.lit (.bool true)], args := [d], vars := [g1] }
  | _ => none }
def fnExactModuleShapeRow : OpenClaim := { program := "ytoeofhhmkkpjbaadoor", sum := "f9d07fe765727b713e041f58f1d66b167590a1db75d16fdf71cb0bd21c3de453", func := "loop.example/g00901/laws.FnExactModuleShape", spec := "fnExactModuleShape", inPlace := ["internal/bytealg.IndexByteString", "internal/bytealg.IndexString"], unfollowed := true, recurses := true, named := ["unicode/utf8.first", "unicode/utf8.acceptRanges", "loop.example/g00901/impl.mnemonics", "internal/bytealg.MaxLen"], apart := false, laid := [("unicode/utf8.acceptRanges", laid_unicode_utf8_acceptRanges), ("loop.example/g00901/impl.mnemonics", laid_loop_example_g00901_impl_mnemonics), ("unicode/utf8.first", laid_unicode_utf8_first)] }
def FnExactModuleShapeSaid : Prop := fnExactModuleShapeRow.holds Tryd.pinned (OpenSpec.ofChange fnExactModuleShapeSpec)

/-- ITS FALSE NEIGHBOUR: 'it returns false'. Refute it at one input. -/
def fnExactModuleShapeWrong : ChangeSpec := { name := "fnExactModuleShape", vars := ["loop.example/g00901/impl.mnemonics"], fn := fun _ => fun
  | [d, g1] => { results := [.lit (.bool false)], args := [d], vars := [g1] }
  | _ => none }
def FnExactModuleShapeWrongFalsely : Prop := fnExactModuleShapeRow.holds Tryd.pinned (OpenSpec.ofChange fnExactModuleShapeWrong)

/-- 'laws.FnExactCoreOf': WHATEVER THE INPUT: true; the input reads as it did. -/
def fnExactCoreOfSpec : ChangeSpec := { name := "fnExactCoreOf", vars := ["loop.example/g00901/impl.mnemonics"], fn := fun _ => fun
  | [d1, d2, g1] => { results := [.lit (.bool true)], args := [d1, d2], vars := [g1] }
  | _ => none }
def fnExactCoreOfRow : OpenClaim := { program := "ytoeofhhmkkpjbaadoor", sum := "f9d07fe765727b713e041f58f1d66b167590a1db75d16fdf71cb0bd21c3de453", func := "loop.example/g00901/laws.FnExactCoreOf", spec := "fnExactCoreOf", inPlace := ["internal/bytealg.IndexByteString", "internal/bytealg.IndexString"], unfollowed := true, recurses := true, named := ["unicode/utf8.first", "unicode/utf8.acceptRanges", "loop.example/g00901/impl.mnemonics", "internal/bytealg.MaxLen"], apart := false, laid := [("unicode/utf8.acceptRanges", laid_unicode_utf8_acceptRanges), ("loop.example/g00901/impl.mnemonics", laid_loop_example_g00901_impl_mnemonics), ("unicode/utf8.first", laid_unicode_utf8_first)] }
def FnExactCoreOfSaid : Prop := fnExactCoreOfRow.holds Tryd.pinned (OpenSpec.ofChange fnExactCoreOfSpec)

/-- ITS FALSE NEIGHBOUR: 'it returns false'. Refute it at one input. -/
def fnExactCoreOfWrong : ChangeSpec := { name := "fnExactCoreOf", vars := ["loop.example/g00901/impl.mnemonics"], fn := fun _ => fun
  | [d1, d2, g1] => { results := [.lit (.bool false)], args := [d1, d2], vars := [g1] }
  | _ => none }
def FnExactCoreOfWrongFalsely : Prop := fnExactCoreOfRow.holds Tryd.pinned (OpenSpec.ofChange fnExactCoreOfWrong)

/-- 'laws.FnExactImportOf': WHATEVER THE INPUT: true; the input reads as it did. -/
def fnExactImportOfSpec : ChangeSpec := { name := "fnExactImportOf", vars := ["loop.example/g00901/impl.mnemonics"], fn := fun _ => fun
  | [d1, d2, g1] => { results := [.lit (.bool true)], args := [d1, d2], vars := [g1] }
  | _ => none }
def fnExactImportOfRow : OpenClaim := { program := "ytoeofhhmkkpjbaadoor", sum := "f9d07fe765727b713e041f58f1d66b167590a1db75d16fdf71cb0bd21c3de453", func := "loop.example/g00901/laws.FnExactImportOf", spec := "fnExactImportOf", inPlace := ["internal/bytealg.IndexByteString", "internal/bytealg.IndexString"], unfollowed := true, recurses := true, named := ["unicode/utf8.first", "unicode/utf8.acceptRanges", "loop.example/g00901/impl.mnemonics", "internal/bytealg.MaxLen"], apart := false, laid := [("unicode/utf8.acceptRanges", laid_unicode_utf8_acceptRanges), ("loop.example/g00901/impl.mnemonics", laid_loop_example_g00901_impl_mnemonics), ("unicode/utf8.first", laid_unicode_utf8_first)] }
def FnExactImportOfSaid : Prop := fnExactImportOfRow.holds Tryd.pinned (OpenSpec.ofChange fnExactImportOfSpec)

/-- ITS FALSE NEIGHBOUR: 'it returns false'. Refute it at one input. -/
def fnExactImportOfWrong : ChangeSpec := { name := "fnExactImportOf", vars := ["loop.example/g00901/impl.mnemonics"], fn := fun _ => fun
  | [d1, d2, g1] => { results := [.lit (.bool false)], args := [d1, d2], vars := [g1] }
  | _ => none }
def FnExactImportOfWrongFalsely : Prop := fnExactImportOfRow.holds Tryd.pinned (OpenSpec.ofChange fnExactImportOfWrong)

/-- 'laws.FnExactBlocksOf': WHATEVER THE INPUT: true; the input reads as it did. -/
def fnExactBlocksOfSpec : ChangeSpec := { name := "fnExactBlocksOf", vars := ["loop.example/g00901/impl.mnemonics"], fn := fun _ => fun
  | [d, g1] => { results := [.lit (.bool true)], args := [d], vars := [g1] }
  | _ => none }
def fnExactBlocksOfRow : OpenClaim := { program := "ytoeofhhmkkpjbaadoor", sum := "f9d07fe765727b713e041f58f1d66b167590a1db75d16fdf71cb0bd21c3de453", func := "loop.example/g00901/laws.FnExactBlocksOf", spec := "fnExactBlocksOf", inPlace := ["internal/bytealg.IndexByteString", "internal/bytealg.IndexString"], unfollowed := true, recurses := true, named := ["unicode/utf8.first", "unicode/utf8.acceptRanges", "loop.example/g00901/impl.mnemonics", "internal/bytealg.MaxLen"], apart := false, laid := [("unicode/utf8.acceptRanges", laid_unicode_utf8_acceptRanges), ("loop.example/g00901/impl.mnemonics", laid_loop_example_g00901_impl_mnemonics), ("unicode/utf8.first", laid_unicode_utf8_first)] }
def FnExactBlocksOfSaid : Prop := fnExactBlocksOfRow.holds Tryd.pinned (OpenSpec.ofChange fnExactBlocksOfSpec)

/-- ITS FALSE NEIGHBOUR: 'it returns false'. Refute it at one input. -/
def fnExactBlocksOfWrong : ChangeSpec := { name := "fnExactBlocksOf", vars := ["loop.example/g00901/impl.mnemonics"], fn := fun _ => fun
  | [d, g1] => { results := [.lit (.bool false)], args := [d], vars := [g1] }
  | _ => none }
def FnExactBlocksOfWrongFalsely : Prop := fnExactBlocksOfRow.holds Tryd.pinned (OpenSpec.ofChange fnExactBlocksOfWrong)

/- THE SECOND FORM. 'bulk': how many values and letters a reading holds, each counted each time it is reached (what is shared counts as often as it is met; a slice's spare places count too). A statement '..UptoSaid' is the law's where the arguments, and the package variables that the reading takes, are together of bulk at most 1048576: NARROWER than '..Said'. Prove '..Said' where nothing that the law and all that it calls make is longer than what came in: it says more and counts as full. Else prove '..UptoSaid'. A law counts once. -/
mutual
def uptoBulk {H : Type} : DataW H → Nat
  | .lit (.string bytes) => bytes.length + 1
  | .lit _ => 1
  | .nil => 1
  | .ptr d => uptoBulk d + 1
  | .slice elems spare => uptoBulkAll elems + uptoBulkAll spare + 1
  | .agg parts => uptoBulkAll parts + 1
  | .iface _ d => uptoBulk d + 1
  | .map entries => uptoBulkEntries entries + 1
  | .held _ => 1
def uptoBulkAll {H : Type} : List (DataW H) → Nat
  | [] => 0
  | d :: r => uptoBulk d + uptoBulkAll r
def uptoBulkEntries {H : Type} : List (Lit × DataW H) → Nat
  | [] => 0
  | x :: r => uptoBulkEntry x + uptoBulkEntries r
def uptoBulkEntry {H : Type} : Lit × DataW H → Nat
  | (.string bytes, d) => bytes.length + uptoBulk d + 1
  | (_, d) => uptoBulk d + 1
 end
def uptoSmall : (H : Type) → List (DataW H) → Bool := fun _ ds => decide (uptoBulkAll ds ≤ 1048576)
def OpenSpec.upto (s : _root_.Go.ChangeSpec) : _root_.Go.OpenSpec := { _root_.Go.OpenSpec.ofChange s with cond := some uptoSmall }

/-- 'laws.FnExactWordOk', WHERE WHAT IT READS IS OF BULK AT MOST 1048576: true; the input reads as it did. -/
def fnExactWordOkUptoRow : OpenClaim := { program := "ytoeofhhmkkpjbaadoor", sum := "f9d07fe765727b713e041f58f1d66b167590a1db75d16fdf71cb0bd21c3de453", func := "loop.example/g00901/laws.FnExactWordOk", spec := "fnExactWordOk", inPlace := ["internal/bytealg.IndexByteString", "internal/bytealg.IndexString"], named := ["unicode/utf8.first", "unicode/utf8.acceptRanges", "internal/bytealg.MaxLen"], apart := false, laid := [("unicode/utf8.acceptRanges", laid_unicode_utf8_acceptRanges), ("unicode/utf8.first", laid_unicode_utf8_first)], narrowed := true }
def FnExactWordOkUptoSaid : Prop := fnExactWordOkUptoRow.holds Tryd.pinned (OpenSpec.upto fnExactWordOkSpec)

/-- 'laws.FnExactOpWord', WHERE WHAT IT READS IS OF BULK AT MOST 1048576: true; the input reads as it did. -/
def fnExactOpWordUptoRow : OpenClaim := { program := "ytoeofhhmkkpjbaadoor", sum := "f9d07fe765727b713e041f58f1d66b167590a1db75d16fdf71cb0bd21c3de453", func := "loop.example/g00901/laws.FnExactOpWord", spec := "fnExactOpWord", named := ["loop.example/g00901/impl.mnemonics"], apart := false, laid := [("loop.example/g00901/impl.mnemonics", laid_loop_example_g00901_impl_mnemonics)], narrowed := true }
def FnExactOpWordUptoSaid : Prop := fnExactOpWordUptoRow.holds Tryd.pinned (OpenSpec.upto fnExactOpWordSpec)

/-- 'laws.FnExactInsOk', WHERE WHAT IT READS IS OF BULK AT MOST 1048576: true; the input reads as it did. -/
def fnExactInsOkUptoRow : OpenClaim := { program := "ytoeofhhmkkpjbaadoor", sum := "f9d07fe765727b713e041f58f1d66b167590a1db75d16fdf71cb0bd21c3de453", func := "loop.example/g00901/laws.FnExactInsOk", spec := "fnExactInsOk", named := ["loop.example/g00901/impl.mnemonics"], apart := false, laid := [("loop.example/g00901/impl.mnemonics", laid_loop_example_g00901_impl_mnemonics)], narrowed := true }
def FnExactInsOkUptoSaid : Prop := fnExactInsOkUptoRow.holds Tryd.pinned (OpenSpec.upto fnExactInsOkSpec)

/-- 'laws.FnExactInsText', WHERE WHAT IT READS IS OF BULK AT MOST 1048576: true; the input reads as it did. -/
def fnExactInsTextUptoRow : OpenClaim := { program := "ytoeofhhmkkpjbaadoor", sum := "f9d07fe765727b713e041f58f1d66b167590a1db75d16fdf71cb0bd21c3de453", func := "loop.example/g00901/laws.FnExactInsText", spec := "fnExactInsText", recurses := true, named := ["loop.example/g00901/impl.mnemonics", "internal/strconv.uint64pow10", "math/bits.deBruijn32tab", "math/bits.deBruijn64tab"], apart := false, laid := [("math/bits.deBruijn32tab", laid_math_bits_deBruijn32tab), ("math/bits.deBruijn64tab", laid_math_bits_deBruijn64tab), ("internal/strconv.uint64pow10", laid_internal_strconv_uint64pow10), ("loop.example/g00901/impl.mnemonics", laid_loop_example_g00901_impl_mnemonics)], narrowed := true }
def FnExactInsTextUptoSaid : Prop := fnExactInsTextUptoRow.holds Tryd.pinned (OpenSpec.upto fnExactInsTextSpec)

/-- 'laws.FnExactReadIns', WHERE WHAT IT READS IS OF BULK AT MOST 1048576: true; the input reads as it did. -/
def fnExactReadInsUptoRow : OpenClaim := { program := "ytoeofhhmkkpjbaadoor", sum := "f9d07fe765727b713e041f58f1d66b167590a1db75d16fdf71cb0bd21c3de453", func := "loop.example/g00901/laws.FnExactReadIns", spec := "fnExactReadIns", inPlace := ["internal/bytealg.IndexByteString", "internal/bytealg.IndexString"], recurses := true, named := ["internal/bytealg.MaxLen", "strconv.ErrSyntax", "strconv.ErrRange", "internal/strconv.uint64pow10", "math/bits.deBruijn32tab", "math/bits.deBruijn64tab", "loop.example/g00901/impl.mnemonics"], apart := false, laid := [("math/bits.deBruijn32tab", laid_math_bits_deBruijn32tab), ("math/bits.deBruijn64tab", laid_math_bits_deBruijn64tab), ("internal/strconv.uint64pow10", laid_internal_strconv_uint64pow10), ("strconv.ErrRange", laid_strconv_ErrRange), ("strconv.ErrSyntax", laid_strconv_ErrSyntax), ("loop.example/g00901/impl.mnemonics", laid_loop_example_g00901_impl_mnemonics)], narrowed := true }
def FnExactReadInsUptoSaid : Prop := fnExactReadInsUptoRow.holds Tryd.pinned (OpenSpec.upto fnExactReadInsSpec)

/-- 'laws.FnExactModuleShape', WHERE WHAT IT READS IS OF BULK AT MOST 1048576: true; the input reads as it did. -/
def fnExactModuleShapeUptoRow : OpenClaim := { program := "ytoeofhhmkkpjbaadoor", sum := "f9d07fe765727b713e041f58f1d66b167590a1db75d16fdf71cb0bd21c3de453", func := "loop.example/g00901/laws.FnExactModuleShape", spec := "fnExactModuleShape", inPlace := ["internal/bytealg.IndexByteString", "internal/bytealg.IndexString"], unfollowed := true, recurses := true, named := ["unicode/utf8.first", "unicode/utf8.acceptRanges", "loop.example/g00901/impl.mnemonics", "internal/bytealg.MaxLen"], apart := false, laid := [("unicode/utf8.acceptRanges", laid_unicode_utf8_acceptRanges), ("loop.example/g00901/impl.mnemonics", laid_loop_example_g00901_impl_mnemonics), ("unicode/utf8.first", laid_unicode_utf8_first)], narrowed := true }
def FnExactModuleShapeUptoSaid : Prop := fnExactModuleShapeUptoRow.holds Tryd.pinned (OpenSpec.upto fnExactModuleShapeSpec)

/-- 'laws.FnExactCoreOf', WHERE WHAT IT READS IS OF BULK AT MOST 1048576: true; the input reads as it did. -/
def fnExactCoreOfUptoRow : OpenClaim := { program := "ytoeofhhmkkpjbaadoor", sum := "f9d07fe765727b713e041f58f1d66b167590a1db75d16fdf71cb0bd21c3de453", func := "loop.example/g00901/laws.FnExactCoreOf", spec := "fnExactCoreOf", inPlace := ["internal/bytealg.IndexByteString", "internal/bytealg.IndexString"], unfollowed := true, recurses := true, named := ["unicode/utf8.first", "unicode/utf8.acceptRanges", "loop.example/g00901/impl.mnemonics", "internal/bytealg.MaxLen"], apart := false, laid := [("unicode/utf8.acceptRanges", laid_unicode_utf8_acceptRanges), ("loop.example/g00901/impl.mnemonics", laid_loop_example_g00901_impl_mnemonics), ("unicode/utf8.first", laid_unicode_utf8_first)], narrowed := true }
def FnExactCoreOfUptoSaid : Prop := fnExactCoreOfUptoRow.holds Tryd.pinned (OpenSpec.upto fnExactCoreOfSpec)

/-- 'laws.FnExactImportOf', WHERE WHAT IT READS IS OF BULK AT MOST 1048576: true; the input reads as it did. -/
def fnExactImportOfUptoRow : OpenClaim := { program := "ytoeofhhmkkpjbaadoor", sum := "f9d07fe765727b713e041f58f1d66b167590a1db75d16fdf71cb0bd21c3de453", func := "loop.example/g00901/laws.FnExactImportOf", spec := "fnExactImportOf", inPlace := ["internal/bytealg.IndexByteString", "internal/bytealg.IndexString"], unfollowed := true, recurses := true, named := ["unicode/utf8.first", "unicode/utf8.acceptRanges", "loop.example/g00901/impl.mnemonics", "internal/bytealg.MaxLen"], apart := false, laid := [("unicode/utf8.acceptRanges", laid_unicode_utf8_acceptRanges), ("loop.example/g00901/impl.mnemonics", laid_loop_example_g00901_impl_mnemonics), ("unicode/utf8.first", laid_unicode_utf8_first)], narrowed := true }
def FnExactImportOfUptoSaid : Prop := fnExactImportOfUptoRow.holds Tryd.pinned (OpenSpec.upto fnExactImportOfSpec)

/-- 'laws.FnExactBlocksOf', WHERE WHAT IT READS IS OF BULK AT MOST 1048576: true; the input reads as it did. -/
def fnExactBlocksOfUptoRow : OpenClaim := { program := "ytoeofhhmkkpjbaadoor", sum := "f9d07fe765727b713e041f58f1d66b167590a1db75d16fdf71cb0bd21c3de453", func := "loop.example/g00901/laws.FnExactBlocksOf", spec := "fnExactBlocksOf", inPlace := ["internal/bytealg.IndexByteString", "internal/bytealg.IndexString"], unfollowed := true, recurses := true, named := ["unicode/utf8.first", "unicode/utf8.acceptRanges", "loop.example/g00901/impl.mnemonics", "internal/bytealg.MaxLen"], apart := false, laid := [("unicode/utf8.acceptRanges", laid_unicode_utf8_acceptRanges), ("loop.example/g00901/impl.mnemonics", laid_loop_example_g00901_impl_mnemonics), ("unicode/utf8.first", laid_unicode_utf8_first)], narrowed := true }
def FnExactBlocksOfUptoSaid : Prop := fnExactBlocksOfUptoRow.holds Tryd.pinned (OpenSpec.upto fnExactBlocksOfSpec)

end Rows
end Go.Proofs.YtoeofhhmkkpjbaaDoor
