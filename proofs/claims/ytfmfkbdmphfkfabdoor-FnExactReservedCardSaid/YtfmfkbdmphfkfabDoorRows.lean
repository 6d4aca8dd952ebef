/-
  NARROWER THAN 'FOR EVERY INPUT', by the rows' own cells (each row's printed sentence says how): FnExactReserved: laid · FnExactReadPath: ifaces, laid · FnExactReadTerm: ifaces, laid.
  DERIVED. THE GIVEN ROWS OF THIS SEAT. 3 by the template 'for every input the law returns true; each argument reads behind the call as it read before'; 0 by the template 'total and deterministic' (their statements: YtfmfkbdmphfkfabDoorTotals.lean).
  GIVEN WITH THE SEED: the statements are not yours to turn. If you find one false, say at which input.
  Laid BY PROGRAM, IN A SANDBOX (cutbox-rows.mjs): the forced cells as the released guide's own fill.sh prints them over the translation 1f5082c3af9bf8d5… (all of the seat's roots in one cut). By AI agents, Wed Nov 11 2026. No macro, syntax, notation, axiom, sorry.
-/
import Derived.Test.YtfmfkbdmphfkfabDoorChecked
import GoSem.PinnedTables
import GoSem.Claim
import GoSem.ClaimJoined
import GoSem.ClaimMapViews
import Derived.JoinedTies
import Derived.KernelRfl
namespace Go.Proofs.YtfmfkbdmphfkfabDoor
/- THE CELL 'sum', in the pinned program and in every row, IS THE sha256 OF THE DUMP (.gsa) THAT YtfmfkbdmphfkfabDoorProg.lean LOADS. Nothing in Lean hashes anything: it is a label: what it is worth is what the hold of that sum in a sandbox is worth. -/
noncomputable def Tryd.pinned : Pinned := { name := "ytfmfkbdmphfkfabdoor", sum := "1f5082c3af9bf8d5643ea800c97f83386fd7cb5a86224b0223d8d826539a1f7b", checked := Tryd.checked }
namespace Rows
def none {H : Type} : Left H := { results := [], args := [] }

/- WHAT THE LISTED PACKAGE-LEVEL VARIABLES READ AS WHEN THE CALL BEGINS. Each datum BY PROGRAM (the guide's laid-datum.mjs) off the statement by which the dump's own 'gosem.cut.vars' lays the variable. In a bare row this is a premise. The card (YtfmfkbdmphfkfabDoorCards.lean) ties it to the program's text. -/
def laid_loop_example_g00901_impl_typeWords {H : Type} : DataW H := .agg [.lit (.string []), .lit (.string [117, 110, 105, 116]), .lit (.string [98, 111, 111, 108]), .lit (.string [117, 56]), .lit (.string [115, 56]), .lit (.string [117, 49, 54]), .lit (.string [115, 49, 54]), .lit (.string [117, 51, 50]), .lit (.string [115, 51, 50]), .lit (.string [115, 54, 52]), .lit (.string [99, 104, 97, 114]), .lit (.string [116, 101, 120, 116]), .lit (.string [108, 105, 115, 116]), .lit (.string [111, 112, 116, 105, 111, 110]), .lit (.string [114, 101, 115, 117, 108, 116]), .lit (.string [116, 117, 112, 108, 101]), .lit (.string [114, 101, 99, 111, 114, 100]), .lit (.string [118, 97, 114, 105, 97, 110, 116]), .lit (.string [101, 110, 117, 109]), .lit (.string [102, 108, 97, 103, 115]), .lit (.string [111, 119, 110]), .lit (.string [98, 111, 114, 114, 111, 119]), .lit (.string [115, 116, 114, 101, 97, 109]), .lit (.string [102, 117, 116, 117, 114, 101])]
def laid_unicode_utf8_acceptRanges {H : Type} : DataW H := .agg [.agg [.lit (.int .u8 128), .lit (.int .u8 191)], .agg [.lit (.int .u8 160), .lit (.int .u8 191)], .agg [.lit (.int .u8 128), .lit (.int .u8 159)], .agg [.lit (.int .u8 144), .lit (.int .u8 191)], .agg [.lit (.int .u8 128), .lit (.int .u8 143)], .agg [.lit (.int .u8 0), .lit (.int .u8 0)], .agg [.lit (.int .u8 0), .lit (.int .u8 0)], .agg [.lit (.int .u8 0), .lit (.int .u8 0)], .agg [.lit (.int .u8 0), .lit (.int .u8 0)], .agg [.lit (.int .u8 0), .lit (.int .u8 0)], .agg [.lit (.int .u8 0), .lit (.int .u8 0)], .agg [.lit (.int .u8 0), .lit (.int .u8 0)], .agg [.lit (.int .u8 0), .lit (.int .u8 0)], .agg [.lit (.int .u8 0), .lit (.int .u8 0)], .agg [.lit (.int .u8 0), .lit (.int .u8 0)], .agg [.lit (.int .u8 0), .lit (.int .u8 0)]]
def laid_loop_example_g00901_impl_errNoSource {H : Type} : DataW H := .iface "*errors.errorString" (.ptr (.agg [.lit (.string [110, 111, 32, 115, 117, 99, 104, 32, 115, 111, 117, 114, 99, 101])]))
/-- One of Go's own tables, pinned by name: the form's constant. -/
def laid_unicode_utf8_first : DataW Unit := Go.Pinned.utf8First

/-- 'laws.FnExactReserved': WHATEVER THE INPUT: true; the input reads as it did. -/
def fnExactReservedSpec : ChangeSpec := { name := "fnExactReserved", vars := ["loop.example/g00901/impl.typeWords"], fn := fun _ => fun
  | [d, g1] => { results := [.lit (.bool true)], args := [d], vars := [g1] }
  | _ => none }
def fnExactReservedRow : OpenClaim := { program := "ytfmfkbdmphfkfabdoor", sum := "1f5082c3af9bf8d5643ea800c97f83386fd7cb5a86224b0223d8d826539a1f7b", func := "loop.example/g00901/laws.FnExactReserved", spec := "fnExactReserved", named := ["loop.example/g00901/impl.typeWords"], apart := false, laid := [("loop.example/g00901/impl.typeWords", laid_loop_example_g00901_impl_typeWords)] }
def FnExactReservedSaid : Prop := fnExactReservedRow.holds Tryd.pinned (OpenSpec.ofChange fnExactReservedSpec)

/-- ITS FALSE NEIGHBOUR: 'it returns false'. Refute it at one input. -/
def fnExactReservedWrong : ChangeSpec := { name := "fnExactReserved", vars := ["loop.example/g00901/impl.typeWords"], fn := fun _ => fun
  | [d, g1] => { results := [.lit (.bool false)], args := [d], vars := [g1] }
  | _ => none }
def FnExactReservedWrongFalsely : Prop := fnExactReservedRow.holds Tryd.pinned (OpenSpec.ofChange fnExactReservedWrong)

/-- 'laws.FnExactReadPath': WHATEVER THE INPUT: true; the input reads as it did. -/
def fnExactReadPathSpec : ChangeSpec := { name := "fnExactReadPath", vars := ["loop.example/g00901/impl.errNoSource"], fn := fun _ => fun
  | [d, g1] => { results := [.lit (.bool true)], args := [d], vars := [g1] }
  | _ => none }
def fnExactReadPathRow : OpenClaim := { program := "ytfmfkbdmphfkfabdoor", sum := "1f5082c3af9bf8d5643ea800c97f83386fd7cb5a86224b0223d8d826539a1f7b", func := "loop.example/g00901/laws.FnExactReadPath", spec := "fnExactReadPath", inPlace := ["internal/bytealg.IndexByteString", "internal/bytealg.IndexString", "internal/bytealg.CountString"], unfollowed := true, recurses := true, named := ["internal/bytealg.MaxLen", "loop.example/g00901/impl.errNoSource", "unicode/utf8.first", "unicode/utf8.acceptRanges"], ifaces := true, apart := false, laid := [("unicode/utf8.acceptRanges", laid_unicode_utf8_acceptRanges), ("loop.example/g00901/impl.errNoSource", laid_loop_example_g00901_impl_errNoSource), ("unicode/utf8.first", laid_unicode_utf8_first)] }
def FnExactReadPathSaid : Prop := fnExactReadPathRow.holds Tryd.pinned (OpenSpec.ofChange fnExactReadPathSpec)

/-- ITS FALSE NEIGHBOUR: 'it returns false'. Refute it at one input. -/
def fnExactReadPathWrong : ChangeSpec := { name := "fnExactReadPath", vars := ["loop.example/g00901/impl.errNoSource"], fn := fun _ => fun
  | [d, g1] => { results := [.lit (.bool false)], args := [d], vars := [g1] }
  | _ => none }
def FnExactReadPathWrongFalsely : Prop := fnExactReadPathRow.holds Tryd.pinned (OpenSpec.ofChange fnExactReadPathWrong)

/-- 'laws.FnExactReadTerm': WHATEVER THE INPUT: true; the input reads as it did. -/
def fnExactReadTermSpec : ChangeSpec := { name := "fnExactReadTerm", vars := ["loop.example/g00901/impl.errNoSource", "loop.example/g00901/impl.typeWords"], fn := fun _ => fun
  | [d, g1, g2] => { results := [.lit (.bool true)], args := [d], vars := [g1, g2] }
  | _ => none }
def fnExactReadTermRow : OpenClaim := { program := "ytfmfkbdmphfkfabdoor", sum := "1f5082c3af9bf8d5643ea800c97f83386fd7cb5a86224b0223d8d826539a1f7b", func := "loop.example/g00901/laws.FnExactReadTerm", spec := "fnExactReadTerm", inPlace := ["internal/bytealg.IndexByteString", "internal/bytealg.IndexString"], unfollowed := true, recurses := true, named := ["internal/bytealg.MaxLen", "loop.example/g00901/impl.errNoSource", "unicode/utf8.first", "unicode/utf8.acceptRanges", "loop.example/g00901/impl.typeWords"], ifaces := true, apart := false, laid := [("unicode/utf8.acceptRanges", laid_unicode_utf8_acceptRanges), ("loop.example/g00901/impl.typeWords", laid_loop_example_g00901_impl_typeWords), ("loop.example/g00901/impl.errNoSource", laid_loop_example_g00901_impl_errNoSource), ("unicode/utf8.first", laid_unicode_utf8_first)] }
def FnExactReadTermSaid : Prop := fnExactReadTermRow.holds Tryd.pinned (OpenSpec.ofChange fnExactReadTermSpec)

/-- ITS FALSE NEIGHBOUR: 'it returns false'. Refute it at one input. -/
def fnExactReadTermWrong : ChangeSpec := { name := "fnExactReadTerm", vars := ["loop.example/g00901/impl.errNoSource", "loop.example/g00901/impl.typeWords"], fn := fun _ => fun
  | [d, g1, g2] => { results := [.lit (.bool false)], args := [d], vars := [g1, g2] }
  | _ => none }
def FnExactReadTermWrongFalsely : Prop := fnExactReadTermRow.holds Tryd.pinned (OpenSpec.ofChange fnExactReadTermWrong)

/- THE SECOND FORM. 'bulk': how many values and letters a reading holds, each counted each time it is reached (what is shared counts as often as it is met; a slice's spare places count too). A statement '..UptoSaid' is the law's where the arguments, and the package variables that the reading takes, are together of bulk at most 1048576: NARROWER than '..Said'. Prove '..Said' where nothing that the law and all that it calls make is longer than what came in: it says more and counts as full. Else prove '..UptoSaid'. A law counts once. -/
mutual
def uptoBulk {H : Type} : DataW H → Nat
  | .lit (.string bytes) => bytes.length + 1
  | .lit _ => 1
  | .nil => 1
  | .ptr d => uptoBulk d + 1
  | .slice elems spare => uptoBulkAll elems + uptoBulkAll spare + 1
  | .agg parts => uptoBulkAll parts + 1
  | .iface _ d => uptoBulk d + 1
  | .map entries => uptoBulkEntries entries + 1
  | .held _ => 1
def uptoBulkAll {H : Type} : List (DataW H) → Nat
  | [] => 0
  | d :: r => uptoBulk d + uptoBulkAll r
def uptoBulkEntries {H : Type} : List (Lit × DataW H) → Nat
  | [] => 0
  | x :: r => uptoBulkEntry x + uptoBulkEntries r
def uptoBulkEntry {H : Type} : Lit × DataW H → Nat
  | (.string bytes, d) => bytes.length + uptoBulk d + 1
  | (_, d) => uptoBulk d + 1
 end
def uptoSmall : (H : Type) → List (DataW H) → Bool := fun _ ds => decide (uptoBulkAll ds ≤ 1048576)
def OpenSpec.upto (s : _root_.Go.ChangeSpec) : _root_.Go.OpenSpec := { _root_.Go.OpenSpec.ofChange s with cond := some uptoSmall }

/-- 'laws.FnExactReserved', WHERE WHAT IT READS IS OF BULK AT MOST 1048576: true; the input reads as it did. -/
def fnExactReservedUptoRow : OpenClaim := { program := "ytfmfkbdmphfkfabdoor", sum := "1f5082c3af9bf8d5643ea800c97f83386fd7cb5a86224b0223d8d826539a1f7b", func := "loop.example/g00901/laws.FnExactReserved", spec := "fnExactReserved", named := ["loop.example/g00901/impl.typeWords"], apart := false, laid := [("loop.example/g00901/impl.typeWords", laid_loop_example_g00901_impl_typeWords)], narrowed := true }
def FnExactReservedUptoSaid : Prop := fnExactReservedUptoRow.holds Tryd.pinned (OpenSpec.upto fnExactReservedSpec)

/-- 'laws.FnExactReadPath', WHERE WHAT IT READS IS OF BULK AT MOST 1048576: true; the input reads as it did. -/
def fnExactReadPathUptoRow : OpenClaim := { program := "ytfmfkbdmphfkfabdoor", sum := "1f5082c3af9bf8d5643ea800c97f83386fd7cb5a86224b0223d8d826539a1f7b", func := "loop.example/g00901/laws.FnExactReadPath", spec := "fnExactReadPath", inPlace := ["internal/bytealg.IndexByteString", "internal/bytealg.IndexString", "internal/bytealg.CountString"], unfollowed := true, recurses := true, named := ["internal/bytealg.MaxLen", "loop.example/g00901/impl.errNoSource", "unicode/utf8.first", "unicode/utf8.acceptRanges"], ifaces := true, apart := false, laid := [("unicode/utf8.acceptRanges", laid_unicode_utf8_acceptRanges), ("loop.example/g00901/impl.errNoSource", laid_loop_example_g00901_impl_errNoSource), ("unicode/utf8.first", laid_unicode_utf8_first)], narrowed := true }
def FnExactReadPathUptoSaid : Prop := fnExactReadPathUptoRow.holds Tryd.pinned (OpenSpec.upto fnExactReadPathSpec)

/-- 'laws.FnExactReadTerm', WHERE WHAT IT READS IS OF BULK AT MOST 1048576: true; the input reads as it did. -/
def fnExactReadTermUptoRow : OpenClaim := { program := "ytfmfkbdmphfkfabdoor", sum := "1f5082c3af9bf8d5643ea800c97f83386fd7cb5a86224b0223d8d826539a1f7b", func := "loop.example/g00901/laws.FnExactReadTerm", spec := "fnExactReadTerm", inPlace := ["internal/bytealg.IndexByteString", "internal/bytealg.IndexString"], unfollowed := true, recurses := true, named := ["internal/bytealg.MaxLen", "loop.example/g00901/impl.errNoSource", "unicode/utf8.first", "unicode/utf8.acceptRanges", "loop.example/g00901/impl.typeWords"], ifaces := true, apart := false, laid := [("unicode/utf8.acceptRanges", laid_unicode_utf8_acceptRanges), ("loop.example/g00901/impl.typeWords", laid_loop_example_g00901_impl_typeWords), ("loop.example/g00901/impl.errNoSource", laid_loop_example_g00901_impl_errNoSource), ("unicode/utf8.first", laid_unicode_utf8_first)], narrowed := true }
def FnExactReadTermUptoSaid : Prop := fnExactReadTermUptoRow.holds Tryd.pinned (OpenSpec.upto fnExactReadTermSpec)

end Rows
end Go.Proofs.YtfmfkbdmphfkfabDoor
