/-
  No cell of these rows narrows 'for every input' (looked for: loops, veiled, ifaces, maps, wideKeys, modest, calm, conditions, laid).
  DERIVED. THE GIVEN ROWS OF THIS SEAT. 9 by the template 'for every input the law returns true; each argument reads behind the call as it read before'; 0 by the template 'total and deterministic' (their statements: YtbockifbboogiaaTotals.lean).
  GIVEN WITH THE SEED: the statements are not yours to turn. If you find one false, say at which input.
  Laid BY PROGRAM, IN A SANDBOX (cutbox-rows.mjs): the forced cells as the released guide's own fill.sh prints them over the translation 006755c6b01194f8… (all of the seat's roots in one cut). By AI agents, Wed Nov 11 2026. No macro, syntax, notation, axiom, sorry.
-/
import Derived.Test.YtbockifbboogiaaChecked
import GoSem.Claim
import GoSem.ClaimJoined
import GoSem.ClaimMapViews
import Derived.JoinedTies
import Derived.KernelRfl
namespace Go.Proofs.Ytbockifbboogiaa
/- THE CELL 'sum', in the pinned program and in every row, IS THE sha256 OF THE DUMP (.gsa) THAT YtbockifbboogiaaProg.lean LOADS. Nothing in Lean hashes anything: it is a label: what it is worth is what the hold of that sum in a sandbox is worth. -/
noncomputable def Try.pinned : Pinned := { name := "ytbockifbboogiaa", sum := "006755c6b01194f89cb3e453c7c3819d23846d4aafcd167e9c4d7d4f00de3fdd", checked := Try.checked }
namespace Rows
def none {H : Type} : Left H := { results := [], args := [] }

/-- 'laws.FnLeb': WHATEVER THE INPUT: true; the input reads as it did. -/
def fnLebSpec : ChangeSpec := { name := "fnLeb", fn := fun _ => fun
  | [d1, d2] => { results := [.lit (.bool true)], args := [d1, d2] }
  | _ => none }
def fnLebRow : OpenClaim := { program := "ytbockifbboogiaa", sum := "006755c6b01194f89cb3e453c7c3819d23846d4aafcd167e9c4d7d4f00de3fdd", func := "loop.example/g00901/laws.FnLeb", spec := "fnLeb", inPlace := ["internal/bytealg.IndexByteString", "internal/bytealg.IndexString"], unfollowed := true, recurses := true, named := ["internal/bytealg.MaxLen"], apart := false }
def FnLebSaid : Prop := fnLebRow.holds Try.pinned (OpenSpec.ofChange fnLebSpec)

/-- ITS FALSE NEIGHBOUR: 'it returns false'. Refute it at one input. -/
def fnLebWrong : ChangeSpec := { name := "fnLeb", fn := fun _ => fun
  | [d1, d2] => { results := [.lit (.bool false)], args := [d1, d2] }
  | _ => none }
def FnLebWrongFalsely : Prop := fnLebRow.holds Try.pinned (OpenSpec.ofChange fnLebWrong)

/-- 'laws.FnExactPutLeb': WHATEVER THE INPUT: true; the input reads as it did. -/
def fnExactPutLebSpec : ChangeSpec := { name := "fnExactPutLeb", fn := fun _ => fun
  | [d] => { results := [.lit (.bool true)], args := [d] }
  | _ => none }
def fnExactPutLebRow : OpenClaim := { program := "ytbockifbboogiaa", sum := "006755c6b01194f89cb3e453c7c3819d23846d4aafcd167e9c4d7d4f00de3fdd", func := "loop.example/g00901/laws.FnExactPutLeb", spec := "fnExactPutLeb", unfollowed := true, recurses := true, apart := false }
def FnExactPutLebSaid : Prop := fnExactPutLebRow.holds Try.pinned (OpenSpec.ofChange fnExactPutLebSpec)

/-- ITS FALSE NEIGHBOUR: 'it returns false'. Refute it at one input. -/
def fnExactPutLebWrong : ChangeSpec := { name := "fnExactPutLeb", fn := fun _ => fun
  | [d] => { results := [.lit (.bool false)], args := [d] }
  | _ => none }
def FnExactPutLebWrongFalsely : Prop := fnExactPutLebRow.holds Try.pinned (OpenSpec.ofChange fnExactPutLebWrong)

/-- 'laws.FnExactGetLeb': WHATEVER THE INPUT: true; the input reads as it did. -/
def fnExactGetLebSpec : ChangeSpec := { name := "fnExactGetLeb", fn := fun _ => fun
  | [d] => { results := [.lit (.bool true)], args := [d] }
  | _ => none }
def fnExactGetLebRow : OpenClaim := { program := "ytbockifbboogiaa", sum := "006755c6b01194f89cb3e453c7c3819d23846d4aafcd167e9c4d7d4f00de3fdd", func := "loop.example/g00901/laws.FnExactGetLeb", spec := "fnExactGetLeb", unfollowed := true, recurses := true, apart := false }
def FnExactGetLebSaid : Prop := fnExactGetLebRow.holds Try.pinned (OpenSpec.ofChange fnExactGetLebSpec)

/-- ITS FALSE NEIGHBOUR: 'it returns false'. Refute it at one input. -/
def fnExactGetLebWrong : ChangeSpec := { name := "fnExactGetLeb", fn := fun _ => fun
  | [d] => { results := [.lit (.bool false)], args := [d] }
  | _ => none }
def FnExactGetLebWrongFalsely : Prop := fnExactGetLebRow.holds Try.pinned (OpenSpec.ofChange fnExactGetLebWrong)

/-- 'laws.FnExactPutSleb': WHATEVER THE INPUT: true; the input reads as it did. -/
def fnExactPutSlebSpec : ChangeSpec := { name := "fnExactPutSleb", fn := fun _ => fun
  | [d] => { results := [.lit (.bool true)], args := [d] }
  | _ => none }
def fnExactPutSlebRow : OpenClaim := { program := "ytbockifbboogiaa", sum := "006755c6b01194f89cb3e453c7c3819d23846d4aafcd167e9c4d7d4f00de3fdd", func := "loop.example/g00901/laws.FnExactPutSleb", spec := "fnExactPutSleb", unfollowed := true, recurses := true, apart := false }
def FnExactPutSlebSaid : Prop := fnExactPutSlebRow.holds Try.pinned (OpenSpec.ofChange fnExactPutSlebSpec)

/-- ITS FALSE NEIGHBOUR: 'it returns false'. Refute it at one input. -/
def fnExactPutSlebWrong : ChangeSpec := { name := "fnExactPutSleb", fn := fun _ => fun
  | [d] => { results := [.lit (.bool false)], args := [d] }
  | _ => none }
def FnExactPutSlebWrongFalsely : Prop := fnExactPutSlebRow.holds Try.pinned (OpenSpec.ofChange fnExactPutSlebWrong)

/-- 'laws.FnExactGetSleb': WHATEVER THE INPUT: true; the input reads as it did. -/
def fnExactGetSlebSpec : ChangeSpec := { name := "fnExactGetSleb", fn := fun _ => fun
  | [d] => { results := [.lit (.bool true)], args := [d] }
  | _ => none }
def fnExactGetSlebRow : OpenClaim := { program := "ytbockifbboogiaa", sum := "006755c6b01194f89cb3e453c7c3819d23846d4aafcd167e9c4d7d4f00de3fdd", func := "loop.example/g00901/laws.FnExactGetSleb", spec := "fnExactGetSleb", unfollowed := true, recurses := true, apart := false }
def FnExactGetSlebSaid : Prop := fnExactGetSlebRow.holds Try.pinned (OpenSpec.ofChange fnExactGetSlebSpec)

/-- ITS FALSE NEIGHBOUR: 'it returns false'. Refute it at one input. -/
def fnExactGetSlebWrong : ChangeSpec := { name := "fnExactGetSleb", fn := fun _ => fun
  | [d] => { results := [.lit (.bool false)], args := [d] }
  | _ => none }
def FnExactGetSlebWrongFalsely : Prop := fnExactGetSlebRow.holds Try.pinned (OpenSpec.ofChange fnExactGetSlebWrong)

/-- 'laws.FnExactPutFix': WHATEVER THE INPUT: true; the input reads as it did. -/
def fnExactPutFixSpec : ChangeSpec := { name := "fnExactPutFix", fn := fun _ => fun
  | [d1, d2] => { results := [.lit (.bool true)], args := [d1, d2] }
  | _ => none }
def fnExactPutFixRow : OpenClaim := { program := "ytbockifbboogiaa", sum := "006755c6b01194f89cb3e453c7c3819d23846d4aafcd167e9c4d7d4f00de3fdd", func := "loop.example/g00901/laws.FnExactPutFix", spec := "fnExactPutFix", apart := false }
def FnExactPutFixSaid : Prop := fnExactPutFixRow.holds Try.pinned (OpenSpec.ofChange fnExactPutFixSpec)

/-- ITS FALSE NEIGHBOUR: 'it returns false'. Refute it at one input. -/
def fnExactPutFixWrong : ChangeSpec := { name := "fnExactPutFix", fn := fun _ => fun
  | [d1, d2] => { results := [.lit (.bool false)], args := [d1, d2] }
  | _ => none }
def FnExactPutFixWrongFalsely : Prop := fnExactPutFixRow.holds Try.pinned (OpenSpec.ofChange fnExactPutFixWrong)

/-- 'laws.FnExactGetFix': WHATEVER THE INPUT: true; the input reads as it did. -/
def fnExactGetFixSpec : ChangeSpec := { name := "fnExactGetFix", fn := fun _ => fun
  | [d] => { results := [.lit (.bool true)], args := [d] }
  | _ => none }
def fnExactGetFixRow : OpenClaim := { program := "ytbockifbboogiaa", sum := "006755c6b01194f89cb3e453c7c3819d23846d4aafcd167e9c4d7d4f00de3fdd", func := "loop.example/g00901/laws.FnExactGetFix", spec := "fnExactGetFix", apart := false }
def FnExactGetFixSaid : Prop := fnExactGetFixRow.holds Try.pinned (OpenSpec.ofChange fnExactGetFixSpec)

/-- ITS FALSE NEIGHBOUR: 'it returns false'. Refute it at one input. -/
def fnExactGetFixWrong : ChangeSpec := { name := "fnExactGetFix", fn := fun _ => fun
  | [d] => { results := [.lit (.bool false)], args := [d] }
  | _ => none }
def FnExactGetFixWrongFalsely : Prop := fnExactGetFixRow.holds Try.pinned (OpenSpec.ofChange fnExactGetFixWrong)

/-- 'laws.FnExactPutBytes': WHATEVER THE INPUT: true; the input reads as it did. -/
def fnExactPutBytesSpec : ChangeSpec := { name := "fnExactPutBytes", fn := fun _ => fun
  | [d] => { results := [.lit (.bool true)], args := [d] }
  | _ => none }
def fnExactPutBytesRow : OpenClaim := { program := "ytbockifbboogiaa", sum := "006755c6b01194f89cb3e453c7c3819d23846d4aafcd167e9c4d7d4f00de3fdd", func := "loop.example/g00901/laws.FnExactPutBytes", spec := "fnExactPutBytes", unfollowed := true, recurses := true, apart := false }
def FnExactPutBytesSaid : Prop := fnExactPutBytesRow.holds Try.pinned (OpenSpec.ofChange fnExactPutBytesSpec)

/-- ITS FALSE NEIGHBOUR: 'it returns false'. Refute it at one input. -/
def fnExactPutBytesWrong : ChangeSpec := { name := "fnExactPutBytes", fn := fun _ => fun
  | [d] => { results := [.lit (.bool false)], args := [d] }
  | _ => none }
def FnExactPutBytesWrongFalsely : Prop := fnExactPutBytesRow.holds Try.pinned (OpenSpec.ofChange fnExactPutBytesWrong)

/-- 'laws.FnExactGetBytes': WHATEVER THE INPUT: true; the input reads as it did. -/
def fnExactGetBytesSpec : ChangeSpec := { name := "fnExactGetBytes", fn := fun _ => fun
  | [d] => { results := [.lit (.bool true)], args := [d] }
  | _ => none }
def fnExactGetBytesRow : OpenClaim := { program := "ytbockifbboogiaa", sum := "006755c6b01194f89cb3e453c7c3819d23846d4aafcd167e9c4d7d4f00de3fdd", func := "loop.example/g00901/laws.FnExactGetBytes", spec := "fnExactGetBytes", unfollowed := true, recurses := true, apart := false }
def FnExactGetBytesSaid : Prop := fnExactGetBytesRow.holds Try.pinned (OpenSpec.ofChange fnExactGetBytesSpec)

/-- ITS FALSE NEIGHBOUR: 'it returns false'. Refute it at one input. -/
def fnExactGetBytesWrong : ChangeSpec := { name := "fnExactGetBytes", fn := fun _ => fun
  | [d] => { results := [.lit (.bool false)], args := [d] }
  | _ => none }
def FnExactGetBytesWrongFalsely : Prop := fnExactGetBytesRow.holds Try.pinned (OpenSpec.ofChange fnExactGetBytesWrong)

/- THE SECOND FORM. 'bulk': how many values and letters a reading holds, each counted each time it is reached (what is shared counts as often as it is met; a slice's spare places count too). A statement '..UptoSaid' is the law's where the arguments, and the package variables that the reading takes, are together of bulk at most 1048576: NARROWER than '..Said'. Prove '..Said' where nothing that the law and all that it calls make is longer than what came in: it says more and counts as full. Else prove '..UptoSaid'. A law counts once. -/
mutual
def uptoBulk {H : Type} : DataW H → Nat
  | .lit (.string bytes) => bytes.length + 1
  | .lit _ => 1
  | .nil => 1
  | .ptr d => uptoBulk d + 1
  | .slice elems spare => uptoBulkAll elems + uptoBulkAll spare + 1
  | .agg parts => uptoBulkAll parts + 1
  | .iface _ d => uptoBulk d + 1
  | .map entries => uptoBulkEntries entries + 1
  | .held _ => 1
def uptoBulkAll {H : Type} : List (DataW H) → Nat
  | [] => 0
  | d :: r => uptoBulk d + uptoBulkAll r
def uptoBulkEntries {H : Type} : List (Lit × DataW H) → Nat
  | [] => 0
  | x :: r => uptoBulkEntry x + uptoBulkEntries r
def uptoBulkEntry {H : Type} : Lit × DataW H → Nat
  | (.string bytes, d) => bytes.length + uptoBulk d + 1
  | (_, d) => uptoBulk d + 1
 end
def uptoSmall : (H : Type) → List (DataW H) → Bool := fun _ ds => decide (uptoBulkAll ds ≤ 1048576)
def OpenSpec.upto (s : _root_.Go.ChangeSpec) : _root_.Go.OpenSpec := { _root_.Go.OpenSpec.ofChange s with cond := some uptoSmall }

/-- 'laws.FnLeb', WHERE WHAT IT READS IS OF BULK AT MOST 1048576: true; the input reads as it did. -/
def fnLebUptoRow : OpenClaim := { program := "ytbockifbboogiaa", sum := "006755c6b01194f89cb3e453c7c3819d23846d4aafcd167e9c4d7d4f00de3fdd", func := "loop.example/g00901/laws.FnLeb", spec := "fnLeb", inPlace := ["internal/bytealg.IndexByteString", "internal/bytealg.IndexString"], unfollowed := true, recurses := true, named := ["internal/bytealg.MaxLen"], apart := false, narrowed := true }
def FnLebUptoSaid : Prop := fnLebUptoRow.holds Try.pinned (OpenSpec.upto fnLebSpec)

/-- 'laws.FnExactPutLeb', WHERE WHAT IT READS IS OF BULK AT MOST 1048576: true; the input reads as it did. -/
def fnExactPutLebUptoRow : OpenClaim := { program := "ytbockifbboogiaa", sum := "006755c6b01194f89cb3e453c7c3819d23846d4aafcd167e9c4d7d4f00de3fdd", func := "loop.example/g00901/laws.FnExactPutLeb", spec := "fnExactPutLeb", unfollowed := true, recurses := true, apart := false, narrowed := true }
def FnExactPutLebUptoSaid : Prop := fnExactPutLebUptoRow.holds Try.pinned (OpenSpec.upto fnExactPutLebSpec)

/-- 'laws.FnExactGetLeb', WHERE WHAT IT READS IS OF BULK AT MOST 1048576: true; the input reads as it did. -/
def fnExactGetLebUptoRow : OpenClaim := { program := "ytbockifbboogiaa", sum := "006755c6b01194f89cb3e453c7c3819d23846d4aafcd167e9c4d7d4f00de3fdd", func := "loop.example/g00901/laws.FnExactGetLeb", spec := "fnExactGetLeb", unfollowed := true, recurses := true, apart := false, narrowed := true }
def FnExactGetLebUptoSaid : Prop := fnExactGetLebUptoRow.holds Try.pinned (OpenSpec.upto fnExactGetLebSpec)

/-- 'laws.FnExactPutSleb', WHERE WHAT IT READS IS OF BULK AT MOST 1048576: true; the input reads as it did. -/
def fnExactPutSlebUptoRow : OpenClaim := { program := "ytbockifbboogiaa", sum := "006755c6b01194f89cb3e453c7c3819d23846d4aafcd167e9c4d7d4f00de3fdd", func := "loop.example/g00901/laws.FnExactPutSleb", spec := "fnExactPutSleb", unfollowed := true, recurses := true, apart := false, narrowed := true }
def FnExactPutSlebUptoSaid : Prop := fnExactPutSlebUptoRow.holds Try.pinned (OpenSpec.upto fnExactPutSlebSpec)

/-- 'laws.FnExactGetSleb', WHERE WHAT IT READS IS OF BULK AT MOST 1048576: true; the input reads as it did. -/
def fnExactGetSlebUptoRow : OpenClaim := { program := "ytbockifbboogiaa", sum := "006755c6b01194f89cb3e453c7c3819d23846d4aafcd167e9c4d7d4f00de3fdd", func := "loop.example/g00901/laws.FnExactGetSleb", spec := "fnExactGetSleb", unfollowed := true, recurses := true, apart := false, narrowed := true }
def FnExactGetSlebUptoSaid : Prop := fnExactGetSlebUptoRow.holds Try.pinned (OpenSpec.upto fnExactGetSlebSpec)

/-- 'laws.FnExactPutFix', WHERE WHAT IT READS IS OF BULK AT MOST 1048576: true; the input reads as it did. -/
def fnExactPutFixUptoRow : OpenClaim := { program := "ytbockifbboogiaa", sum := "006755c6b01194f89cb3e453c7c3819d23846d4aafcd167e9c4d7d4f00de3fdd", func := "loop.example/g00901/laws.FnExactPutFix", spec := "fnExactPutFix", apart := false, narrowed := true }
def FnExactPutFixUptoSaid : Prop := fnExactPutFixUptoRow.holds Try.pinned (OpenSpec.upto fnExactPutFixSpec)

/-- 'laws.FnExactGetFix', WHERE WHAT IT READS IS OF BULK AT MOST 1048576: true; the input reads as it did. -/
def fnExactGetFixUptoRow : OpenClaim := { program := "ytbockifbboogiaa", sum := "006755c6b01194f89cb3e453c7c3819d23846d4aafcd167e9c4d7d4f00de3fdd", func := "loop.example/g00901/laws.FnExactGetFix", spec := "fnExactGetFix", apart := false, narrowed := true }
def FnExactGetFixUptoSaid : Prop := fnExactGetFixUptoRow.holds Try.pinned (OpenSpec.upto fnExactGetFixSpec)

/-- 'laws.FnExactPutBytes', WHERE WHAT IT READS IS OF BULK AT MOST 1048576: true; the input reads as it did. -/
def fnExactPutBytesUptoRow : OpenClaim := { program := "ytbockifbboogiaa", sum := "006755c6b01194f89cb3e453c7c3819d23846d4aafcd167e9c4d7d4f00de3fdd", func := "loop.example/g00901/laws.FnExactPutBytes", spec := "fnExactPutBytes", unfollowed := true, recurses := true, apart := false, narrowed := true }
def FnExactPutBytesUptoSaid : Prop := fnExactPutBytesUptoRow.holds Try.pinned (OpenSpec.upto fnExactPutBytesSpec)

/-- 'laws.FnExactGetBytes', WHERE WHAT IT READS IS OF BULK AT MOST 1048576: true; the input reads as it did. -/
def fnExactGetBytesUptoRow : OpenClaim := { program := "ytbockifbboogiaa", sum := "006755c6b01194f89cb3e453c7c3819d23846d4aafcd167e9c4d7d4f00de3fdd", func := "loop.example/g00901/laws.FnExactGetBytes", spec := "fnExactGetBytes", unfollowed := true, recurses := true, apart := false, narrowed := true }
def FnExactGetBytesUptoSaid : Prop := fnExactGetBytesUptoRow.holds Try.pinned (OpenSpec.upto fnExactGetBytesSpec)

end Rows
end Go.Proofs.Ytbockifbboogiaa
