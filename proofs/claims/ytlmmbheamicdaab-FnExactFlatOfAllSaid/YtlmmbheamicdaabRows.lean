/-
  NARROWER THAN 'FOR EVERY INPUT', by the rows' own cells (each row's printed sentence says how): FnExactCasesOf: loops · FnExactIsSpilled: loops · FnExactFlatOf: loops · FnExactFlatOfAll: loops.
  DERIVED. THE GIVEN ROWS OF THIS SEAT. 4 by the template 'for every input the law returns true; each argument reads behind the call as it read before'; 0 by the template 'total and deterministic' (their statements: YtlmmbheamicdaabTotals.lean).
  GIVEN WITH THE SEED: the statements are not yours to turn. If you find one false, say at which input.
  Laid BY PROGRAM, IN A SANDBOX (cutbox-rows.mjs): the forced cells as the released guide's own fill.sh prints them over the translation 1be2a7f25b5e1d93… (all of the seat's roots in one cut). By AI agents, Wed Nov 11 2026. No macro, syntax, notation, axiom, sorry.
-/
import Derived.Test.YtlmmbheamicdaabChecked
import GoSem.Claim
import GoSem.ClaimJoined
import GoSem.ClaimMapViews
import Derived.JoinedTies
import Derived.KernelRfl
namespace Go.Proofs.Ytlmmbheamicdaab
/- THE CELL 'sum', in the pinned program and in every row, IS THE sha256 OF THE DUMP (.gsa) THAT YtlmmbheamicdaabProg.lean LOADS. Nothing in Lean hashes anything: it is a label: what it is worth is what the hold of that sum in a sandbox is worth. -/
noncomputable def Try.pinned : Pinned := { name := "ytlmmbheamicdaab", sum := "1be2a7f25b5e1d932edfce17d6da7b923481da7df3bd4b701c82120f53804e70", checked := Try.checked }
namespace Rows
def none {H : Type} : Left H := { results := [], args := [] }

/-- 'laws.FnExactCasesOf': WHATEVER THE INPUT: true; the input reads as it did. -/
def fnExactCasesOfSpec : ChangeSpec := { name := "fnExactCasesOf", fn := fun _ => fun
  | [d] => { results := [.lit (.bool true)], args := [d] }
  | _ => none }
def fnExactCasesOfRow : OpenClaim := { program := "ytlmmbheamicdaab", sum := "1be2a7f25b5e1d932edfce17d6da7b923481da7df3bd4b701c82120f53804e70", func := "loop.example/g00901/laws.FnExactCasesOf", spec := "fnExactCasesOf", unfollowed := true, recurses := true, loops := true, apart := false }
def FnExactCasesOfSaid : Prop := fnExactCasesOfRow.holds Try.pinned (OpenSpec.ofChange fnExactCasesOfSpec)

/-- ITS FALSE NEIGHBOUR: 'it returns false'. Refute it at one input. -/
def fnExactCasesOfWrong : ChangeSpec := { name := "fnExactCasesOf", fn := fun _ => fun
  | [d] => { results := [.lit (.bool false)], args := [d] }
  | _ => none }
def FnExactCasesOfWrongFalsely : Prop := fnExactCasesOfRow.holds Try.pinned (OpenSpec.ofChange fnExactCasesOfWrong)

/-- 'laws.FnExactIsSpilled': WHATEVER THE INPUT: true; the input reads as it did. -/
def fnExactIsSpilledSpec : ChangeSpec := { name := "fnExactIsSpilled", fn := fun _ => fun
  | [d] => { results := [.lit (.bool true)], args := [d] }
  | _ => none }
def fnExactIsSpilledRow : OpenClaim := { program := "ytlmmbheamicdaab", sum := "1be2a7f25b5e1d932edfce17d6da7b923481da7df3bd4b701c82120f53804e70", func := "loop.example/g00901/laws.FnExactIsSpilled", spec := "fnExactIsSpilled", unfollowed := true, recurses := true, loops := true, apart := false }
def FnExactIsSpilledSaid : Prop := fnExactIsSpilledRow.holds Try.pinned (OpenSpec.ofChange fnExactIsSpilledSpec)

/-- ITS FALSE NEIGHBOUR: 'it returns false'. Refute it at one input. -/
def fnExactIsSpilledWrong : ChangeSpec := { name := "fnExactIsSpilled", fn := fun _ => fun
  | [d] => { results := [.lit (.bool false)], args := [d] }
  | _ => none }
def FnExactIsSpilledWrongFalsely : Prop := fnExactIsSpilledRow.holds Try.pinned (OpenSpec.ofChange fnExactIsSpilledWrong)

/-- 'laws.FnExactFlatOf': WHATEVER THE INPUT: true; the input reads as it did. -/
def fnExactFlatOfSpec : ChangeSpec := { name := "fnExactFlatOf", fn := fun _ => fun
  | [d] => { results := [.lit (.bool true)], args := [d] }
  | _ => none }
def fnExactFlatOfRow : OpenClaim := { program := "ytlmmbheamicdaab", sum := "1be2a7f25b5e1d932edfce17d6da7b923481da7df3bd4b701c82120f53804e70", func := "loop.example/g00901/laws.FnExactFlatOf", spec := "fnExactFlatOf", unfollowed := true, recurses := true, loops := true, apart := false }
def FnExactFlatOfSaid : Prop := fnExactFlatOfRow.holds Try.pinned (OpenSpec.ofChange fnExactFlatOfSpec)

/-- ITS FALSE NEIGHBOUR: 'it returns false'. Refute it at one input. -/
def fnExactFlatOfWrong : ChangeSpec := { name := "fnExactFlatOf", fn := fun _ => fun
  | [d] => { results := [.lit (.bool false)], args := [d] }
  | _ => none }
def FnExactFlatOfWrongFalsely : Prop := fnExactFlatOfRow.holds Try.pinned (OpenSpec.ofChange fnExactFlatOfWrong)

/-- 'laws.FnExactFlatOfAll': WHATEVER THE INPUT: true; the input reads as it did. -/
def fnExactFlatOfAllSpec : ChangeSpec := { name := "fnExactFlatOfAll", fn := fun _ => fun
  | [d] => { results := [.lit (.bool true)], args := [d] }
  | _ => none }
def fnExactFlatOfAllRow : OpenClaim := { program := "ytlmmbheamicdaab", sum := "1be2a7f25b5e1d932edfce17d6da7b923481da7df3bd4b701c82120f53804e70", func := "loop.example/g00901/laws.FnExactFlatOfAll", spec := "fnExactFlatOfAll", unfollowed := true, recurses := true, loops := true, apart := false }
def FnExactFlatOfAllSaid : Prop := fnExactFlatOfAllRow.holds Try.pinned (OpenSpec.ofChange fnExactFlatOfAllSpec)

/-- ITS FALSE NEIGHBOUR: 'it returns false'. Refute it at one input. -/
def fnExactFlatOfAllWrong : ChangeSpec := { name := "fnExactFlatOfAll", fn := fun _ => fun
  | [d] => { results := [.lit (.bool false)], args := [d] }
  | _ => none }
def FnExactFlatOfAllWrongFalsely : Prop := fnExactFlatOfAllRow.holds Try.pinned (OpenSpec.ofChange fnExactFlatOfAllWrong)

/- THE SECOND FORM. 'bulk': how many values and letters a reading holds, each counted each time it is reached (what is shared counts as often as it is met; a slice's spare places count too). A statement '..UptoSaid' is the law's where the arguments, and the package variables that the reading takes, are together of bulk at most 1048576: NARROWER than '..Said'. Prove '..Said' where nothing that the law and all that it calls make is longer than what came in: it says more and counts as full. Else prove '..UptoSaid'. A law counts once. -/
mutual
def uptoBulk {H : Type} : DataW H → Nat
  | .lit (.string bytes) => bytes.length + 1
  | .lit _ => 1
  | .nil => 1
  | .ptr d => uptoBulk d + 1
  | .slice elems spare => uptoBulkAll elems + uptoBulkAll spare + 1
  | .agg parts => uptoBulkAll parts + 1
  | .iface _ d => uptoBulk d + 1
  | .map entries => uptoBulkEntries entries + 1
  | .held _ => 1
def uptoBulkAll {H : Type} : List (DataW H) → Nat
  | [] => 0
  | d :: r => uptoBulk d + uptoBulkAll r
def uptoBulkEntries {H : Type} : List (Lit × DataW H) → Nat
  | [] => 0
  | x :: r => uptoBulkEntry x + uptoBulkEntries r
def uptoBulkEntry {H : Type} : Lit × DataW H → Nat
  | (.string bytes, d) => bytes.length + uptoBulk d + 1
  | (_, d) => uptoBulk d + 1
 end
def uptoSmall : (H : Type) → List (DataW H) → Bool := fun _ ds => decide (uptoBulkAll ds ≤ 1048576)
def OpenSpec.upto (s : _root_.Go.ChangeSpec) : _root_.Go.OpenSpec := { _root_.Go.OpenSpec.ofChange s with cond := some uptoSmall }

/-- 'laws.FnExactCasesOf', WHERE WHAT IT READS IS OF BULK AT MOST 1048576: true; the input reads as it did. -/
def fnExactCasesOfUptoRow : OpenClaim := { program := "ytlmmbheamicdaab", sum := "1be2a7f25b5e1d932edfce17d6da7b923481da7df3bd4b701c82120f53804e70", func := "loop.example/g00901/laws.FnExactCasesOf", spec := "fnExactCasesOf", unfollowed := true, recurses := true, loops := true, apart := false, narrowed := true }
def FnExactCasesOfUptoSaid : Prop := fnExactCasesOfUptoRow.holds Try.pinned (OpenSpec.upto fnExactCasesOfSpec)

/-- 'laws.FnExactIsSpilled', WHERE WHAT IT READS IS OF BULK AT MOST 1048576: true; the input reads as it did. -/
def fnExactIsSpilledUptoRow : OpenClaim := { program := "ytlmmbheamicdaab", sum := "1be2a7f25b5e1d932edfce17d6da7b923481da7df3bd4b701c82120f53804e70", func := "loop.example/g00901/laws.FnExactIsSpilled", spec := "fnExactIsSpilled", unfollowed := true, recurses := true, loops := true, apart := false, narrowed := true }
def FnExactIsSpilledUptoSaid : Prop := fnExactIsSpilledUptoRow.holds Try.pinned (OpenSpec.upto fnExactIsSpilledSpec)

/-- 'laws.FnExactFlatOf', WHERE WHAT IT READS IS OF BULK AT MOST 1048576: true; the input reads as it did. -/
def fnExactFlatOfUptoRow : OpenClaim := { program := "ytlmmbheamicdaab", sum := "1be2a7f25b5e1d932edfce17d6da7b923481da7df3bd4b701c82120f53804e70", func := "loop.example/g00901/laws.FnExactFlatOf", spec := "fnExactFlatOf", unfollowed := true, recurses := true, loops := true, apart := false, narrowed := true }
def FnExactFlatOfUptoSaid : Prop := fnExactFlatOfUptoRow.holds Try.pinned (OpenSpec.upto fnExactFlatOfSpec)

/-- 'laws.FnExactFlatOfAll', WHERE WHAT IT READS IS OF BULK AT MOST 1048576: true; the input reads as it did. -/
def fnExactFlatOfAllUptoRow : OpenClaim := { program := "ytlmmbheamicdaab", sum := "1be2a7f25b5e1d932edfce17d6da7b923481da7df3bd4b701c82120f53804e70", func := "loop.example/g00901/laws.FnExactFlatOfAll", spec := "fnExactFlatOfAll", unfollowed := true, recurses := true, loops := true, apart := false, narrowed := true }
def FnExactFlatOfAllUptoSaid : Prop := fnExactFlatOfAllUptoRow.holds Try.pinned (OpenSpec.upto fnExactFlatOfAllSpec)

end Rows
end Go.Proofs.Ytlmmbheamicdaab
