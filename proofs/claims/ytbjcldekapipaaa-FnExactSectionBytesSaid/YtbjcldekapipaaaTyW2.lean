/-
  Walks of copying and comparing types' trees.
-/
import Derived.Test.YtbjcldekapipaaaTyW
namespace Go.Proofs.Ytbjcldekapipaaa
open Go.ChangeShapes Go.WideShapes Go.ChangeAt Go.RowKit Go.Deep

/-- A tree by value. -/
def Ty.v (T : Ty) (A B : Option Addr) (ca cb : Nat) : Value := .agg #[.int .i64 T.kind, .string T.name, .slice A T.labels.length ca, .slice B T.kids.length cb]

/-- What copying a tree leaves: the same tree in new memory. -/
def ToTyPost (T : Ty) (w : World) (e : Ending) (w' : World) : Prop := ∃ A B : Option Addr, e = .returned (.agg #[.int .i64 T.kind, .string T.name, .slice A T.labels.length T.labels.length, .slice B T.kids.length T.kids.length]) ∧ Ty.At w' w.heap.size T A B ∧ Below w.heap.size w w'
end Go.Proofs.Ytbjcldekapipaaa
