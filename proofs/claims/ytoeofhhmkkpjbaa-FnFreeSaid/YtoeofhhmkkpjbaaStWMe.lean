/-
  Walks of measuring, copying and comparing Memory by value and in slices.
-/
import Derived.Test.YtoeofhhmkkpjbaaStMe
import Derived.Test.YtoeofhhmkkpjbaaRowGen
import Derived.Test.YtoeofhhmkkpjbaaStEx
import Derived.Test.YtoeofhhmkkpjbaaStWSBk
namespace Go.Proofs.Ytoeofhhmkkpjbaa
open Go.ChangeShapes Go.WideShapes Go.ChangeAt Go.RowKit Go.Deep

theorem Me.parts_le {x : Me} (h : x.wt ≤ 1048576) : (x.bytes.size : Int) ≤ 1048576 ∧ ((x.free.length : Int) + Bk.wts x.free) ≤ 1048576 ∧ True := by
  have := Bk.wts_nonneg x.free
  unfold Me.wt at h
  refine ⟨by omega, by omega, trivial⟩

/-- What copying leaves: the same in new memory. -/
def ToMemoryPost (x : Me) (w : World) (e : Ending) (w' : World) : Prop := ∃ (Rfree : Option Addr), ∃ (cfree : Nat), e = .returned (.agg #[.string x.bytes, .slice Rfree x.free.length cfree]) ∧ Me.At w' w.heap.size x Rfree ∧ Below w.heap.size w w'
end Go.Proofs.Ytoeofhhmkkpjbaa
