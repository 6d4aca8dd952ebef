/-
  The program's rowLayout and caseLayout walk as lay says.
-/
import Derived.Test.YtlmmbheamicdaabLayS
namespace Go.Proofs.Ytlmmbheamicdaab
open Go.ChangeShapes Go.WideShapes Go.ChangeAt Go.RowKit Go.Deep

/-- What the cases give. -/
def CasePost (ks : List Ty) (w : World) (e : Ending) (w' : World) : Prop := e = .returned (.tuple #[.int .i64 (up 1 (Ty.layMost 0 1 ks).2), .int .i64 (up (up 1 (Ty.layMost 0 1 ks).2 + (Ty.layMost 0 1 ks).1) (Ty.layMost 0 1 ks).2), .int .i64 (Ty.layMost 0 1 ks).2]) ∧ Below w.heap.size w w'
end Go.Proofs.Ytlmmbheamicdaab
