/-
  The program's size and alignment of one type walk as lay says.
-/
import Derived.Test.YtlmmbheamicdaabLayC
namespace Go.Proofs.Ytlmmbheamicdaab
open Go.ChangeShapes Go.WideShapes Go.ChangeAt Go.RowKit Go.Deep

end Go.Proofs.Ytlmmbheamicdaab
