/-
  The contracts of measuring, copying and comparing, in the words of the structs' walks.
-/
import Derived.Test.YtbjcldekapipaaaTyW4
namespace Go.Proofs.Ytbjcldekapipaaa
open Go.ChangeShapes Go.WideShapes Go.ChangeAt Go.RowKit Go.Deep

end Go.Proofs.Ytbjcldekapipaaa
