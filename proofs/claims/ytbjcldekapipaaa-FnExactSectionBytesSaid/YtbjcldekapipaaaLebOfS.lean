/-
  The walk of lebOf[int64].
-/
import Derived.Test.YtbjcldekapipaaaLebOfU
import Derived.Deep.DeepCutAuto
namespace Go.Proofs.Ytbjcldekapipaaa
open Go.ChangeShapes Go.WideShapes Go.ChangeAt Go.RowKit

end Go.Proofs.Ytbjcldekapipaaa
