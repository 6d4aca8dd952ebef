/-
  The walks of the laws on PutLeb and PutSleb.
-/
import Derived.Test.YtbjcldekapipaaaPutLeb
import Derived.Test.YtbjcldekapipaaaSpecPutLeb
namespace Go.Proofs.Ytbjcldekapipaaa
open Go.ChangeShapes Go.WideShapes Go.ChangeAt Go.RowKit

end Go.Proofs.Ytbjcldekapipaaa
