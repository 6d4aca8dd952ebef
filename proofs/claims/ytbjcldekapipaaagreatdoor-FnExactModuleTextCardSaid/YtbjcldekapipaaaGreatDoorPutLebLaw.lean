/-
  The walks of the laws on PutLeb and PutSleb.
-/
import Derived.Test.YtbjcldekapipaaaGreatDoorPutLeb
import Derived.Test.YtbjcldekapipaaaGreatDoorSpecPutLeb
namespace Go.Proofs.YtbjcldekapipaaaGreatDoor
open Go.ChangeShapes Go.WideShapes Go.ChangeAt Go.RowKit

end Go.Proofs.YtbjcldekapipaaaGreatDoor
