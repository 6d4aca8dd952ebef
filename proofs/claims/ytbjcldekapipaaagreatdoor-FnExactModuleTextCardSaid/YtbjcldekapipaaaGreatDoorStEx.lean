/-
  The contracts of measuring, copying and comparing, in the words of the structs' walks.
-/
import Derived.Test.YtbjcldekapipaaaGreatDoorMTw
namespace Go.Proofs.YtbjcldekapipaaaGreatDoor
open Go.ChangeShapes Go.WideShapes Go.ChangeAt Go.RowKit Go.Deep

end Go.Proofs.YtbjcldekapipaaaGreatDoor
