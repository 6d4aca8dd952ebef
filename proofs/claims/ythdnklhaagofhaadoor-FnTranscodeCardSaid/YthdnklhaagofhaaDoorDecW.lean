/-
  The walk of the model's l11Wide.
-/
import Derived.Test.YthdnklhaagofhaaDoorDecS
namespace Go.Proofs.YthdnklhaagofhaaDoor
open Go.ChangeShapes Go.WideShapes Go.ChangeAt Go.RowKit Go.Deep

end Go.Proofs.YthdnklhaagofhaaDoor
