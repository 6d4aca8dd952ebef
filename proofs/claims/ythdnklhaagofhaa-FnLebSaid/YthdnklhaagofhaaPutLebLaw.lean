/-
  The walks of the laws on PutLeb and PutSleb.
-/
import Derived.Test.YthdnklhaagofhaaPutLeb
import Derived.Test.YthdnklhaagofhaaSpecPutLeb
namespace Go.Proofs.Ythdnklhaagofhaa
open Go.ChangeShapes Go.WideShapes Go.ChangeAt Go.RowKit

end Go.Proofs.Ythdnklhaagofhaa
