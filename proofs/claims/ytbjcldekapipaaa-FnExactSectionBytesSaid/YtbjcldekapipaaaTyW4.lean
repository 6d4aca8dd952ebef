/-
  Walks of comparing types' trees that are the same.
-/
import Derived.Test.YtbjcldekapipaaaTyW3
import Derived.Deep.RegionHeld3
namespace Go.Proofs.Ytbjcldekapipaaa
open Go.ChangeShapes Go.WideShapes Go.ChangeAt Go.RowKit Go.Deep

theorem belowN {W a : World} (h : Below W.heap.size W a) (n : Nat) : Below W.heap.size W (a.drewN n) := ⟨h.os, h.tape, h.output, h.size, h.block⟩

end Go.Proofs.Ytbjcldekapipaaa
