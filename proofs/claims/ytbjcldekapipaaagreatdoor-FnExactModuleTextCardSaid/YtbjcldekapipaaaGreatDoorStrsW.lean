/-
  Walks of measuring, copying and comparing lists of strings.
-/
import Derived.Test.YtbjcldekapipaaaGreatDoorStrsP
import Derived.Deep.LoopGhost
import Derived.Deep.OwnRows
import Derived.Laws.MakeOwn
namespace Go.Proofs.YtbjcldekapipaaaGreatDoor
open Go.ChangeShapes Go.WideShapes Go.ChangeAt Go.RowKit

theorem drewN0 (w : World) : w = w.drewN 0 := rfl

theorem infoString : (Tryz.prog.info? 9).map (fun i => (i.zero, i.size, i.bytes)) = some (some (.string ⟨#[]⟩), 1, 16) := by kernel_rfl

end Go.Proofs.YtbjcldekapipaaaGreatDoor
