/-
  What a byte is in this translation. No condition.
-/
import Derived.Test.YtbjcldekapipaaaGreatDoorBase
import Derived.Laws.MakeOwn
namespace Go.Proofs.YtbjcldekapipaaaGreatDoor
open Go Go.RowKit

theorem Tryz.infoU8 : (Tryz.prog.info? 5).map (fun i => (i.zero, i.size, i.bytes)) = some (some (.int .u8 0), 1, 1) := by kernel_rfl
end Go.Proofs.YtbjcldekapipaaaGreatDoor
