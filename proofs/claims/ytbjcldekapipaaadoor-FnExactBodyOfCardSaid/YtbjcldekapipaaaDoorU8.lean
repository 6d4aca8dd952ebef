/-
  What a byte is in this translation. No condition.
-/
import Derived.Test.YtbjcldekapipaaaDoorBase
import Derived.Laws.MakeOwn
namespace Go.Proofs.YtbjcldekapipaaaDoor
open Go Go.RowKit

theorem Tryd.infoU8 : (Tryd.prog.info? 5).map (fun i => (i.zero, i.size, i.bytes)) = some (some (.int .u8 0), 1, 1) := by kernel_rfl
end Go.Proofs.YtbjcldekapipaaaDoor
