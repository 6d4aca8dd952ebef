/-
  What a byte is in this translation. No condition.
-/
import Derived.Test.YtbjcldekapipaaaBase
import Derived.Laws.MakeOwn
namespace Go.Proofs.Ytbjcldekapipaaa
open Go Go.RowKit

theorem Try.infoU8 : (Try.prog.info? 5).map (fun i => (i.zero, i.size, i.bytes)) = some (some (.int .u8 0), 1, 1) := by kernel_rfl
end Go.Proofs.Ytbjcldekapipaaa
