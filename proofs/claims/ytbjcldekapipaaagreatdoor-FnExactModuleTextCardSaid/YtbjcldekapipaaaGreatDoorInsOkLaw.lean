/-
  The walk of the law FnExactInsOk.
-/
import Derived.Test.YtbjcldekapipaaaGreatDoorIns
namespace Go.Proofs.YtbjcldekapipaaaGreatDoor
open Go.ChangeShapes Go.WideShapes Go.ChangeAt Go.RowKit

theorem toInsL_any (op a : Int) (w : World) :
    Calls Tryz.prog 131 #[.agg #[.int .i64 op, .int .i64 a]] w fun e w' => e = .returned (.agg #[.int .i64 op, .int .i64 a]) ∧ Below w.heap.size w w' := by
  go_enter Tryz.func131, Tryz.ntmps131
  go_wp2
  exact bodyPost_ret (v := .agg #[.int .i64 op, .int .i64 a]) (by simp [results, Tryz.results131, go_sem]) rfl ⟨rfl, below3 _ _ _ _⟩
theorem specInsOk_any (op a : Int) (w : World) :
    Calls Tryz.prog 98 #[.agg #[.int .i64 op, .int .i64 a]] w fun e w' => e = .returned (.bool (insV op a)) ∧ Below w.heap.size w w' := by
  have C := Lib.hid (fun W => l15Ins_any op a W)
  generalize insV op a = v at *
  go_enter Tryz.func98, Tryz.ntmps98
  go_wp2_with (go_at_call 110; refine (C.out _).mono ?_; rintro e wx ⟨rfl, hb⟩)
  go_ret
  exact ⟨rfl, bchain (below1 _ _) hb (by simp)⟩

end Go.Proofs.YtbjcldekapipaaaGreatDoor
