/-
  The walk of the law FnExactInsOk.
-/
import Derived.Test.YtbjcldekapipaaaDoorIns
namespace Go.Proofs.YtbjcldekapipaaaDoor
open Go.ChangeShapes Go.WideShapes Go.ChangeAt Go.RowKit

theorem toInsL_any (op a : Int) (w : World) :
    Calls Tryd.prog 12 #[.agg #[.int .i64 op, .int .i64 a]] w fun e w' => e = .returned (.agg #[.int .i64 op, .int .i64 a]) ∧ Below w.heap.size w w' := by
  go_enter Tryd.func12, Tryd.ntmps12
  go_wp2
  exact bodyPost_ret (v := .agg #[.int .i64 op, .int .i64 a]) (by simp [results, Tryd.results12, go_sem]) rfl ⟨rfl, below3 _ _ _ _⟩
theorem specInsOk_any (op a : Int) (w : World) :
    Calls Tryd.prog 36 #[.agg #[.int .i64 op, .int .i64 a]] w fun e w' => e = .returned (.bool (insV op a)) ∧ Below w.heap.size w w' := by
  have C := Lib.hid (fun W => l15Ins_any op a W)
  generalize insV op a = v at *
  go_enter Tryd.func36, Tryd.ntmps36
  go_wp2_with (go_at_call 58; refine (C.out _).mono ?_; rintro e wx ⟨rfl, hb⟩)
  go_ret
  exact ⟨rfl, bchain (below1 _ _) hb (by simp)⟩

end Go.Proofs.YtbjcldekapipaaaDoor
