/-
  Walks of measuring, copying and comparing Ins by value and in slices.
-/
import Derived.Test.YtbjcldekapipaaaDoorStIn
import Derived.Test.YtbjcldekapipaaaDoorRowGen
import Derived.Test.YtbjcldekapipaaaDoorStEx
namespace Go.Proofs.YtbjcldekapipaaaDoor
open Go.ChangeShapes Go.WideShapes Go.ChangeAt Go.RowKit Go.Deep

theorem In.parts_le {x : In} (_h : x.wt ≤ 1048576) : True := by
  trivial

/-- What copying leaves: the same in new memory. -/
def ToInsPost (x : In) (w : World) (e : Ending) (w' : World) : Prop := e = .returned (.agg #[.int .i64 x.op, .int .i64 x.a]) ∧ True ∧ Below w.heap.size w w'
set_option maxRecDepth 100000 in
theorem toIns_any (x : In) (_hT : x.wt ≤ 1048576) (_lo : Nat) (w : World)  :
    Calls Tryd.prog 12 #[.agg #[.int .i64 x.op, .int .i64 x.a]] w (ToInsPost x w) := by
  clear _hT
  go_enter Tryd.func12, Tryd.ntmps12
  go_wp2
  exact bodyPost_ret (v := .agg #[.int .i64 x.op, .int .i64 x.a]) (by simp [results, Tryd.results12, go_sem]) rfl ⟨rfl, trivial, below3 _ _ _ _⟩

theorem eqIns_any (x : In) (_hT : x.wt ≤ 1048576) (_lo _lo' : Nat) (w : World)  :
    Calls Tryd.prog 16 #[.agg #[.int .i64 x.op, .int .i64 x.a], .agg #[.int .i64 x.op, .int .i64 x.a]] w fun e w' => e = .returned (.bool true) ∧ Below w.heap.size w w' := by
  clear _hT
  go_enter Tryd.func16, Tryd.ntmps16
  go_wp2_with fail
  go_ret
  exact ⟨rfl, below2 _ _ _⟩
end Go.Proofs.YtbjcldekapipaaaDoor
