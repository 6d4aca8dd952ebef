/-
  Walks of measuring, copying and comparing Block by value and in slices.
-/
import Derived.Test.YtndeklmkhfopgaaStBk
import Derived.Test.YtndeklmkhfopgaaRowGen
import Derived.Test.YtndeklmkhfopgaaStEx
namespace Go.Proofs.Ytndeklmkhfopgaa
open Go.ChangeShapes Go.WideShapes Go.ChangeAt Go.RowKit Go.Deep

theorem Bk.parts_le {x : Bk} (_h : x.wt ≤ 1048576) : True := by
  trivial

/-- What copying leaves: the same in new memory. -/
def ToBlockPost (x : Bk) (w : World) (e : Ending) (w' : World) : Prop := e = .returned (.agg #[.int .i64 x.pos, .int .i64 x.size]) ∧ True ∧ Below w.heap.size w w'
set_option maxRecDepth 100000 in
theorem toBlock_any (x : Bk) (_hT : x.wt ≤ 1048576) (_lo : Nat) (w : World)  :
    Calls Try.prog 108 #[.agg #[.int .i64 x.pos, .int .i64 x.size]] w (ToBlockPost x w) := by
  clear _hT
  go_enter Try.func108, Try.ntmps108
  go_wp2
  exact bodyPost_ret (v := .agg #[.int .i64 x.pos, .int .i64 x.size]) (by simp [results, Try.results108, go_sem]) rfl ⟨rfl, trivial, below3 _ _ _ _⟩

theorem eqBlock_any (x : Bk) (_hT : x.wt ≤ 1048576) (_lo _lo' : Nat) (w : World)  :
    Calls Try.prog 109 #[.agg #[.int .i64 x.pos, .int .i64 x.size], .agg #[.int .i64 x.pos, .int .i64 x.size]] w fun e w' => e = .returned (.bool true) ∧ Below w.heap.size w w' := by
  clear _hT
  go_enter Try.func109, Try.ntmps109
  go_wp2_with fail
  go_ret
  exact ⟨rfl, below2 _ _ _⟩
end Go.Proofs.Ytndeklmkhfopgaa
