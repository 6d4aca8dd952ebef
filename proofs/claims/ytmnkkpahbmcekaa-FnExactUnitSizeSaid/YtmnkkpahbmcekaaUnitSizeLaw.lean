/-
  The walk of the law FnExactUnitSize: both answer alike.
-/
import Derived.Test.YtmnkkpahbmcekaaUnitSize
namespace Go.Proofs.Ytmnkkpahbmcekaa
open Go.ChangeShapes Go.WideShapes Go.ChangeAt Go.RowKit

theorem fnExactUnitSizeLaw (n : Int) (w : World) (_ : -9223372036854775808 ≤ n ∧ n ≤ 9223372036854775807) :
    Calls Try.prog 4 #[.int .i64 n] w fun e w' => e = .returned (.bool true) ∧ Below w.heap.size w w' := by
  obtain ⟨u, c1, c2⟩ := unit_both n
  have CS := Lib.hid c1
  have CI := Lib.hid c2
  clear c1 c2
  go_enter Try.func4, Try.ntmps4
  go_wp2_with (first
    | (go_at_call 11; refine (CS.out _).mono ?_; rintro e wx ⟨rfl, ha⟩)
    | (go_at_call 12; refine (CI.out _).mono ?_; rintro e wy ⟨rfl, hb⟩))
  go_ret
  exact ⟨rfl, bchain ha hb ha.size⟩
end Go.Proofs.Ytmnkkpahbmcekaa
