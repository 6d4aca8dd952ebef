/-
  The walk of the law FnExactFromSmall: both answer alike.
-/
import Derived.Test.YtmnkkpahbmcekabDoorFromSmall
namespace Go.Proofs.YtmnkkpahbmcekabDoor
open Go.ChangeShapes Go.WideShapes Go.ChangeAt Go.RowKit

theorem fnExactFromSmallLaw (k n : Int) (w : World) (_ : (Lit.int .i64 k).wf = true) (_ : (Lit.int .i64 n).wf = true) (hT : RTable w) :
    Calls Tryd.prog 3 #[.int .i64 k, .int .i64 n] w fun e w' => e = .returned (.bool true) ∧ Below w.heap.size w w' := by
  obtain ⟨r, v, c1, c2⟩ := fs_both k n
  have CS := Lib.hid c1
  have CI := Lib.hid c2
  have HT := Lib.hid hT
  clear c1 c2 hT
  go_enter Tryd.func3, Tryd.ntmps3
  go_wp2_with (first
    | (go_at_call 5; refine (CS.out _).mono ?_; rintro e wx ⟨rfl, ha⟩)
    | (go_at_call 6; refine (CI.out _ (HT.out.keep ha)).mono ?_; rintro e wy ⟨rfl, hb⟩))
  go_ret
  exact ⟨rfl, bchain ha hb ha.size⟩
end Go.Proofs.YtmnkkpahbmcekabDoor
