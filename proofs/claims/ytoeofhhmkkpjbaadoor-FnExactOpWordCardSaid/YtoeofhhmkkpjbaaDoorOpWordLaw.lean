/-
  The walk of the law FnExactOpWord.
-/
import Derived.Test.YtoeofhhmkkpjbaaDoorIns
namespace Go.Proofs.YtoeofhhmkkpjbaaDoor
open Go.ChangeShapes Go.WideShapes Go.ChangeAt Go.RowKit

theorem fnExactOpWordLaw (op : Int) (w : World) (ht : OpTab w) :
    Calls Tryd.prog 4 #[.int .i64 op] w fun e w' => e = .returned (.bool true) ∧ Below w.heap.size w w' := by
  have CS := Lib.hid (fun W => specOpWord_any op W)
  have CI := Lib.hid (fun W hb => implOpWord_any op W (ht.keep hb))
  clear ht
  generalize opW op = T at *
  go_enter Tryd.func4, Tryd.ntmps4
  go_wp2_with (first
    | (go_at_call 14; refine (CS.out _).mono ?_; rintro e wx ⟨rfl, hb⟩; have HB := Lib.hid hb; clear hb)
    | (go_at_call 15; refine (CI.out _ HB.out).mono ?_; rintro e wy ⟨rfl, rfl⟩))
  go_ret
  exact ⟨rfl, HB.out⟩
end Go.Proofs.YtoeofhhmkkpjbaaDoor
