/-
  The walk of the law FnExactNumSize: both answer alike.
-/
import Derived.Test.YtbdnlloadmleaaaNumSz
namespace Go.Proofs.Ytbdnlloadmleaaa
open Go.ChangeShapes Go.WideShapes Go.ChangeAt Go.RowKit Go.Deep

theorem fnExactNumSizeLaw (k : Int) (w : World) (hk : -9223372036854775808 ≤ k ∧ k ≤ 9223372036854775807) :
    Calls Try.prog 12 #[.int .i64 k] w fun e w' => e = .returned (.bool true) ∧ Below w.heap.size w w' := by
  have CS := Lib.hid (fun W => specNumSize_any k W)
  have CI := Lib.hid (fun W => implNumSize_any k hk W)
  clear hk
  go_enter Try.func12, Try.ntmps12
  go_wp2_with fail
  go_at_call 38
  refine (CS.out _).mono ?_
  rintro e w2 ⟨rfl, hb2⟩
  have HB2 := Lib.hid hb2
  clear hb2
  go_wp2_with fail
  go_at_call 39
  refine (CI.out _).mono ?_
  rintro e w3 ⟨rfl, hb3⟩
  have HB3 := Lib.hid (bnext HB2.out hb3)
  clear hb3
  go_wp2_with fail
  go_ret
  exact ⟨rfl, HB3.out⟩
end Go.Proofs.Ytbdnlloadmleaaa
