/-
  The walk of the law FnExactEncodingOk: both answer alike.
-/
import Derived.Test.YtmnkkpahbmcekaaEncOk
namespace Go.Proofs.Ytmnkkpahbmcekaa
open Go.ChangeShapes Go.WideShapes Go.ChangeAt Go.RowKit

theorem fnExactEncodingOkLaw (n : Int) (w : World) (_ : -9223372036854775808 ≤ n ∧ n ≤ 9223372036854775807) :
    Calls Try.prog 3 #[.int .i64 n] w fun e w' => e = .returned (.bool true) ∧ Below w.heap.size w w' := by
  obtain ⟨v, c1, c2⟩ : ∃ v : Bool, (∀ w : World, Calls Try.prog 9 #[.int .i64 n] w fun e w' => e = .returned (.bool v) ∧ w = w') ∧
      (∀ w : World, Calls Try.prog 10 #[.int .i64 n] w fun e w' => e = .returned (.bool v) ∧ w = w') := by
    by_cases h : n < 1 ∨ 3 < n
    · exact ⟨false, fun w => specEnc_no n h w, fun w => implEnc_no n h w⟩
    · exact ⟨true, fun w => specEnc_yes n (by omega) (by omega) w, fun w => implEnc_yes n (by omega) (by omega) w⟩
  have CS := Lib.hid c1
  have CI := Lib.hid c2
  clear c1 c2
  go_enter Try.func3, Try.ntmps3
  go_wp2_with (first
    | (go_at_call 9; refine (CS.out _).mono ?_; rintro e wx ⟨rfl, rfl⟩)
    | (go_at_call 10; refine (CI.out _).mono ?_; rintro e wy ⟨rfl, rfl⟩))
  go_ret
  exact ⟨rfl, Below.refl _ _⟩
end Go.Proofs.Ytmnkkpahbmcekaa
