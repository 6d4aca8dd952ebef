/-
  The walk of the law FnExactToSmall: both answer alike.
-/
import Derived.Test.YtmnkkpahbmcekaaSmall
namespace Go.Proofs.Ytmnkkpahbmcekaa
open Go.ChangeShapes Go.WideShapes Go.ChangeAt Go.RowKit

theorem fnExactToSmallLaw (n : Int) (w : World) (_ : -9223372036854775808 ≤ n ∧ n ≤ 9223372036854775807) :
    Calls Try.prog 8 #[.int .i64 n] w fun e w' => e = .returned (.bool true) ∧ Below w.heap.size w w' := by
  have c1 := specSmall_any n
  have c2 := implSmall_any n
  obtain ⟨r, hr⟩ : ∃ r, n % 4294967296 = r := ⟨_, rfl⟩
  rw [hr] at c1 c2
  have CS := Lib.hid c1
  have CI := Lib.hid c2
  clear c1 c2 hr
  go_enter Try.func8, Try.ntmps8
  go_wp2_with (first
    | (go_at_call 23; refine (CS.out _).mono ?_; rintro e wx ⟨rfl, rfl⟩)
    | (go_at_call 24; refine (CI.out _).mono ?_; rintro e wy ⟨rfl, rfl⟩))
  go_ret
  exact ⟨rfl, Below.refl _ _⟩
end Go.Proofs.Ytmnkkpahbmcekaa
