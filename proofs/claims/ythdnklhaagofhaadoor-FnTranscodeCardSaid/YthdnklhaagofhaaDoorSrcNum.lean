/-
  The walk of the model's l01Num: some number of int64.
-/
import Derived.Test.YthdnklhaagofhaaDoorSrcLit
namespace Go.Proofs.YthdnklhaagofhaaDoor
open Go.ChangeShapes Go.WideShapes Go.ChangeAt Go.RowKit

theorem wrap64_in (x : Int) : -9223372036854775808 ≤ wrap64 x ∧ wrap64 x ≤ 9223372036854775807 := by unfold wrap64; omega
theorem mul_in {a b : Int} (h0 : 0 ≤ a) (h1 : a ≤ 70000) (k0 : 0 ≤ b) (k1 : b ≤ 70000) : 0 ≤ a * b ∧ a * b ≤ 4900000000 := by
  refine ⟨Int.mul_nonneg h0 k0, ?_⟩
  have := Int.mul_le_mul h1 k1 k0 (by omega)
  omega

end Go.Proofs.YthdnklhaagofhaaDoor
