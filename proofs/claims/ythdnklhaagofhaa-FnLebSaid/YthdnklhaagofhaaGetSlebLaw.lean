/-
  The law on GetSleb: both answer alike at every string of at most 2^20 bytes.
-/
import Derived.Test.YthdnklhaagofhaaImplGetSleb
namespace Go.Proofs.Ythdnklhaagofhaa
open Go.ChangeShapes Go.WideShapes Go.ChangeAt Go.RowKit

theorem wrap64_mod64 (n : Nat) : wrap64 ((n % 18446744073709551616 : Nat) : Int) = wrap64 (n : Int) := by unfold wrap64; omega
theorem u64_ones (i : Nat) (r : Nat) (_hr : r < 18446744073709551616) (hi : i ≤ 64) (ha : r < 2 ^ i) :
    wrap64 (bits .or .u64 (r : Int) (IntKind.u64.wrap (18446744073709551615 * 2 ^ i))) = wrap64 ((r : Int) - 2 ^ i) := by
  have h64 : (2 : Nat) ^ 64 = 18446744073709551616 := by decide
  have hj := u64_or_join r 18446744073709551615 i ha hi
  have e : IntKind.u64.wrap (18446744073709551615 * 2 ^ i) = ((18446744073709551615 * 2 ^ i % 2 ^ 64 : Nat) : Int) := by
    rw [IntKind.wrap_u64, h64]; simp
  have hcast : ((2 ^ i : Nat) : Int) = (2 : Int) ^ i := by simp
  rw [e, hj, h64, ← hcast]
  generalize (2 : Nat) ^ i = p at *
  unfold wrap64
  omega

end Go.Proofs.Ythdnklhaagofhaa
