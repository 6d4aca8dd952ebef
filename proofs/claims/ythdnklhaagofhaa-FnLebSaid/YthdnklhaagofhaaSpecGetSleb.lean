/-
  Walks of the model's GetSleb.
-/
import Derived.Test.YthdnklhaagofhaaSpecGetLeb
namespace Go.Proofs.Ythdnklhaagofhaa
open Go.ChangeShapes Go.WideShapes Go.ChangeAt Go.RowKit
set_option linter.unusedVariables false

theorem u8_and64 (b : Int) (h0 : 0 ≤ b) (h1 : b < 128) : bits .and .u8 b 64 = if 64 ≤ b then 64 else 0 := by
  obtain ⟨a, rfl⟩ := Int.eq_ofNat_of_zero_le h0
  rw [u8_and _ _ h0 (by omega) (by decide) (by decide)]
  have e : (a : Int).toNat = a := rfl
  have e2 : (64 : Int).toNat = 64 := rfl
  rw [e, e2]
  have : ∀ a : Fin 128, a.val &&& 64 = if 64 ≤ a.val then 64 else 0 := by decide +kernel
  have h := this ⟨a, by omega⟩
  simp only at h
  rw [h]
  split <;> rename_i h2
  · rw [if_pos (by omega)]; rfl
  · rw [if_neg (by omega)]; rfl
theorem i64_or_neg (a i : Nat) (ha : a < 2 ^ i) (hi : i ≤ 64) : bits .or .i64 (wrap64 (a : Int)) (wrap64 (-(2 ^ i : Int))) = wrap64 ((a : Int) - 2 ^ i) := by
  have hp : (2 : Nat) ^ 64 = 2 ^ (64 - i) * 2 ^ i := by rw [← Nat.pow_add]; congr 1; omega
  have h1 : 1 ≤ 2 ^ (64 - i) := Nat.pow_pos (by decide)
  have hc : (2 ^ (64 - i) - 1) * 2 ^ i + 2 ^ i = 2 ^ 64 := by
    rw [hp, ← Nat.succ_mul]; congr 1; omega
  have h64 : (2 : Nat) ^ 64 = 18446744073709551616 := by decide
  have hj := i64_or_join a (2 ^ (64 - i) - 1) i ha hi
  generalize (2 ^ (64 - i) - 1) * 2 ^ i = q at *
  have hcast : ((2 ^ i : Nat) : Int) = (2 : Int) ^ i := by simp
  have e1 : wrap64 (-(2 ^ i : Int)) = wrap64 ((q : Nat) : Int) := by
    rw [← hcast]; unfold wrap64; omega
  have e2 : wrap64 ((a : Int) - 2 ^ i) = wrap64 ((a + q : Nat) : Int) := by
    rw [← hcast]; unfold wrap64; omega
  rw [e1, e2, hj]
/-- The number of an encoding: the last group's bit 6 is its sign. -/
def sv (l : List Int) (b : Int) : Int := wrap64 ((gv l : Int) - if 64 ≤ b then 2 ^ (7 * l.length) else 0)
theorem wrap64_bd (z : Int) : -9223372036854775808 ≤ wrap64 z ∧ wrap64 z ≤ 9223372036854775807 := by unfold wrap64; omega

end Go.Proofs.Ythdnklhaagofhaa
