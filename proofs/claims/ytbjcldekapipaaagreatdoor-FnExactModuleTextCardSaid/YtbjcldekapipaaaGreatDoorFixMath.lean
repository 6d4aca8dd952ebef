/-
  Plain facts on little-endian integers and on joining bits; no program.
-/
import Derived.Test.YtbjcldekapipaaaGreatDoorBase
import Derived.Test.YtbjcldekapipaaaGreatDoorLeb
namespace Go.Proofs.YtbjcldekapipaaaGreatDoor
open Go Go.RowKit

theorem or_nat (a c i : Nat) (ha : a < 2 ^ i) (hi : i ≤ 64) : a ||| (c * 2 ^ i % 2 ^ 64) = (a + c * 2 ^ i) % 2 ^ 64 := by
  have hp : (2 : Nat) ^ 64 = 2 ^ (64 - i) * 2 ^ i := by rw [← Nat.pow_add]; congr 1; omega
  have h1 : c * 2 ^ i % 2 ^ 64 = (c % 2 ^ (64 - i)) * 2 ^ i := by rw [hp, Nat.mul_mod_mul_right]
  have h2 : a ||| ((c % 2 ^ (64 - i)) * 2 ^ i) = (c % 2 ^ (64 - i)) * 2 ^ i + a := by
    rw [Nat.or_comm]; exact nat_join i _ _ (Nat.mul_mod_left _ _) ha
  have h3 : c % 2 ^ (64 - i) + 1 ≤ 2 ^ (64 - i) := Nat.mod_lt _ (Nat.pow_pos (by decide))
  have h4 : (c % 2 ^ (64 - i) + 1) * 2 ^ i ≤ 2 ^ 64 := by rw [hp]; exact Nat.mul_le_mul_right _ h3
  rw [Nat.add_mul, Nat.one_mul] at h4
  rw [h1, h2, Nat.add_mod, h1, Nat.add_comm]
  have h5 : a % 2 ^ 64 = a := Nat.mod_eq_of_lt (Nat.lt_of_lt_of_le ha (Nat.pow_le_pow_right (by decide) hi))
  rw [h5]
  exact (Nat.mod_eq_of_lt (by omega)).symm

theorem wrap64_mod (z : Int) : wrap64 z % 18446744073709551616 = z % 18446744073709551616 := by unfold wrap64; omega
theorem ofInt_wrap64 (z : Nat) : (BitVec.ofInt 64 (wrap64 (z : Int))).toNat = z % 2 ^ 64 := by
  rw [BitVec.toNat_ofInt]
  have h : ((2 ^ 64 : Nat) : Int) = 18446744073709551616 := by decide
  rw [h, wrap64_mod]
  have h2 : (2 : Nat) ^ 64 = 18446744073709551616 := by decide
  omega
theorem i64_or_join (a c i : Nat) (ha : a < 2 ^ i) (hi : i ≤ 64) : bits .or .i64 (wrap64 (a : Int)) (wrap64 ((c * 2 ^ i : Nat) : Int)) = wrap64 ((a + c * 2 ^ i : Nat) : Int) := by
  show IntKind.i64.wrap (((BitVec.ofInt 64 (wrap64 (a : Int)) ||| BitVec.ofInt 64 (wrap64 ((c * 2 ^ i : Nat) : Int))).toNat : Nat) : Int) = _
  rw [BitVec.toNat_or, ofInt_wrap64, ofInt_wrap64, Nat.mod_eq_of_lt (Nat.lt_of_lt_of_le ha (Nat.pow_le_pow_right (by decide) hi)), or_nat a c i ha hi, IntKind.wrap_i64]
  have h2 : (2 : Nat) ^ 64 = 18446744073709551616 := by decide
  rw [h2]
  unfold wrap64
  omega
theorem u64_or_join (a c i : Nat) (ha : a < 2 ^ i) (hi : i ≤ 64) : bits .or .u64 (a : Int) ((c * 2 ^ i % 2 ^ 64 : Nat) : Int) = (((a + c * 2 ^ i) % 2 ^ 64 : Nat) : Int) := by
  have h2 : (2 : Nat) ^ 64 = 18446744073709551616 := by decide
  have h5 : a < 18446744073709551616 := by rw [← h2]; exact Nat.lt_of_lt_of_le ha (Nat.pow_le_pow_right (by decide) hi)
  rw [u64_or_nat a _ h5 (by rw [h2]; exact Nat.mod_lt _ (by decide)), or_nat a c i ha hi]

theorem i64_and255 (n : Int) : bits .and .i64 n 255 = n % 256 := by
  have h127 : (BitVec.ofInt 64 255).toNat = 2 ^ 8 - 1 := by decide
  have key : (BitVec.ofInt 64 n &&& BitVec.ofInt 64 255).toNat = (n % ((2 ^ 64 : Nat) : Int)).toNat % 2 ^ 8 := by
    rw [BitVec.toNat_and, BitVec.toNat_ofInt, h127, Nat.and_two_pow_sub_one_eq_mod]
  show IntKind.i64.wrap ((BitVec.ofInt 64 n &&& BitVec.ofInt 64 255).toNat : Nat) = n % 256
  rw [key, IntKind.wrap_i64]
  omega

/-- The low k bytes of a number. -/
def fixl (n : Int) : Nat → List Int
  | 0 => []
  | k + 1 => fixl n k ++ [n / 256 ^ k % 256]
theorem fixl_length (n : Int) : ∀ k, (fixl n k).length = k
  | 0 => rfl
  | k + 1 => by simp [fixl, fixl_length n k]
theorem fixl_at (n : Int) : ∀ k j, j < k → (fixl n k).getD j 0 = n / 256 ^ j % 256
  | 0, _, h => by omega
  | k + 1, j, h => by
    unfold fixl
    by_cases e : j = k
    · subst e
      simp only [List.getD_eq_getElem?_getD]
      rw [List.getElem?_append_right (by rw [fixl_length]; omega), fixl_length]; simp
    · have := fixl_at n k j (by omega)
      simp only [List.getD_eq_getElem?_getD] at this ⊢
      rw [List.getElem?_append_left (by rw [fixl_length]; omega)]; exact this
/-- The number of some bytes, the least significant first. -/
def fixv : List Int → Nat
  | [] => 0
  | b :: l => b.toNat + 256 * fixv l
theorem fixv_snoc (l : List Int) (b : Int) : fixv (l ++ [b]) = fixv l + b.toNat * 2 ^ (8 * l.length) := by
  induction l with
  | nil => simp [fixv]
  | cons c l ih =>
    simp only [List.cons_append, fixv, ih, List.length_cons]
    rw [show 8 * (l.length + 1) = 8 * l.length + 8 by omega, Nat.pow_add]
    rw [Nat.mul_add, Nat.add_assoc]; congr 2
    rw [Nat.mul_comm 256, Nat.mul_assoc]
theorem fixv_lt (l : List Int) (h : ∀ x ∈ l, x.toNat < 256) : fixv l < 2 ^ (8 * l.length) := by
  induction l with
  | nil => simp [fixv]
  | cons c l ih =>
    have h1 := h c (by simp)
    have h2 := ih (fun x hx => h x (by simp [hx]))
    simp only [fixv, List.length_cons]
    rw [show 8 * (l.length + 1) = 8 * l.length + 8 by omega, Nat.pow_add]
    omega
end Go.Proofs.YtbjcldekapipaaaGreatDoor
