/-
  Walks of the model's l01Leb. The string is shorter than 2^32 bytes.
-/
import Derived.Test.YthdnklhaagofhaaGroups
namespace Go.Proofs.Ythdnklhaagofhaa
open Go.ChangeShapes Go.WideShapes Go.ChangeAt Go.RowKit

theorem wrap64_small (n : Nat) (h : n < 9223372036854775808) : wrap64 (n : Int) = (n : Int) := by unfold wrap64; omega
theorem gv9 (l : List Int) (h : l.length ≤ 9) : gv l < 9223372036854775808 := by
  have h1 := gv_lt l
  have h2 : (2 : Nat) ^ (7 * l.length) ≤ 2 ^ 63 := Nat.pow_le_pow_right (by decide) (by omega)
  have h3 : (2 : Nat) ^ 63 = 9223372036854775808 := by decide
  omega
theorem nums_getD (s : ByteArray) (j : Nat) (h : j < s.size) : (nums s).getD j 0 = (s[j].toNat : Int) := by
  rw [List.getD_eq_getElem?_getD, List.getElem?_eq_getElem (by rw [nums_length]; exact h)]
  simp [nums]
  rfl

end Go.Proofs.Ythdnklhaagofhaa
