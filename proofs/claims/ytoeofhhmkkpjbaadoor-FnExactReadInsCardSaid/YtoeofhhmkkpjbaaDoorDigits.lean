/-
  A number's decimal digits: how many they are.
-/
import Derived.Test.YtoeofhhmkkpjbaaDoorBase
import Derived.Lib.ItoaNum
namespace Go.Proofs.YtoeofhhmkkpjbaaDoor

/-- A number's digits. -/
def decB (n : Int) : ByteArray := ⟨(Lib.decDigits n.toNat).toArray⟩

theorem decLen1 (u : Nat) (h : u < 10) : (Lib.decDigits u).length = 1 := by
  rw [Lib.decDigits, dif_pos h]
  rfl
theorem decLen2 (u : Nat) (h : u < 100) : (Lib.decDigits u).length ≤ 2 := by
  by_cases h1 : u < 10
  · have := decLen1 u h1
    omega
  · rw [Lib.decDigits, dif_neg h1]
    have := decLen1 (u / 10) (by omega)
    simp
    omega
theorem decLen3 (u : Nat) (h : u < 1000) : (Lib.decDigits u).length ≤ 3 := by
  by_cases h1 : u < 10
  · have := decLen1 u h1
    omega
  · rw [Lib.decDigits, dif_neg h1]
    have := decLen2 (u / 10) (by omega)
    simp
    omega
theorem decB_size (n : Int) (h0 : 0 ≤ n) (h1 : n < 1000) : (decB n).size ≤ 3 := by
  have := decLen3 n.toNat (by omega)
  simpa [decB, ByteArray.size] using this
theorem decB_size2 (n : Int) (h0 : 0 ≤ n) (h1 : n < 100) : (decB n).size ≤ 2 := by
  have := decLen2 n.toNat (by omega)
  simpa [decB, ByteArray.size] using this
end Go.Proofs.YtoeofhhmkkpjbaaDoor
