/-
  Plain facts on LEB128: the lists of bytes that encode a number, unsigned and signed. No program is named.
-/
import Derived.Laws.Bits128
import Derived.Laws.BytesArg
import Derived.Laws.BitsAllLaws
namespace Go.Proofs.YtbjcldekapipaaaGreatDoor
open Go

/-- The shortest unsigned encoding. -/
def lebU (n : Nat) : List Int :=
  if n < 128 then [(n : Int)] else ((n % 128 + 128 : Nat) : Int) :: lebU (n / 128)
termination_by n
decreasing_by omega

theorem lebU_small (n : Nat) (h : n < 128) : lebU n = [(n : Int)] := by rw [lebU, if_pos h]
theorem lebU_big (n : Nat) (h : 128 ≤ n) : lebU n = ((n % 128 + 128 : Nat) : Int) :: lebU (n / 128) := by rw [lebU, if_neg (by omega)]

theorem lebU_length (k : Nat) : ∀ n : Nat, n < 128 ^ (k + 1) → (lebU n).length ≤ k + 1 := by
  induction k with
  | zero => intro n h; rw [lebU_small n (by simpa using h)]; simp
  | succ k ih =>
    intro n h
    by_cases hn : n < 128
    · rw [lebU_small n hn]; simp
    · rw [lebU_big n (by omega)]
      have h2 : n / 128 < 128 ^ (k + 1) := by
        rw [Nat.div_lt_iff_lt_mul (by decide), ← Nat.pow_succ]; exact h
      have h3 := ih _ h2
      simp only [List.length_cons]; omega

theorem lebU_pos (n : Nat) : 0 < (lebU n).length := by
  by_cases hn : n < 128
  · rw [lebU_small n hn]; simp
  · rw [lebU_big n (by omega)]; simp

/-- The shortest signed encoding. -/
def lebS (n : Int) : List Int :=
  if -64 ≤ n ∧ n < 64 then [n % 128] else (n % 128 + 128) :: lebS (n / 128)
termination_by n.natAbs
decreasing_by omega

theorem lebS_small (n : Int) (h1 : -64 ≤ n) (h2 : n < 64) : lebS n = [n % 128] := by rw [lebS, if_pos ⟨h1, h2⟩]
theorem lebS_big (n : Int) (h : n < -64 ∨ 64 ≤ n) : lebS n = (n % 128 + 128) :: lebS (n / 128) := by rw [lebS, if_neg (by omega)]

theorem lebS_length (k : Nat) : ∀ n : Int, -(64 * 128 ^ k : Int) ≤ n → n < (64 * 128 ^ k : Int) → (lebS n).length ≤ k + 1 := by
  induction k with
  | zero => intro n h1 h2; rw [lebS_small n (by simpa using h1) (by simpa using h2)]; simp
  | succ k ih =>
    intro n h1 h2
    by_cases hn : -64 ≤ n ∧ n < 64
    · rw [lebS_small n hn.1 hn.2]; simp
    · rw [lebS_big n (by omega)]
      have e : (128 : Int) ^ (k + 1) = 128 ^ k * 128 := Int.pow_succ ..
      rw [e] at h1 h2
      have h3 := ih (n / 128) (by omega) (by omega)
      simp only [List.length_cons]; omega

theorem lebS_pos (n : Int) : 0 < (lebS n).length := by
  by_cases hn : -64 ≤ n ∧ n < 64
  · rw [lebS_small n hn.1 hn.2]; simp
  · rw [lebS_big n (by omega)]; simp

/-! ### The bytes that Go's own operations make -/
theorem u8_of_and127 (n : Int) : IntKind.u8.wrap (n % 128 + 128) = n % 128 + 128 := by rw [IntKind.wrap_u8]; omega

theorem bits_or_comm (k : IntKind) (x y : Int) : bits .or k x y = bits .or k y x := by simp only [bits, BitVec.or_comm]
theorem u8_or128_all (n : Int) (h0 : 0 ≤ n) (h1 : n < 256) : bits .or .u8 n 128 = n % 128 + 128 := by
  rw [u8_or _ _ h0 (by omega) (by decide) (by decide)]
  obtain ⟨a, rfl⟩ := Int.eq_ofNat_of_zero_le h0
  have e : (a : Int).toNat = a := rfl
  have e2 : (128 : Int).toNat = 128 := rfl
  rw [e, e2]
  have ha : a < 256 := by omega
  have : ∀ a : Fin 256, a.val ||| 128 = a.val % 128 + 128 := by decide +kernel
  have h := this ⟨a, ha⟩
  simp only at h
  rw [h]; omega
theorem u8_and127 (n : Int) (h0 : 0 ≤ n) (h1 : n < 256) : bits .and .u8 n 127 = n % 128 := bits_mask .u8 8 (by decide) wraps_u8 7 (by decide) n h0 h1

end Go.Proofs.YtbjcldekapipaaaGreatDoor
