/-
  Plain facts: the number of some seven-bit groups; when a list of bytes is an encoding.
-/
import Derived.Test.YtbjcldekapipaaaDoorFixMath
import Derived.Test.YtbjcldekapipaaaDoorLebOf
namespace Go.Proofs.YtbjcldekapipaaaDoor
open Go Go.RowKit

/-- The number of some groups, the least significant first. -/
def gv : List Int → Nat
  | [] => 0
  | b :: l => (b % 128).toNat + 128 * gv l
theorem gv_snoc (l : List Int) (b : Int) : gv (l ++ [b]) = gv l + (b % 128).toNat * 2 ^ (7 * l.length) := by
  induction l with
  | nil => simp [gv]
  | cons c l ih =>
    simp only [List.cons_append, gv, ih, List.length_cons]
    rw [show 7 * (l.length + 1) = 7 * l.length + 7 by omega, Nat.pow_add]
    rw [Nat.mul_add, Nat.add_assoc]; congr 2
    rw [Nat.mul_comm 128, Nat.mul_assoc]
theorem gv_lt (l : List Int) : gv l < 2 ^ (7 * l.length) := by
  induction l with
  | nil => simp [gv]
  | cons c l ih =>
    simp only [gv, List.length_cons]
    rw [show 7 * (l.length + 1) = 7 * l.length + 7 by omega, Nat.pow_add]
    have h1 : (c % 128).toNat < 128 := by omega
    omega
theorem gv_lebU (n : Nat) : gv (lebU n) = n := by
  induction n using Nat.strongRecOn with
  | _ n ih =>
    by_cases h : n < 128
    · rw [lebU_small n h]; simp [gv]; omega
    · rw [lebU_big n (by omega)]
      simp only [gv]
      rw [ih (n / 128) (by omega)]
      omega

/-- The shape of an encoding: the last byte, and it alone, is below 128. -/
def Shape (l : List Int) : Prop := ∃ p b, l = p ++ [b] ∧ b < 128 ∧ ∀ x ∈ p, 128 ≤ x
theorem shape_lebU (n : Nat) : Shape (lebU n) := by
  induction n using Nat.strongRecOn with
  | _ n ih =>
    by_cases h : n < 128
    · exact ⟨[], n, by rw [lebU_small n h]; rfl, by omega, by simp⟩
    · obtain ⟨p, b, e, hb, hp⟩ := ih (n / 128) (by omega)
      refine ⟨((n % 128 + 128 : Nat) : Int) :: p, b, by rw [lebU_big n (by omega), e]; rfl, hb, ?_⟩
      intro x hx
      rcases List.mem_cons.1 hx with rfl | hx
      · omega
      · exact hp x hx
theorem shape_lebS (n : Int) : Shape (lebS n) := by
  induction hk : n.natAbs using Nat.strongRecOn generalizing n with
  | _ k ih =>
    by_cases h : -64 ≤ n ∧ n < 64
    · exact ⟨[], n % 128, by rw [lebS_small n h.1 h.2]; rfl, by omega, by simp⟩
    · obtain ⟨p, b, e, hb, hp⟩ := ih (n / 128).natAbs (by omega) (n / 128) rfl
      refine ⟨(n % 128 + 128) :: p, b, by rw [lebS_big n (by omega), e]; rfl, hb, ?_⟩
      intro x hx
      rcases List.mem_cons.1 hx with rfl | hx
      · omega
      · exact hp x hx
theorem pd_of_lt (l : List Int) (j : Nat) (h : j < l.length) : pd l j = l[j] := by simp [pd, h]
/-- Two encodings of ten bytes at most are one where their forms are. -/
theorem shape_eq {l m : List Int} (hl : Shape l) (hm : Shape m) (hl10 : l.length ≤ 10) (hm10 : m.length ≤ 10) (h : ∀ j, j < 10 → pd l j = pd m j) : l = m := by
  obtain ⟨p, b, rfl, hb, hp⟩ := hl
  obtain ⟨q, c, rfl, hc, hq⟩ := hm
  simp only [List.length_append, List.length_singleton] at hl10 hm10
  have e : p.length = q.length := by
    rcases Nat.lt_trichotomy p.length q.length with h1 | h1 | h1
    · have h2 := h p.length (by omega)
      rw [pd_at, if_pos rfl, pd_at, if_neg (by omega), pd_of_lt q _ h1] at h2
      have := hq q[p.length] (List.getElem_mem h1)
      omega
    · exact h1
    · have h2 := h q.length (by omega)
      rw [pd_at, if_neg (by omega), pd_at, if_pos rfl, pd_of_lt p _ h1] at h2
      have := hp p[q.length] (List.getElem_mem h1)
      omega
  have hbc : b = c := by
    have h2 := h p.length (by omega)
    rw [pd_at, if_pos rfl, pd_at, if_pos e] at h2
    exact h2
  have hpq : p = q := by
    apply List.ext_getElem e
    intro j h1 h2
    have h3 := h j (by omega)
    rw [pd_at, if_neg (by omega), pd_at, if_neg (by omega), pd_of_lt p j h1, pd_of_lt q j h2] at h3
    exact h3
  rw [hbc, hpq]

/-- Is there a first place at which something holds? -/
theorem first_or_none (P : Nat → Prop) (N : Nat) : (∃ k, k < N ∧ P k ∧ ∀ j, j < k → ¬ P j) ∨ (∀ k, k < N → ¬ P k) := by
  induction N with
  | zero => exact .inr (fun k h => absurd h (by omega))
  | succ N ih =>
    rcases ih with ⟨k, hk, hp, hn⟩ | h
    · exact .inl ⟨k, by omega, hp, hn⟩
    · by_cases hN : P N
      · exact .inl ⟨N, by omega, hN, fun j hj => h j hj⟩
      · exact .inr (fun k hk => by
          rcases Nat.lt_or_ge k N with h1 | h1
          · exact h k h1
          · rw [show k = N by omega]; exact hN)

theorem u64_group (l : List Int) (j : Nat) (h : j < l.length) (hj : j ≤ 9) (b : Int) (hb : l.getD j 0 = b) :
    bits .or .u64 (gv (l.take j) : Int) ((b % 128) * 2 ^ (7 * j) % 18446744073709551616) = ((gv (l.take (j + 1)) % 18446744073709551616 : Nat) : Int) := by
  have hl : (l.take j).length = j := by rw [List.length_take]; omega
  have hg : l.getD j 0 = l[j] := by simp [List.getD_eq_getElem?_getD, h]
  have hlt := gv_lt (l.take j)
  rw [hl] at hlt
  rw [List.take_succ_eq_append_getElem h, gv_snoc, hl, ← hg, hb]
  have h64 : (2 : Nat) ^ 64 = 18446744073709551616 := by decide
  have e : (b % 128) * 2 ^ (7 * j) % 18446744073709551616 = (((b % 128).toNat * 2 ^ (7 * j) % 2 ^ 64 : Nat) : Int) := by
    rw [h64]
    have h1 : ((b % 128).toNat : Int) = b % 128 := Int.toNat_of_nonneg (by omega)
    rw [← h1]; simp
  rw [e, u64_or_join _ _ _ hlt (by omega), h64]
theorem i64_group (l : List Int) (j : Nat) (h : j < l.length) (hj : j ≤ 9) (b : Int) (hb : l.getD j 0 = b) :
    bits .or .i64 (wrap64 (gv (l.take j) : Int)) (wrap64 ((b % 128) * 2 ^ (7 * j))) = wrap64 (gv (l.take (j + 1)) : Int) := by
  have hl : (l.take j).length = j := by rw [List.length_take]; omega
  have hg : l.getD j 0 = l[j] := by simp [List.getD_eq_getElem?_getD, h]
  have hlt := gv_lt (l.take j)
  rw [hl] at hlt
  rw [List.take_succ_eq_append_getElem h, gv_snoc, hl, ← hg, hb]
  have e : (b % 128) * 2 ^ (7 * j) = (((b % 128).toNat * 2 ^ (7 * j) : Nat) : Int) := by
    have h1 : ((b % 128).toNat : Int) = b % 128 := Int.toNat_of_nonneg (by omega)
    rw [← h1]; simp
  rw [e, i64_or_join _ _ _ hlt (by omega)]
end Go.Proofs.YtbjcldekapipaaaDoor
