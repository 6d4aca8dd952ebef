/-
  The law on GetSleb: both answer alike at every string of at most 2^20 bytes.
-/
import Derived.Test.YtbjcldekapipaaaDoorMSg
namespace Go.Proofs.YtbjcldekapipaaaDoor
open Go.ChangeShapes Go.WideShapes Go.ChangeAt Go.RowKit

theorem wrap64_mod64 (n : Nat) : wrap64 ((n % 18446744073709551616 : Nat) : Int) = wrap64 (n : Int) := by unfold wrap64; omega
theorem u64_ones (i : Nat) (r : Nat) (_hr : r < 18446744073709551616) (hi : i ≤ 64) (ha : r < 2 ^ i) :
    wrap64 (bits .or .u64 (r : Int) (IntKind.u64.wrap (18446744073709551615 * 2 ^ i))) = wrap64 ((r : Int) - 2 ^ i) := by
  have h64 : (2 : Nat) ^ 64 = 18446744073709551616 := by decide
  have hj := u64_or_join r 18446744073709551615 i ha hi
  have e : IntKind.u64.wrap (18446744073709551615 * 2 ^ i) = ((18446744073709551615 * 2 ^ i % 2 ^ 64 : Nat) : Int) := by
    rw [IntKind.wrap_u64, h64]; simp
  have hcast : ((2 ^ i : Nat) : Int) = (2 : Int) ^ i := by simp
  rw [e, hj, h64, ← hcast]
  generalize (2 : Nat) ^ i = p at *
  unfold wrap64
  omega

theorem getSleb_both (s : ByteArray) (hsz : (s.size : Int) ≤ 4294967296) : ∃ (x y : Int) (ok : Bool), True ∧
    (∀ W, Calls Tryd.prog 46 #[.string s] W fun e w' => e = .returned (.tuple #[.int .i64 x, .int .i64 y, .bool ok]) ∧ Below W.heap.size W w') ∧
    (∀ W, Calls Tryd.prog 68 #[.string s] W fun e w' => e = .returned (.tuple #[.int .i64 x, .int .i64 y, .bool ok]) ∧ Below W.heap.size W w') := by
  rcases first_or_none (fun k => ∃ h : k < s.size, (s[k].toNat : Int) < 128) 10 with ⟨k, hk10, ⟨hks, hlast⟩, hn⟩ | hn
  · have hpre : ∀ j, (h : j < k) → 128 ≤ ((s[j]'(by omega)).toNat : Int) := fun j hj => by
      have h1 := hn j hj
      rcases Int.lt_or_le ((s[j]'(by omega)).toNat : Int) 128 with h2 | h2
      · exact absurd ⟨by omega, h2⟩ h1
      · exact h2
    have hll : ((nums s).take (k + 1)).length = k + 1 := by rw [List.length_take, nums_length]; omega
    have hgl := gv_lt ((nums s).take (k + 1))
    rw [hll] at hgl
    by_cases hk9 : k < 9
    · have hg := gv9 ((nums s).take (k + 1)) (by omega)
      have hm : gv ((nums s).take (k + 1)) % 18446744073709551616 = gv ((nums s).take (k + 1)) := Nat.mod_eq_of_lt (by omega)
      by_cases hb : (s[k].toNat : Int) < 64
      · have hbd := wrap64_bd ((gv ((nums s).take (k + 1)) : Nat) : Int)
        by_cases heq : lebS (wrap64 ((gv ((nums s).take (k + 1)) : Nat) : Int)) = (nums s).take (k + 1)
        · exact ⟨_, _, _, trivial, fun W => specGetSleb_pos_yes s k W hks hk10 hpre hlast hsz _ hbd.1 hbd.2 hk9 hb rfl heq, fun W => implGetSleb_pos_yes s k W hks hk10 hpre hlast hsz _ hm _ hbd.1 hbd.2 hb rfl heq⟩
        · exact ⟨_, _, _, trivial, fun W => specGetSleb_pos_no s k W hks hk10 hpre hlast hsz _ hbd.1 hbd.2 hk9 hb rfl heq, fun W => implGetSleb_pos_no s k W hks hk10 hpre hlast hsz _ hm _ hbd.1 hbd.2 hb rfl heq⟩
      · have hbd := wrap64_bd (((gv ((nums s).take (k + 1)) : Nat) : Int) - 2 ^ (7 * k + 7))
        have hsf : bits .or .i64 (wrap64 (gv ((nums s).take (k + 1)) : Nat)) (wrap64 (-(2 ^ (7 * k + 7)))) = wrap64 (((gv ((nums s).take (k + 1)) : Nat) : Int) - 2 ^ (7 * k + 7)) := i64_or_neg _ _ hgl (by omega)
        have hif : wrap64 (bits .or .u64 ((gv ((nums s).take (k + 1)) : Nat) : Int) (IntKind.u64.wrap (18446744073709551615 * 2 ^ min (7 * ((k : Int) + 1)).toNat 64))) = wrap64 (((gv ((nums s).take (k + 1)) : Nat) : Int) - 2 ^ (7 * k + 7)) := by
          rw [show min (7 * ((k : Int) + 1)).toNat 64 = 7 * k + 7 by omega]
          exact u64_ones _ _ (by omega) (by omega) hgl
        by_cases heq : lebS (wrap64 (((gv ((nums s).take (k + 1)) : Nat) : Int) - 2 ^ (7 * k + 7))) = (nums s).take (k + 1)
        · exact ⟨_, _, _, trivial, fun W => specGetSleb_neg_yes s k W hks hk10 hpre hlast hsz _ hbd.1 hbd.2 hk9 (by omega) hsf heq, fun W => implGetSleb_neg_yes s k W hks hk10 hpre hlast hsz _ hm _ hbd.1 hbd.2 (by omega) _ rfl hif heq⟩
        · exact ⟨_, _, _, trivial, fun W => specGetSleb_neg_no s k W hks hk10 hpre hlast hsz _ hbd.1 hbd.2 hk9 (by omega) hsf heq, fun W => implGetSleb_neg_no s k W hks hk10 hpre hlast hsz _ hm _ hbd.1 hbd.2 (by omega) _ rfl hif heq⟩
    · obtain rfl : k = 9 := by omega
      have hbd := wrap64_bd ((gv ((nums s).take (9 + 1)) : Nat) : Int)
      have hmod := wrap64_mod64 (gv ((nums s).take (9 + 1)))
      have hlt : gv ((nums s).take (9 + 1)) % 18446744073709551616 < 18446744073709551616 := Nat.mod_lt _ (by decide)
      have hif : wrap64 (bits .or .u64 ((gv ((nums s).take (9 + 1)) % 18446744073709551616 : Nat) : Int) (IntKind.u64.wrap (18446744073709551615 * 2 ^ min (7 * (((9 : Nat) : Int) + 1)).toNat 64))) = wrap64 ((gv ((nums s).take (9 + 1)) : Nat) : Int) := by
        rw [show min (7 * (((9 : Nat) : Int) + 1)).toNat 64 = 64 by decide]
        have h64 : (2 : Nat) ^ 64 = 18446744073709551616 := by decide
        rw [u64_ones 64 _ hlt (by omega) (by rw [h64]; exact hlt), ← hmod]
        have h65 : (2 : Int) ^ 64 = 18446744073709551616 := by decide
        rw [h65]
        unfold wrap64
        omega
      by_cases hb : (s[9].toNat : Int) < 64
      · by_cases heq : lebS (wrap64 ((gv ((nums s).take (9 + 1)) : Nat) : Int)) = (nums s).take (9 + 1)
        · exact ⟨_, _, _, trivial, fun W => specGetSleb_last_yes s 9 W hks hk10 hpre hlast hsz _ hbd.1 hbd.2 (by omega) rfl heq, fun W => implGetSleb_pos_yes s 9 W hks hk10 hpre hlast hsz _ rfl _ hbd.1 hbd.2 hb hmod heq⟩
        · exact ⟨_, _, _, trivial, fun W => specGetSleb_last_no s 9 W hks hk10 hpre hlast hsz _ hbd.1 hbd.2 (by omega) rfl heq, fun W => implGetSleb_pos_no s 9 W hks hk10 hpre hlast hsz _ rfl _ hbd.1 hbd.2 hb hmod heq⟩
      · by_cases heq : lebS (wrap64 ((gv ((nums s).take (9 + 1)) : Nat) : Int)) = (nums s).take (9 + 1)
        · exact ⟨_, _, _, trivial, fun W => specGetSleb_last_yes s 9 W hks hk10 hpre hlast hsz _ hbd.1 hbd.2 (by omega) rfl heq, fun W => implGetSleb_neg_yes s 9 W hks hk10 hpre hlast hsz _ rfl _ hbd.1 hbd.2 (by omega) _ rfl hif heq⟩
        · exact ⟨_, _, _, trivial, fun W => specGetSleb_last_no s 9 W hks hk10 hpre hlast hsz _ hbd.1 hbd.2 (by omega) rfl heq, fun W => implGetSleb_neg_no s 9 W hks hk10 hpre hlast hsz _ rfl _ hbd.1 hbd.2 (by omega) _ rfl hif heq⟩
  · have hpre : ∀ j, (h : j < s.size) → j < 10 → 128 ≤ ((s[j]'h).toNat : Int) := fun j hj hj10 => by
      have h1 := hn j hj10
      rcases Int.lt_or_le ((s[j]'hj).toNat : Int) 128 with h2 | h2
      · exact absurd ⟨hj, h2⟩ h1
      · exact h2
    exact ⟨_, _, _, trivial, fun W => specGetSleb_none s W hpre hsz, fun W => implGetSleb_none s W hpre hsz⟩

end Go.Proofs.YtbjcldekapipaaaDoor
