/-
  The law on GetLeb: both answer alike at every string of at most 2^20 bytes.
-/
import Derived.Test.YtbjcldekapipaaaDoorMSg
namespace Go.Proofs.YtbjcldekapipaaaDoor
open Go.ChangeShapes Go.WideShapes Go.ChangeAt Go.RowKit

theorem getLeb_both (s : ByteArray) (hsz : (s.size : Int) ≤ 4294967296) : ∃ (x y : Int) (ok : Bool), (0 ≤ x ∧ x ≤ 9223372036854775807 ∧ 0 ≤ y ∧ y ≤ s.size) ∧
    (∀ W, Calls Tryd.prog 47 #[.string s] W fun e w' => e = .returned (.tuple #[.int .i64 x, .int .i64 y, .bool ok]) ∧ Below W.heap.size W w') ∧
    (∀ W, Calls Tryd.prog 83 #[.string s] W fun e w' => e = .returned (.tuple #[.int .i64 x, .int .i64 y, .bool ok]) ∧ Below W.heap.size W w') := by
  rcases first_or_none (fun k => ∃ h : k < s.size, (s[k].toNat : Int) < 128) 10 with ⟨k, hk10, ⟨hks, hlast⟩, hn⟩ | hn
  · have hpre : ∀ j, (h : j < k) → 128 ≤ ((s[j]'(by omega)).toNat : Int) := fun j hj => by
      have h1 := hn j hj
      rcases Int.lt_or_le ((s[j]'(by omega)).toNat : Int) 128 with h2 | h2
      · exact absurd ⟨by omega, h2⟩ h1
      · exact h2
    have hll : ((nums s).take (k + 1)).length = k + 1 := by rw [List.length_take, nums_length]; omega
    by_cases hk9 : k < 9
    · have hg := gv9 ((nums s).take (k + 1)) (by omega)
      have hm : gv ((nums s).take (k + 1)) % 18446744073709551616 = gv ((nums s).take (k + 1)) := Nat.mod_eq_of_lt (by omega)
      by_cases heq : lebU (gv ((nums s).take (k + 1))) = (nums s).take (k + 1)
      · exact ⟨_, _, _, ⟨by omega, by omega, by omega, by omega⟩, fun W => specGetLeb_yes s k W hks hk9 hpre hlast hsz heq, fun W => implGetLeb_yes s k W hks hk10 hpre hlast hsz _ hm (by omega) heq⟩
      · exact ⟨_, _, _, ⟨by omega, by omega, by omega, by omega⟩, fun W => specGetLeb_no s k W hks hk9 hpre hlast hsz heq, fun W => implGetLeb_no s k W hks hk10 hpre hlast hsz _ hm (by omega) heq⟩
    · obtain rfl : k = 9 := by omega
      have hsp := fun W => specGetLeb_none s W (fun j hj hj9 => hpre j hj9) hsz
      by_cases hv : (9223372036854775807 : Int) < ((gv ((nums s).take (9 + 1)) % 18446744073709551616 : Nat) : Int)
      · exact ⟨_, _, _, ⟨by omega, by omega, by omega, by omega⟩, hsp, fun W => implGetLeb_great s 9 W hks hk10 hpre hlast hsz _ rfl hv⟩
      · refine ⟨_, _, _, ⟨by omega, by omega, by omega, by omega⟩, hsp, fun W => implGetLeb_no s 9 W hks hk10 hpre hlast hsz _ rfl (by omega) (fun he => ?_)⟩
        have h1 : (9223372036854775808 : Nat) = 128 ^ 9 := by decide
        have h2 := lebU_length 8 (gv ((nums s).take (9 + 1)) % 18446744073709551616) (by omega)
        rw [he, hll] at h2
        omega
  · have hpre : ∀ j, (h : j < s.size) → j < 10 → 128 ≤ ((s[j]'h).toNat : Int) := fun j hj hj10 => by
      have h1 := hn j hj10
      rcases Int.lt_or_le ((s[j]'hj).toNat : Int) 128 with h2 | h2
      · exact absurd ⟨hj, h2⟩ h1
      · exact h2
    exact ⟨_, _, _, ⟨by omega, by omega, by omega, by omega⟩, fun W => specGetLeb_none s W (fun j hj hj9 => hpre j hj (by omega)) hsz, fun W => implGetLeb_none s W hpre hsz⟩

end Go.Proofs.YtbjcldekapipaaaDoor
