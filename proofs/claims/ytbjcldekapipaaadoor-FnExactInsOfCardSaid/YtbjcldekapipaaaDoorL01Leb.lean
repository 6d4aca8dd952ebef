/-
  Walks of the model's l01Leb. The string is shorter than 2^32 bytes.
-/
import Derived.Test.YtbjcldekapipaaaDoorGroups
namespace Go.Proofs.YtbjcldekapipaaaDoor
open Go.ChangeShapes Go.WideShapes Go.ChangeAt Go.RowKit

theorem wrap64_small (n : Nat) (h : n < 9223372036854775808) : wrap64 (n : Int) = (n : Int) := by unfold wrap64; omega
theorem gv9 (l : List Int) (h : l.length ≤ 9) : gv l < 9223372036854775808 := by
  have h1 := gv_lt l
  have h2 : (2 : Nat) ^ (7 * l.length) ≤ 2 ^ 63 := Nat.pow_le_pow_right (by decide) (by omega)
  have h3 : (2 : Nat) ^ 63 = 9223372036854775808 := by decide
  omega
theorem nums_getD (s : ByteArray) (j : Nat) (h : j < s.size) : (nums s).getD j 0 = (s[j].toNat : Int) := by
  rw [List.getD_eq_getElem?_getD, List.getElem?_eq_getElem (by rw [nums_length]; exact h)]
  simp [nums]
  rfl

set_option maxRecDepth 100000 in
set_option maxHeartbeats 1000000 in
theorem l01Leb_yes (s : ByteArray) (k : Nat) (w : World) (hk : k < s.size) (hk9 : k < 9) (hpre : ∀ j, (h : j < k) → 128 ≤ ((s[j]'(by omega)).toNat : Int)) (hlast : (s[k].toNat : Int) < 128) (_hsz : (s.size : Int) ≤ 4294967296) :
    Calls Tryd.prog 66 #[.string s] w fun e w' => e = .returned (.tuple #[.int .i64 (gv ((nums s).take (k + 1)) : Nat), .int .i64 ((k : Int) + 1)]) ∧ w = w' := by
  have HP := Lib.hid hpre
  have HL := Lib.hid hlast
  clear hpre hlast
  obtain ⟨r, hr⟩ : ∃ r : Int, ((gv ((nums s).take (k + 1)) : Nat) : Int) = r := ⟨_, rfl⟩
  rw [hr]
  have HR := Lib.hid hr
  clear hr
  go_enter Tryd.func66, Tryd.ntmps66
  go_wp2_with fail
  go_loop [4, 5] (fun v i => ∃ (j : Nat) (x : Int), j ≤ k ∧ v = .int .i64 x ∧ i = .int .i64 j ∧ x = wrap64 (gv ((nums s).take j) : Nat)) (fun _ i => 10 - (intOf i).toNat)
  case atStart => exact ⟨0, 0, by omega, rfl, rfl, by simp [gv, wrap64]⟩
  case round =>
    obtain ⟨j, x, hj, rfl, rfl, hx⟩ := hrel
    have HX := Lib.hid hx
    clear hx
    have hjs : (j : Int) < (s.size : Int) := by omega
    have hj9 : (j : Int) < 9 := by omega
    have hx0 : 0 ≤ ((s[j].toNat : Nat) : Int) := by omega
    have hx1 : ((s[j].toNat : Nat) : Int) < 256 := by have := s[j].toNat_lt; omega
    have hand := u8_and127 _ hx0 hx1
    have hstep : Hid (bits .or .i64 x (wrap64 (((s[j].toNat : Nat) : Int) % 128 * 2 ^ (7 * j))) = wrap64 (gv ((nums s).take (j + 1)) : Nat)) := by
      show bits .or .i64 x (wrap64 (((s[j].toNat : Nat) : Int) % 128 * 2 ^ (7 * j))) = wrap64 (gv ((nums s).take (j + 1)) : Nat)
      rw [HX.out]
      exact i64_group (nums s) j (by rw [nums_length]; omega) (by omega) _ (nums_getD s j (by omega))
    by_cases hlt : j < k
    · have hbj := HP.out j hlt
      have hb8 : ¬ ((s[j].toNat : Nat) : Int) < 128 := by omega
      clear hbj
      go_wp2_with fail
      go_round
      case rel => exact ⟨j + 1, _, by omega, rfl, by go_num, hstep.out⟩
      case measure => simp [intOf]; omega
    · obtain rfl : j = k := by omega
      have hb8 : ((s[j].toNat : Nat) : Int) < 128 := HL.out
      go_wp2_with fail
      go_ret2
      refine ⟨?_, rfl⟩
      rw [hstep.out, wrap64_small _ (gv9 _ (by rw [List.length_take]; omega)), HR.out]
      rfl

set_option maxRecDepth 100000 in
set_option maxHeartbeats 1000000 in
theorem l01Leb_no (s : ByteArray) (w : World) (hpre : ∀ j, (h : j < s.size) → j < 9 → 128 ≤ ((s[j]'h).toNat : Int)) (hsz : (s.size : Int) ≤ 4294967296) :
    Calls Tryd.prog 66 #[.string s] w fun e w' => e = .returned (.tuple #[.int .i64 0, .int .i64 0]) ∧ w = w' := by
  have HP := Lib.hid hpre
  clear hpre
  go_enter Tryd.func66, Tryd.ntmps66
  go_wp2_with fail
  go_loop [4, 5] (fun v i => ∃ (j : Nat) (x : Int), (j ≤ 9 ∧ j ≤ s.size) ∧ v = .int .i64 x ∧ i = .int .i64 j) (fun _ i => 10 - (intOf i).toNat)
  case atStart => exact ⟨0, 0, by omega, rfl, rfl⟩
  case round =>
    obtain ⟨j, x, ⟨hj, hj2⟩, rfl, rfl⟩ := hrel
    by_cases hlt : j < s.size
    · have hjs : (j : Int) < (s.size : Int) := by omega
      by_cases hlt9 : j < 9
      · have hj9 : (j : Int) < 9 := by omega
        have hx0 : 0 ≤ ((s[j].toNat : Nat) : Int) := by omega
        have hx1 : ((s[j].toNat : Nat) : Int) < 256 := by have := s[j].toNat_lt; omega
        have hand := u8_and127 _ hx0 hx1
        have hbj := HP.out j hlt hlt9
        have hb8 : ¬ ((s[j].toNat : Nat) : Int) < 128 := by omega
        clear hbj
        go_wp2_with fail
        go_round
        case rel => exact ⟨j + 1, _, by omega, rfl, by go_num⟩
        case measure => simp [intOf]; omega
      · have hj9 : ¬ (j : Int) < 9 := by omega
        go_wp2_with fail
        go_ret2
        exact ⟨rfl, rfl⟩
    · have hjs : ¬ (j : Int) < (s.size : Int) := by omega
      go_wp2_with fail
      go_ret2
      exact ⟨rfl, rfl⟩
end Go.Proofs.YtbjcldekapipaaaDoor
