/-
  Walks of the model's GetSleb.
-/
import Derived.Test.YtbjcldekapipaaaDoorSpecGetLeb
namespace Go.Proofs.YtbjcldekapipaaaDoor
open Go.ChangeShapes Go.WideShapes Go.ChangeAt Go.RowKit
set_option linter.unusedVariables false

theorem u8_and64 (b : Int) (h0 : 0 ≤ b) (h1 : b < 128) : bits .and .u8 b 64 = if 64 ≤ b then 64 else 0 := by
  obtain ⟨a, rfl⟩ := Int.eq_ofNat_of_zero_le h0
  rw [u8_and _ _ h0 (by omega) (by decide) (by decide)]
  have e : (a : Int).toNat = a := rfl
  have e2 : (64 : Int).toNat = 64 := rfl
  rw [e, e2]
  have : ∀ a : Fin 128, a.val &&& 64 = if 64 ≤ a.val then 64 else 0 := by decide +kernel
  have h := this ⟨a, by omega⟩
  simp only at h
  rw [h]
  split <;> rename_i h2
  · rw [if_pos (by omega)]; rfl
  · rw [if_neg (by omega)]; rfl
theorem i64_or_neg (a i : Nat) (ha : a < 2 ^ i) (hi : i ≤ 64) : bits .or .i64 (wrap64 (a : Int)) (wrap64 (-(2 ^ i : Int))) = wrap64 ((a : Int) - 2 ^ i) := by
  have hp : (2 : Nat) ^ 64 = 2 ^ (64 - i) * 2 ^ i := by rw [← Nat.pow_add]; congr 1; omega
  have h1 : 1 ≤ 2 ^ (64 - i) := Nat.pow_pos (by decide)
  have hc : (2 ^ (64 - i) - 1) * 2 ^ i + 2 ^ i = 2 ^ 64 := by
    rw [hp, ← Nat.succ_mul]; congr 1; omega
  have h64 : (2 : Nat) ^ 64 = 18446744073709551616 := by decide
  have hj := i64_or_join a (2 ^ (64 - i) - 1) i ha hi
  generalize (2 ^ (64 - i) - 1) * 2 ^ i = q at *
  have hcast : ((2 ^ i : Nat) : Int) = (2 : Int) ^ i := by simp
  have e1 : wrap64 (-(2 ^ i : Int)) = wrap64 ((q : Nat) : Int) := by
    rw [← hcast]; unfold wrap64; omega
  have e2 : wrap64 ((a : Int) - 2 ^ i) = wrap64 ((a + q : Nat) : Int) := by
    rw [← hcast]; unfold wrap64; omega
  rw [e1, e2, hj]
/-- The number of an encoding: the last group's bit 6 is its sign. -/
def sv (l : List Int) (b : Int) : Int := wrap64 ((gv l : Int) - if 64 ≤ b then 2 ^ (7 * l.length) else 0)
theorem wrap64_bd (z : Int) : -9223372036854775808 ≤ wrap64 z ∧ wrap64 z ≤ 9223372036854775807 := by unfold wrap64; omega

set_option maxRecDepth 100000 in
set_option maxHeartbeats 2000000 in
theorem specGetSleb_pos_yes (s : ByteArray) (k : Nat) (w : World) (hk : k < s.size) (hk10 : k < 10) (hpre : ∀ j, (h : j < k) → 128 ≤ ((s[j]'(by omega)).toNat : Int)) (hlast : (s[k].toNat : Int) < 128) (hsz : (s.size : Int) ≤ 4294967296) (v : Int) (hv0 : -9223372036854775808 ≤ v) (hv1 : v ≤ 9223372036854775807) (hk9 : k < 9) (hb64 : (s[k].toNat : Int) < 64) (hfin : wrap64 (gv ((nums s).take (k + 1)) : Nat) = v) (heq : lebS v = (nums s).take (k + 1)) :
    Calls Tryd.prog 46 #[.string s] w fun e w' => e = .returned (.tuple #[.int .i64 v, .int .i64 ((k : Int) + 1), .bool true]) ∧ Below w.heap.size w w' := by
  have HP := Lib.hid hpre
  have HL := Lib.hid hlast
  have C2 : Hid (∀ W, Calls Tryd.prog 39 #[.int .i64 v] W fun e w' => e = .returned (.string (strOfNums (lebS v))) ∧ Below W.heap.size W w') := fun W => specPutSleb_any v W hv0 hv1
  have hcmp : ((strOfNums (lebS v)).toList == (s.extract 0 (k + 1)).toList) = true := by
    rw [cmp_extract _ (lebS_byte _)]; simpa using heq
  generalize strOfNums (lebS v) = p at *
  have HV := Lib.hid hfin
  have hks : (k : Int) + 1 ≤ (s.size : Int) := by omega
  have hk0 : (0 : Int) ≤ (k : Int) + 1 := by omega
  clear hpre hlast heq hfin
  go_enter Tryd.func46, Tryd.ntmps46
  go_wp2_with fail
  go_loop [5, 6] (fun vv i => ∃ (j : Nat) (x : Int), j ≤ k ∧ vv = .int .i64 x ∧ i = .int .i64 j ∧ x = wrap64 (gv ((nums s).take j) : Nat)) (fun _ i => 11 - (intOf i).toNat)
  case atStart => exact ⟨0, 0, by omega, rfl, rfl, by simp [gv, wrap64]⟩
  case round =>
    obtain ⟨j, x, hj, rfl, rfl, hx⟩ := hrel
    have HX := Lib.hid hx
    clear hx
    have hjs : (j : Int) < (s.size : Int) := by omega
    have hj10 : (j : Int) < 10 := by omega
    have hx0 : 0 ≤ ((s[j].toNat : Nat) : Int) := by omega
    have hx1 : ((s[j].toNat : Nat) : Int) < 256 := by have := s[j].toNat_lt; omega
    have hand := u8_and127 _ hx0 hx1
    have hstep : Hid (bits .or .i64 x (wrap64 (((s[j].toNat : Nat) : Int) % 128 * 2 ^ (7 * j))) = wrap64 (gv ((nums s).take (j + 1)) : Nat)) := by
      show bits .or .i64 x (wrap64 (((s[j].toNat : Nat) : Int) % 128 * 2 ^ (7 * j))) = wrap64 (gv ((nums s).take (j + 1)) : Nat)
      rw [HX.out]
      exact i64_group (nums s) j (by rw [nums_length]; omega) (by omega) _ (nums_getD s j (by omega))
    by_cases hlt : j < k
    · have hbj := HP.out j hlt
      go_wp2_with fail
      go_round
      case rel => exact ⟨j + 1, _, by omega, rfl, by go_num, hstep.out⟩
      case measure => simp [intOf]; omega
    · obtain rfl : j = k := by omega
      have hb8 : ¬ (128 : Int) ≤ ((s[j].toNat : Nat) : Int) := by have := HL.out; omega
      have hstep2 : bits .or .i64 x (wrap64 (((s[j].toNat : Nat) : Int) % 128 * 2 ^ (7 * j))) = v := hstep.out.trans HV.out
      have hj9 : (j : Int) < 9 := by omega
      have hand6 : bits .and .u8 ((s[j].toNat : Nat) : Int) 64 = 0 := by rw [u8_and64 _ hx0 (by omega), if_neg (by omega)]
      have hst : ((j : Int) + 1).toNat = j + 1 := by omega
      have hsum : IntKind.i64.wrap ((j : Int) + 1) = (j : Int) + 1 := by rw [IntKind.wrap_i64]; omega
      go_wp2_with fail
      go_region_held3 (fun _ => True) (trivial)
        (first | (go_at_call 39; refine (C2.out _).mono ?_; rintro e w1 ⟨rfl, hb⟩))
      all_goals
        clear hsum hst
        go_wp2_with fail
        go_ret3
        exact ⟨rfl, hb.of_drew⟩

set_option maxRecDepth 100000 in
set_option maxHeartbeats 2000000 in
theorem specGetSleb_last_yes (s : ByteArray) (k : Nat) (w : World) (hk : k < s.size) (hk10 : k < 10) (hpre : ∀ j, (h : j < k) → 128 ≤ ((s[j]'(by omega)).toNat : Int)) (hlast : (s[k].toNat : Int) < 128) (hsz : (s.size : Int) ≤ 4294967296) (v : Int) (hv0 : -9223372036854775808 ≤ v) (hv1 : v ≤ 9223372036854775807) (hk9 : 9 ≤ k) (hfin : wrap64 (gv ((nums s).take (k + 1)) : Nat) = v) (heq : lebS v = (nums s).take (k + 1)) :
    Calls Tryd.prog 46 #[.string s] w fun e w' => e = .returned (.tuple #[.int .i64 v, .int .i64 ((k : Int) + 1), .bool true]) ∧ Below w.heap.size w w' := by
  have HP := Lib.hid hpre
  have HL := Lib.hid hlast
  have C2 : Hid (∀ W, Calls Tryd.prog 39 #[.int .i64 v] W fun e w' => e = .returned (.string (strOfNums (lebS v))) ∧ Below W.heap.size W w') := fun W => specPutSleb_any v W hv0 hv1
  have hcmp : ((strOfNums (lebS v)).toList == (s.extract 0 (k + 1)).toList) = true := by
    rw [cmp_extract _ (lebS_byte _)]; simpa using heq
  generalize strOfNums (lebS v) = p at *
  have HV := Lib.hid hfin
  have hks : (k : Int) + 1 ≤ (s.size : Int) := by omega
  have hk0 : (0 : Int) ≤ (k : Int) + 1 := by omega
  clear hpre hlast heq hfin
  go_enter Tryd.func46, Tryd.ntmps46
  go_wp2_with fail
  go_loop [5, 6] (fun vv i => ∃ (j : Nat) (x : Int), j ≤ k ∧ vv = .int .i64 x ∧ i = .int .i64 j ∧ x = wrap64 (gv ((nums s).take j) : Nat)) (fun _ i => 11 - (intOf i).toNat)
  case atStart => exact ⟨0, 0, by omega, rfl, rfl, by simp [gv, wrap64]⟩
  case round =>
    obtain ⟨j, x, hj, rfl, rfl, hx⟩ := hrel
    have HX := Lib.hid hx
    clear hx
    have hjs : (j : Int) < (s.size : Int) := by omega
    have hj10 : (j : Int) < 10 := by omega
    have hx0 : 0 ≤ ((s[j].toNat : Nat) : Int) := by omega
    have hx1 : ((s[j].toNat : Nat) : Int) < 256 := by have := s[j].toNat_lt; omega
    have hand := u8_and127 _ hx0 hx1
    have hstep : Hid (bits .or .i64 x (wrap64 (((s[j].toNat : Nat) : Int) % 128 * 2 ^ (7 * j))) = wrap64 (gv ((nums s).take (j + 1)) : Nat)) := by
      show bits .or .i64 x (wrap64 (((s[j].toNat : Nat) : Int) % 128 * 2 ^ (7 * j))) = wrap64 (gv ((nums s).take (j + 1)) : Nat)
      rw [HX.out]
      exact i64_group (nums s) j (by rw [nums_length]; omega) (by omega) _ (nums_getD s j (by omega))
    by_cases hlt : j < k
    · have hbj := HP.out j hlt
      go_wp2_with fail
      go_round
      case rel => exact ⟨j + 1, _, by omega, rfl, by go_num, hstep.out⟩
      case measure => simp [intOf]; omega
    · obtain rfl : j = k := by omega
      have hb8 : ¬ (128 : Int) ≤ ((s[j].toNat : Nat) : Int) := by have := HL.out; omega
      have hstep2 : bits .or .i64 x (wrap64 (((s[j].toNat : Nat) : Int) % 128 * 2 ^ (7 * j))) = v := hstep.out.trans HV.out
      have hj9 : ¬ (j : Int) < 9 := by omega
      have hst : ((j : Int) + 1).toNat = j + 1 := by omega
      have hsum : IntKind.i64.wrap ((j : Int) + 1) = (j : Int) + 1 := by rw [IntKind.wrap_i64]; omega
      go_wp2_with fail
      go_region_held3 (fun _ => True) (trivial)
        (first | (go_at_call 39; refine (C2.out _).mono ?_; rintro e w1 ⟨rfl, hb⟩))
      all_goals
        clear hsum hst
        go_wp2_with fail
        go_ret3
        exact ⟨rfl, hb.of_drew⟩

set_option maxRecDepth 100000 in
set_option maxHeartbeats 2000000 in
theorem specGetSleb_neg_yes (s : ByteArray) (k : Nat) (w : World) (hk : k < s.size) (hk10 : k < 10) (hpre : ∀ j, (h : j < k) → 128 ≤ ((s[j]'(by omega)).toNat : Int)) (hlast : (s[k].toNat : Int) < 128) (hsz : (s.size : Int) ≤ 4294967296) (v : Int) (hv0 : -9223372036854775808 ≤ v) (hv1 : v ≤ 9223372036854775807) (hk9 : k < 9) (hb64 : 64 ≤ (s[k].toNat : Int)) (hfin : bits .or .i64 (wrap64 (gv ((nums s).take (k + 1)) : Nat)) (wrap64 (-(2 ^ (7 * k + 7)))) = v) (heq : lebS v = (nums s).take (k + 1)) :
    Calls Tryd.prog 46 #[.string s] w fun e w' => e = .returned (.tuple #[.int .i64 v, .int .i64 ((k : Int) + 1), .bool true]) ∧ Below w.heap.size w w' := by
  have HP := Lib.hid hpre
  have HL := Lib.hid hlast
  have C2 : Hid (∀ W, Calls Tryd.prog 39 #[.int .i64 v] W fun e w' => e = .returned (.string (strOfNums (lebS v))) ∧ Below W.heap.size W w') := fun W => specPutSleb_any v W hv0 hv1
  have hcmp : ((strOfNums (lebS v)).toList == (s.extract 0 (k + 1)).toList) = true := by
    rw [cmp_extract _ (lebS_byte _)]; simpa using heq
  generalize strOfNums (lebS v) = p at *
  have HV := Lib.hid hfin
  have hks : (k : Int) + 1 ≤ (s.size : Int) := by omega
  have hk0 : (0 : Int) ≤ (k : Int) + 1 := by omega
  clear hpre hlast heq hfin
  go_enter Tryd.func46, Tryd.ntmps46
  go_wp2_with fail
  go_loop [5, 6] (fun vv i => ∃ (j : Nat) (x : Int), j ≤ k ∧ vv = .int .i64 x ∧ i = .int .i64 j ∧ x = wrap64 (gv ((nums s).take j) : Nat)) (fun _ i => 11 - (intOf i).toNat)
  case atStart => exact ⟨0, 0, by omega, rfl, rfl, by simp [gv, wrap64]⟩
  case round =>
    obtain ⟨j, x, hj, rfl, rfl, hx⟩ := hrel
    have HX := Lib.hid hx
    clear hx
    have hjs : (j : Int) < (s.size : Int) := by omega
    have hj10 : (j : Int) < 10 := by omega
    have hx0 : 0 ≤ ((s[j].toNat : Nat) : Int) := by omega
    have hx1 : ((s[j].toNat : Nat) : Int) < 256 := by have := s[j].toNat_lt; omega
    have hand := u8_and127 _ hx0 hx1
    have hstep : Hid (bits .or .i64 x (wrap64 (((s[j].toNat : Nat) : Int) % 128 * 2 ^ (7 * j))) = wrap64 (gv ((nums s).take (j + 1)) : Nat)) := by
      show bits .or .i64 x (wrap64 (((s[j].toNat : Nat) : Int) % 128 * 2 ^ (7 * j))) = wrap64 (gv ((nums s).take (j + 1)) : Nat)
      rw [HX.out]
      exact i64_group (nums s) j (by rw [nums_length]; omega) (by omega) _ (nums_getD s j (by omega))
    by_cases hlt : j < k
    · have hbj := HP.out j hlt
      go_wp2_with fail
      go_round
      case rel => exact ⟨j + 1, _, by omega, rfl, by go_num, hstep.out⟩
      case measure => simp [intOf]; omega
    · obtain rfl : j = k := by omega
      have hb8 : ¬ (128 : Int) ≤ ((s[j].toNat : Nat) : Int) := by have := HL.out; omega
      obtain ⟨q, hq⟩ : ∃ q, wrap64 (gv ((nums s).take (j + 1)) : Nat) = q := ⟨_, rfl⟩
      have hstep2 : bits .or .i64 x (wrap64 (((s[j].toNat : Nat) : Int) % 128 * 2 ^ (7 * j))) = q := hstep.out.trans hq
      have hfin2 : bits .or .i64 q (wrap64 (-(2 ^ (7 * j + 7)))) = v := by rw [← hq]; exact HV.out
      clear hq
      have hj9 : (j : Int) < 9 := by omega
      have hand6 : bits .and .u8 ((s[j].toNat : Nat) : Int) 64 = 64 := by rw [u8_and64 _ hx0 (by omega), if_pos (by omega)]
      have hst : ((j : Int) + 1).toNat = j + 1 := by omega
      have hsum : IntKind.i64.wrap ((j : Int) + 1) = (j : Int) + 1 := by rw [IntKind.wrap_i64]; omega
      go_wp2_with fail
      go_region_held3 (fun _ => True) (trivial)
        (first | (go_at_call 39; refine (C2.out _).mono ?_; rintro e w1 ⟨rfl, hb⟩))
      all_goals
        clear hsum hst
        go_wp2_with fail
        go_ret3
        exact ⟨rfl, hb.of_drew⟩

set_option maxRecDepth 100000 in
set_option maxHeartbeats 2000000 in
theorem specGetSleb_pos_no (s : ByteArray) (k : Nat) (w : World) (hk : k < s.size) (hk10 : k < 10) (hpre : ∀ j, (h : j < k) → 128 ≤ ((s[j]'(by omega)).toNat : Int)) (hlast : (s[k].toNat : Int) < 128) (hsz : (s.size : Int) ≤ 4294967296) (v : Int) (hv0 : -9223372036854775808 ≤ v) (hv1 : v ≤ 9223372036854775807) (hk9 : k < 9) (hb64 : (s[k].toNat : Int) < 64) (hfin : wrap64 (gv ((nums s).take (k + 1)) : Nat) = v) (heq : ¬ lebS v = (nums s).take (k + 1)) :
    Calls Tryd.prog 46 #[.string s] w fun e w' => e = .returned (.tuple #[.int .i64 0, .int .i64 0, .bool false]) ∧ Below w.heap.size w w' := by
  have HP := Lib.hid hpre
  have HL := Lib.hid hlast
  have C2 : Hid (∀ W, Calls Tryd.prog 39 #[.int .i64 v] W fun e w' => e = .returned (.string (strOfNums (lebS v))) ∧ Below W.heap.size W w') := fun W => specPutSleb_any v W hv0 hv1
  have hcmp : ((strOfNums (lebS v)).toList == (s.extract 0 (k + 1)).toList) = false := by
    rw [cmp_extract _ (lebS_byte _)]; simpa using heq
  generalize strOfNums (lebS v) = p at *
  have HV := Lib.hid hfin
  have hks : (k : Int) + 1 ≤ (s.size : Int) := by omega
  have hk0 : (0 : Int) ≤ (k : Int) + 1 := by omega
  clear hpre hlast heq hfin
  go_enter Tryd.func46, Tryd.ntmps46
  go_wp2_with fail
  go_loop [5, 6] (fun vv i => ∃ (j : Nat) (x : Int), j ≤ k ∧ vv = .int .i64 x ∧ i = .int .i64 j ∧ x = wrap64 (gv ((nums s).take j) : Nat)) (fun _ i => 11 - (intOf i).toNat)
  case atStart => exact ⟨0, 0, by omega, rfl, rfl, by simp [gv, wrap64]⟩
  case round =>
    obtain ⟨j, x, hj, rfl, rfl, hx⟩ := hrel
    have HX := Lib.hid hx
    clear hx
    have hjs : (j : Int) < (s.size : Int) := by omega
    have hj10 : (j : Int) < 10 := by omega
    have hx0 : 0 ≤ ((s[j].toNat : Nat) : Int) := by omega
    have hx1 : ((s[j].toNat : Nat) : Int) < 256 := by have := s[j].toNat_lt; omega
    have hand := u8_and127 _ hx0 hx1
    have hstep : Hid (bits .or .i64 x (wrap64 (((s[j].toNat : Nat) : Int) % 128 * 2 ^ (7 * j))) = wrap64 (gv ((nums s).take (j + 1)) : Nat)) := by
      show bits .or .i64 x (wrap64 (((s[j].toNat : Nat) : Int) % 128 * 2 ^ (7 * j))) = wrap64 (gv ((nums s).take (j + 1)) : Nat)
      rw [HX.out]
      exact i64_group (nums s) j (by rw [nums_length]; omega) (by omega) _ (nums_getD s j (by omega))
    by_cases hlt : j < k
    · have hbj := HP.out j hlt
      go_wp2_with fail
      go_round
      case rel => exact ⟨j + 1, _, by omega, rfl, by go_num, hstep.out⟩
      case measure => simp [intOf]; omega
    · obtain rfl : j = k := by omega
      have hb8 : ¬ (128 : Int) ≤ ((s[j].toNat : Nat) : Int) := by have := HL.out; omega
      have hstep2 : bits .or .i64 x (wrap64 (((s[j].toNat : Nat) : Int) % 128 * 2 ^ (7 * j))) = v := hstep.out.trans HV.out
      have hj9 : (j : Int) < 9 := by omega
      have hand6 : bits .and .u8 ((s[j].toNat : Nat) : Int) 64 = 0 := by rw [u8_and64 _ hx0 (by omega), if_neg (by omega)]
      have hst : ((j : Int) + 1).toNat = j + 1 := by omega
      have hsum : IntKind.i64.wrap ((j : Int) + 1) = (j : Int) + 1 := by rw [IntKind.wrap_i64]; omega
      go_wp2_with fail
      go_region_held3 (fun _ => True) (trivial)
        (first | (go_at_call 39; refine (C2.out _).mono ?_; rintro e w1 ⟨rfl, hb⟩))
      all_goals
        clear hsum hst
        go_wp2_with fail
        go_ret3
        exact ⟨rfl, hb.of_drew⟩

set_option maxRecDepth 100000 in
set_option maxHeartbeats 2000000 in
theorem specGetSleb_last_no (s : ByteArray) (k : Nat) (w : World) (hk : k < s.size) (hk10 : k < 10) (hpre : ∀ j, (h : j < k) → 128 ≤ ((s[j]'(by omega)).toNat : Int)) (hlast : (s[k].toNat : Int) < 128) (hsz : (s.size : Int) ≤ 4294967296) (v : Int) (hv0 : -9223372036854775808 ≤ v) (hv1 : v ≤ 9223372036854775807) (hk9 : 9 ≤ k) (hfin : wrap64 (gv ((nums s).take (k + 1)) : Nat) = v) (heq : ¬ lebS v = (nums s).take (k + 1)) :
    Calls Tryd.prog 46 #[.string s] w fun e w' => e = .returned (.tuple #[.int .i64 0, .int .i64 0, .bool false]) ∧ Below w.heap.size w w' := by
  have HP := Lib.hid hpre
  have HL := Lib.hid hlast
  have C2 : Hid (∀ W, Calls Tryd.prog 39 #[.int .i64 v] W fun e w' => e = .returned (.string (strOfNums (lebS v))) ∧ Below W.heap.size W w') := fun W => specPutSleb_any v W hv0 hv1
  have hcmp : ((strOfNums (lebS v)).toList == (s.extract 0 (k + 1)).toList) = false := by
    rw [cmp_extract _ (lebS_byte _)]; simpa using heq
  generalize strOfNums (lebS v) = p at *
  have HV := Lib.hid hfin
  have hks : (k : Int) + 1 ≤ (s.size : Int) := by omega
  have hk0 : (0 : Int) ≤ (k : Int) + 1 := by omega
  clear hpre hlast heq hfin
  go_enter Tryd.func46, Tryd.ntmps46
  go_wp2_with fail
  go_loop [5, 6] (fun vv i => ∃ (j : Nat) (x : Int), j ≤ k ∧ vv = .int .i64 x ∧ i = .int .i64 j ∧ x = wrap64 (gv ((nums s).take j) : Nat)) (fun _ i => 11 - (intOf i).toNat)
  case atStart => exact ⟨0, 0, by omega, rfl, rfl, by simp [gv, wrap64]⟩
  case round =>
    obtain ⟨j, x, hj, rfl, rfl, hx⟩ := hrel
    have HX := Lib.hid hx
    clear hx
    have hjs : (j : Int) < (s.size : Int) := by omega
    have hj10 : (j : Int) < 10 := by omega
    have hx0 : 0 ≤ ((s[j].toNat : Nat) : Int) := by omega
    have hx1 : ((s[j].toNat : Nat) : Int) < 256 := by have := s[j].toNat_lt; omega
    have hand := u8_and127 _ hx0 hx1
    have hstep : Hid (bits .or .i64 x (wrap64 (((s[j].toNat : Nat) : Int) % 128 * 2 ^ (7 * j))) = wrap64 (gv ((nums s).take (j + 1)) : Nat)) := by
      show bits .or .i64 x (wrap64 (((s[j].toNat : Nat) : Int) % 128 * 2 ^ (7 * j))) = wrap64 (gv ((nums s).take (j + 1)) : Nat)
      rw [HX.out]
      exact i64_group (nums s) j (by rw [nums_length]; omega) (by omega) _ (nums_getD s j (by omega))
    by_cases hlt : j < k
    · have hbj := HP.out j hlt
      go_wp2_with fail
      go_round
      case rel => exact ⟨j + 1, _, by omega, rfl, by go_num, hstep.out⟩
      case measure => simp [intOf]; omega
    · obtain rfl : j = k := by omega
      have hb8 : ¬ (128 : Int) ≤ ((s[j].toNat : Nat) : Int) := by have := HL.out; omega
      have hstep2 : bits .or .i64 x (wrap64 (((s[j].toNat : Nat) : Int) % 128 * 2 ^ (7 * j))) = v := hstep.out.trans HV.out
      have hj9 : ¬ (j : Int) < 9 := by omega
      have hst : ((j : Int) + 1).toNat = j + 1 := by omega
      have hsum : IntKind.i64.wrap ((j : Int) + 1) = (j : Int) + 1 := by rw [IntKind.wrap_i64]; omega
      go_wp2_with fail
      go_region_held3 (fun _ => True) (trivial)
        (first | (go_at_call 39; refine (C2.out _).mono ?_; rintro e w1 ⟨rfl, hb⟩))
      all_goals
        clear hsum hst
        go_wp2_with fail
        go_ret3
        exact ⟨rfl, hb.of_drew⟩

set_option maxRecDepth 100000 in
set_option maxHeartbeats 2000000 in
theorem specGetSleb_neg_no (s : ByteArray) (k : Nat) (w : World) (hk : k < s.size) (hk10 : k < 10) (hpre : ∀ j, (h : j < k) → 128 ≤ ((s[j]'(by omega)).toNat : Int)) (hlast : (s[k].toNat : Int) < 128) (hsz : (s.size : Int) ≤ 4294967296) (v : Int) (hv0 : -9223372036854775808 ≤ v) (hv1 : v ≤ 9223372036854775807) (hk9 : k < 9) (hb64 : 64 ≤ (s[k].toNat : Int)) (hfin : bits .or .i64 (wrap64 (gv ((nums s).take (k + 1)) : Nat)) (wrap64 (-(2 ^ (7 * k + 7)))) = v) (heq : ¬ lebS v = (nums s).take (k + 1)) :
    Calls Tryd.prog 46 #[.string s] w fun e w' => e = .returned (.tuple #[.int .i64 0, .int .i64 0, .bool false]) ∧ Below w.heap.size w w' := by
  have HP := Lib.hid hpre
  have HL := Lib.hid hlast
  have C2 : Hid (∀ W, Calls Tryd.prog 39 #[.int .i64 v] W fun e w' => e = .returned (.string (strOfNums (lebS v))) ∧ Below W.heap.size W w') := fun W => specPutSleb_any v W hv0 hv1
  have hcmp : ((strOfNums (lebS v)).toList == (s.extract 0 (k + 1)).toList) = false := by
    rw [cmp_extract _ (lebS_byte _)]; simpa using heq
  generalize strOfNums (lebS v) = p at *
  have HV := Lib.hid hfin
  have hks : (k : Int) + 1 ≤ (s.size : Int) := by omega
  have hk0 : (0 : Int) ≤ (k : Int) + 1 := by omega
  clear hpre hlast heq hfin
  go_enter Tryd.func46, Tryd.ntmps46
  go_wp2_with fail
  go_loop [5, 6] (fun vv i => ∃ (j : Nat) (x : Int), j ≤ k ∧ vv = .int .i64 x ∧ i = .int .i64 j ∧ x = wrap64 (gv ((nums s).take j) : Nat)) (fun _ i => 11 - (intOf i).toNat)
  case atStart => exact ⟨0, 0, by omega, rfl, rfl, by simp [gv, wrap64]⟩
  case round =>
    obtain ⟨j, x, hj, rfl, rfl, hx⟩ := hrel
    have HX := Lib.hid hx
    clear hx
    have hjs : (j : Int) < (s.size : Int) := by omega
    have hj10 : (j : Int) < 10 := by omega
    have hx0 : 0 ≤ ((s[j].toNat : Nat) : Int) := by omega
    have hx1 : ((s[j].toNat : Nat) : Int) < 256 := by have := s[j].toNat_lt; omega
    have hand := u8_and127 _ hx0 hx1
    have hstep : Hid (bits .or .i64 x (wrap64 (((s[j].toNat : Nat) : Int) % 128 * 2 ^ (7 * j))) = wrap64 (gv ((nums s).take (j + 1)) : Nat)) := by
      show bits .or .i64 x (wrap64 (((s[j].toNat : Nat) : Int) % 128 * 2 ^ (7 * j))) = wrap64 (gv ((nums s).take (j + 1)) : Nat)
      rw [HX.out]
      exact i64_group (nums s) j (by rw [nums_length]; omega) (by omega) _ (nums_getD s j (by omega))
    by_cases hlt : j < k
    · have hbj := HP.out j hlt
      go_wp2_with fail
      go_round
      case rel => exact ⟨j + 1, _, by omega, rfl, by go_num, hstep.out⟩
      case measure => simp [intOf]; omega
    · obtain rfl : j = k := by omega
      have hb8 : ¬ (128 : Int) ≤ ((s[j].toNat : Nat) : Int) := by have := HL.out; omega
      obtain ⟨q, hq⟩ : ∃ q, wrap64 (gv ((nums s).take (j + 1)) : Nat) = q := ⟨_, rfl⟩
      have hstep2 : bits .or .i64 x (wrap64 (((s[j].toNat : Nat) : Int) % 128 * 2 ^ (7 * j))) = q := hstep.out.trans hq
      have hfin2 : bits .or .i64 q (wrap64 (-(2 ^ (7 * j + 7)))) = v := by rw [← hq]; exact HV.out
      clear hq
      have hj9 : (j : Int) < 9 := by omega
      have hand6 : bits .and .u8 ((s[j].toNat : Nat) : Int) 64 = 64 := by rw [u8_and64 _ hx0 (by omega), if_pos (by omega)]
      have hst : ((j : Int) + 1).toNat = j + 1 := by omega
      have hsum : IntKind.i64.wrap ((j : Int) + 1) = (j : Int) + 1 := by rw [IntKind.wrap_i64]; omega
      go_wp2_with fail
      go_region_held3 (fun _ => True) (trivial)
        (first | (go_at_call 39; refine (C2.out _).mono ?_; rintro e w1 ⟨rfl, hb⟩))
      all_goals
        clear hsum hst
        go_wp2_with fail
        go_ret3
        exact ⟨rfl, hb.of_drew⟩

set_option maxRecDepth 100000 in
set_option maxHeartbeats 1000000 in
theorem specGetSleb_none (s : ByteArray) (w : World) (hpre : ∀ j, (h : j < s.size) → j < 10 → 128 ≤ ((s[j]'h).toNat : Int)) (hsz : (s.size : Int) ≤ 4294967296) :
    Calls Tryd.prog 46 #[.string s] w fun e w' => e = .returned (.tuple #[.int .i64 0, .int .i64 0, .bool false]) ∧ Below w.heap.size w w' := by
  have HP := Lib.hid hpre
  clear hpre
  go_enter Tryd.func46, Tryd.ntmps46
  go_wp2_with fail
  go_loop [5, 6] (fun v i => ∃ (j : Nat) (x : Int), (j ≤ 10 ∧ j ≤ s.size) ∧ v = .int .i64 x ∧ i = .int .i64 j) (fun _ i => 11 - (intOf i).toNat)
  case atStart => exact ⟨0, 0, by omega, rfl, rfl⟩
  case round =>
    obtain ⟨j, x, ⟨hj, hj2⟩, rfl, rfl⟩ := hrel
    by_cases hlt : j < s.size
    · have hjs : (j : Int) < (s.size : Int) := by omega
      by_cases hlt9 : j < 10
      · have hj9 : (j : Int) < 10 := by omega
        have hx0 : 0 ≤ ((s[j].toNat : Nat) : Int) := by omega
        have hx1 : ((s[j].toNat : Nat) : Int) < 256 := by have := s[j].toNat_lt; omega
        have hand := u8_and127 _ hx0 hx1
        have hbj := HP.out j hlt hlt9
        go_wp2_with fail
        go_round
        case rel => exact ⟨j + 1, _, by omega, rfl, by go_num⟩
        case measure => simp [intOf]; omega
      · have hj9 : ¬ (j : Int) < 10 := by omega
        go_wp2_with fail
        go_ret3
        exact ⟨rfl, Below.refl _ _⟩
    · have hjs : ¬ (j : Int) < (s.size : Int) := by omega
      go_wp2_with fail
      go_ret3
      exact ⟨rfl, Below.refl _ _⟩
end Go.Proofs.YtbjcldekapipaaaDoor
