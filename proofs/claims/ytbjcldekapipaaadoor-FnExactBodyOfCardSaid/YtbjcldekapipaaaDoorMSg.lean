/-
  SpecGetLeb, SpecGetSleb, ImplGetLeb, ImplGetSleb: in one text.
-/
import Derived.Test.YtbjcldekapipaaaDoorMLb
import Derived.Test.YtbjcldekapipaaaDoorSpecPutLeb
import Derived.Deep.RegionHeld3
namespace Go.Proofs.YtbjcldekapipaaaDoor
open Go.ChangeShapes Go.WideShapes Go.ChangeAt Go.RowKit

theorem extract_data' (s : ByteArray) (a b : Nat) : (s.extract a b).data.toList = (s.data.toList.drop a).take (b - a) := by
  obtain ⟨⟨l⟩⟩ := s
  rw [ByteArray.extract_mk]
theorem lebU_byte (n : Nat) : ∀ x ∈ lebU n, 0 ≤ x ∧ x < 256 := by
  induction n using Nat.strongRecOn with
  | _ n ih =>
    intro x hx
    by_cases h : n < 128
    · rw [lebU_small n h] at hx; simp at hx; omega
    · rw [lebU_big n (by omega)] at hx
      rcases List.mem_cons.1 hx with rfl | hx
      · omega
      · exact ih (n / 128) (by omega) x hx
theorem lebS_byte (n : Int) : ∀ x ∈ lebS n, 0 ≤ x ∧ x < 256 := by
  induction hk : n.natAbs using Nat.strongRecOn generalizing n with
  | _ k ih =>
    intro x hx
    by_cases h : -64 ≤ n ∧ n < 64
    · rw [lebS_small n h.1 h.2] at hx; simp at hx; omega
    · rw [lebS_big n (by omega)] at hx
      rcases List.mem_cons.1 hx with rfl | hx
      · omega
      · exact ih (n / 128).natAbs (by omega) (n / 128) rfl x hx
/-- A text of bytes against the head of a string. -/
theorem cmp_extract (L : List Int) (hL : ∀ x ∈ L, 0 ≤ x ∧ x < 256) (s : ByteArray) (m : Nat) : ((strOfNums L).toList == (s.extract 0 m).toList) = decide (L = (nums s).take m) := by
  rw [ByteArray.toList_eq, ByteArray.toList_eq, strOfNums_data, extract_data', Bool.eq_iff_iff, beq_iff_eq, decide_eq_true_iff]
  simp only [List.drop_zero, Nat.sub_zero]
  constructor
  · intro h
    have h2 := congrArg (List.map fun b : UInt8 => (b.toNat : Int)) h
    rw [List.map_map, List.map_take] at h2
    rw [show (nums s).take m = (s.data.toList.map fun b : UInt8 => (b.toNat : Int)).take m from rfl, ← h2]
    have h3 : L.map (fun x => x) = L := List.map_id' L
    conv => lhs; rw [← h3]
    apply List.map_congr_left
    intro x hx
    have := hL x hx
    simp only [Function.comp]
    rw [UInt8.toNat_ofNat']
    omega
  · intro h
    rw [h, nums, ← List.map_take, List.map_map]
    conv => rhs; rw [← List.map_id' (s.data.toList.take m)]
    apply List.map_congr_left
    intro b _
    simp

theorem _root_.Go.RowKit.Below.of_drew {w w1 : World} (h : Below w.drew.heap.size w.drew w1) : Below w.heap.size w w1 := (Below.refl _ _).drew.trans h

set_option maxRecDepth 100000 in
set_option maxHeartbeats 1000000 in
theorem specGetLeb_yes (s : ByteArray) (k : Nat) (w : World) (hk : k < s.size) (hk9 : k < 9) (hpre : ∀ j, (h : j < k) → 128 ≤ ((s[j]'(by omega)).toNat : Int)) (hlast : (s[k].toNat : Int) < 128) (hsz : (s.size : Int) ≤ 4294967296) (heq : lebU (gv ((nums s).take (k + 1))) = (nums s).take (k + 1)) :
    Calls Tryd.prog 47 #[.string s] w fun e w' => e = .returned (.tuple #[.int .i64 (gv ((nums s).take (k + 1)) : Nat), .int .i64 ((k : Int) + 1), .bool true]) ∧ Below w.heap.size w w' := by
  have hv9 := gv9 ((nums s).take (k + 1)) (by rw [List.length_take]; omega)
  have C1 : Hid (∀ W, Calls Tryd.prog 66 #[.string s] W fun e w' => e = .returned (.tuple #[.int .i64 (gv ((nums s).take (k + 1)) : Nat), .int .i64 ((k : Int) + 1)]) ∧ W = w') := fun W => l01Leb_yes s k W hk hk9 hpre hlast hsz
  have C2 : Hid (∀ W, Calls Tryd.prog 40 #[.int .i64 (gv ((nums s).take (k + 1)) : Nat)] W fun e w' => e = .returned (.string (strOfNums (lebU (gv ((nums s).take (k + 1)))))) ∧ Below W.heap.size W w') := fun W => specPutLeb_any _ W (by omega)
  have hcmp : ((strOfNums (lebU (gv ((nums s).take (k + 1))))).toList == (s.extract 0 (k + 1)).toList) = true := by
    rw [cmp_extract _ (lebU_byte _)]; simpa using heq
  generalize strOfNums (lebU (gv ((nums s).take (k + 1)))) = p at *
  generalize gv ((nums s).take (k + 1)) = v at *
  have hks : (k : Int) + 1 ≤ (s.size : Int) := by omega
  have hk0 : (0 : Int) ≤ (k : Int) + 1 := by omega
  have hkz : (((k : Int) + 1) == 0) = false := by rw [beq_eq_false_iff_ne]; omega
  have hk9i : (k : Int) < 9 := by omega
  clear hv9 heq hpre hlast
  go_enter Tryd.func47, Tryd.ntmps47
  go_wp2_with fail
  go_at_call 66
  refine (C1.out _).mono ?_
  rintro e w' ⟨rfl, rfl⟩
  go_wp2_with fail
  go_region_held3 (fun _ => True) (trivial)
    (first | (go_at_call 40; refine (C2.out _).mono ?_; rintro e w1 ⟨rfl, hb⟩))
  all_goals
    go_wp2_with fail
    go_ret3
    exact ⟨rfl, hb.of_drew⟩

set_option maxRecDepth 100000 in
set_option maxHeartbeats 1000000 in
theorem specGetLeb_no (s : ByteArray) (k : Nat) (w : World) (hk : k < s.size) (hk9 : k < 9) (hpre : ∀ j, (h : j < k) → 128 ≤ ((s[j]'(by omega)).toNat : Int)) (hlast : (s[k].toNat : Int) < 128) (hsz : (s.size : Int) ≤ 4294967296) (heq : ¬ lebU (gv ((nums s).take (k + 1))) = (nums s).take (k + 1)) :
    Calls Tryd.prog 47 #[.string s] w fun e w' => e = .returned (.tuple #[.int .i64 0, .int .i64 0, .bool false]) ∧ Below w.heap.size w w' := by
  have hv9 := gv9 ((nums s).take (k + 1)) (by rw [List.length_take]; omega)
  have C1 : Hid (∀ W, Calls Tryd.prog 66 #[.string s] W fun e w' => e = .returned (.tuple #[.int .i64 (gv ((nums s).take (k + 1)) : Nat), .int .i64 ((k : Int) + 1)]) ∧ W = w') := fun W => l01Leb_yes s k W hk hk9 hpre hlast hsz
  have C2 : Hid (∀ W, Calls Tryd.prog 40 #[.int .i64 (gv ((nums s).take (k + 1)) : Nat)] W fun e w' => e = .returned (.string (strOfNums (lebU (gv ((nums s).take (k + 1)))))) ∧ Below W.heap.size W w') := fun W => specPutLeb_any _ W (by omega)
  have hcmp : ((strOfNums (lebU (gv ((nums s).take (k + 1))))).toList == (s.extract 0 (k + 1)).toList) = false := by
    rw [cmp_extract _ (lebU_byte _)]; simpa using heq
  generalize strOfNums (lebU (gv ((nums s).take (k + 1)))) = p at *
  generalize gv ((nums s).take (k + 1)) = v at *
  have hks : (k : Int) + 1 ≤ (s.size : Int) := by omega
  have hk0 : (0 : Int) ≤ (k : Int) + 1 := by omega
  have hkz : (((k : Int) + 1) == 0) = false := by rw [beq_eq_false_iff_ne]; omega
  have hk9i : (k : Int) < 9 := by omega
  clear hv9 heq hpre hlast
  go_enter Tryd.func47, Tryd.ntmps47
  go_wp2_with fail
  go_at_call 66
  refine (C1.out _).mono ?_
  rintro e w' ⟨rfl, rfl⟩
  go_wp2_with fail
  go_region_held3 (fun _ => True) (trivial)
    (first | (go_at_call 40; refine (C2.out _).mono ?_; rintro e w1 ⟨rfl, hb⟩))
  all_goals
    go_wp2_with fail
    go_ret3
    exact ⟨rfl, hb.of_drew⟩

set_option maxRecDepth 100000 in
set_option maxHeartbeats 1000000 in
theorem specGetLeb_none (s : ByteArray) (w : World) (hpre : ∀ j, (h : j < s.size) → j < 9 → 128 ≤ ((s[j]'h).toNat : Int)) (hsz : (s.size : Int) ≤ 4294967296) :
    Calls Tryd.prog 47 #[.string s] w fun e w' => e = .returned (.tuple #[.int .i64 0, .int .i64 0, .bool false]) ∧ Below w.heap.size w w' := by
  have C1 : Hid (∀ W, Calls Tryd.prog 66 #[.string s] W fun e w' => e = .returned (.tuple #[.int .i64 0, .int .i64 0]) ∧ W = w') := fun W => l01Leb_no s W hpre hsz
  clear hpre
  go_enter Tryd.func47, Tryd.ntmps47
  go_wp2_with fail
  go_at_call 66
  refine (C1.out _).mono ?_
  rintro e w' ⟨rfl, rfl⟩
  go_wp2_with fail
  go_quiet (fail)
  go_wp2_with fail
  go_ret3
  exact ⟨rfl, ⟨rfl, rfl, rfl, Nat.le_refl _, fun _ _ => rfl⟩⟩
end Go.Proofs.YtbjcldekapipaaaDoor

namespace Go.Proofs.YtbjcldekapipaaaDoor
open Go.ChangeShapes Go.WideShapes Go.ChangeAt Go.RowKit
set_option linter.unusedVariables false

theorem u8_and64 (b : Int) (h0 : 0 ≤ b) (h1 : b < 128) : bits .and .u8 b 64 = if 64 ≤ b then 64 else 0 := by
  obtain ⟨a, rfl⟩ := Int.eq_ofNat_of_zero_le h0
  rw [u8_and _ _ h0 (by omega) (by decide) (by decide)]
  have e : (a : Int).toNat = a := rfl
  have e2 : (64 : Int).toNat = 64 := rfl
  rw [e, e2]
  have : ∀ a : Fin 128, a.val &&& 64 = if 64 ≤ a.val then 64 else 0 := by decide +kernel
  have h := this ⟨a, by omega⟩
  simp only at h
  rw [h]
  split <;> rename_i h2
  · rw [if_pos (by omega)]; rfl
  · rw [if_neg (by omega)]; rfl
theorem i64_or_neg (a i : Nat) (ha : a < 2 ^ i) (hi : i ≤ 64) : bits .or .i64 (wrap64 (a : Int)) (wrap64 (-(2 ^ i : Int))) = wrap64 ((a : Int) - 2 ^ i) := by
  have hp : (2 : Nat) ^ 64 = 2 ^ (64 - i) * 2 ^ i := by rw [← Nat.pow_add]; congr 1; omega
  have h1 : 1 ≤ 2 ^ (64 - i) := Nat.pow_pos (by decide)
  have hc : (2 ^ (64 - i) - 1) * 2 ^ i + 2 ^ i = 2 ^ 64 := by
    rw [hp, ← Nat.succ_mul]; congr 1; omega
  have h64 : (2 : Nat) ^ 64 = 18446744073709551616 := by decide
  have hj := i64_or_join a (2 ^ (64 - i) - 1) i ha hi
  generalize (2 ^ (64 - i) - 1) * 2 ^ i = q at *
  have hcast : ((2 ^ i : Nat) : Int) = (2 : Int) ^ i := by simp
  have e1 : wrap64 (-(2 ^ i : Int)) = wrap64 ((q : Nat) : Int) := by
    rw [← hcast]; unfold wrap64; omega
  have e2 : wrap64 ((a : Int) - 2 ^ i) = wrap64 ((a + q : Nat) : Int) := by
    rw [← hcast]; unfold wrap64; omega
  rw [e1, e2, hj]
/-- The number of an encoding: the last group's bit 6 is its sign. -/
def sv (l : List Int) (b : Int) : Int := wrap64 ((gv l : Int) - if 64 ≤ b then 2 ^ (7 * l.length) else 0)
theorem wrap64_bd (z : Int) : -9223372036854775808 ≤ wrap64 z ∧ wrap64 z ≤ 9223372036854775807 := by unfold wrap64; omega

set_option maxRecDepth 100000 in
set_option maxHeartbeats 2000000 in
theorem specGetSleb_pos_yes (s : ByteArray) (k : Nat) (w : World) (hk : k < s.size) (hk10 : k < 10) (hpre : ∀ j, (h : j < k) → 128 ≤ ((s[j]'(by omega)).toNat : Int)) (hlast : (s[k].toNat : Int) < 128) (hsz : (s.size : Int) ≤ 4294967296) (v : Int) (hv0 : -9223372036854775808 ≤ v) (hv1 : v ≤ 9223372036854775807) (hk9 : k < 9) (hb64 : (s[k].toNat : Int) < 64) (hfin : wrap64 (gv ((nums s).take (k + 1)) : Nat) = v) (heq : lebS v = (nums s).take (k + 1)) :
    Calls Tryd.prog 46 #[.string s] w fun e w' => e = .returned (.tuple #[.int .i64 v, .int .i64 ((k : Int) + 1), .bool true]) ∧ Below w.heap.size w w' := by
  have HP := Lib.hid hpre
  have HL := Lib.hid hlast
  have C2 : Hid (∀ W, Calls Tryd.prog 39 #[.int .i64 v] W fun e w' => e = .returned (.string (strOfNums (lebS v))) ∧ Below W.heap.size W w') := fun W => specPutSleb_any v W hv0 hv1
  have hcmp : ((strOfNums (lebS v)).toList == (s.extract 0 (k + 1)).toList) = true := by
    rw [cmp_extract _ (lebS_byte _)]; simpa using heq
  generalize strOfNums (lebS v) = p at *
  have HV := Lib.hid hfin
  have hks : (k : Int) + 1 ≤ (s.size : Int) := by omega
  have hk0 : (0 : Int) ≤ (k : Int) + 1 := by omega
  clear hpre hlast heq hfin
  go_enter Tryd.func46, Tryd.ntmps46
  go_wp2_with fail
  go_loop [5, 6] (fun vv i => ∃ (j : Nat) (x : Int), j ≤ k ∧ vv = .int .i64 x ∧ i = .int .i64 j ∧ x = wrap64 (gv ((nums s).take j) : Nat)) (fun _ i => 11 - (intOf i).toNat)
  case atStart => exact ⟨0, 0, by omega, rfl, rfl, by simp [gv, wrap64]⟩
  case round =>
    obtain ⟨j, x, hj, rfl, rfl, hx⟩ := hrel
    have HX := Lib.hid hx
    clear hx
    have hjs : (j : Int) < (s.size : Int) := by omega
    have hj10 : (j : Int) < 10 := by omega
    have hx0 : 0 ≤ ((s[j].toNat : Nat) : Int) := by omega
    have hx1 : ((s[j].toNat : Nat) : Int) < 256 := by have := s[j].toNat_lt; omega
    have hand := u8_and127 _ hx0 hx1
    have hstep : Hid (bits .or .i64 x (wrap64 (((s[j].toNat : Nat) : Int) % 128 * 2 ^ (7 * j))) = wrap64 (gv ((nums s).take (j + 1)) : Nat)) := by
      show bits .or .i64 x (wrap64 (((s[j].toNat : Nat) : Int) % 128 * 2 ^ (7 * j))) = wrap64 (gv ((nums s).take (j + 1)) : Nat)
      rw [HX.out]
      exact i64_group (nums s) j (by rw [nums_length]; omega) (by omega) _ (nums_getD s j (by omega))
    by_cases hlt : j < k
    · have hbj := HP.out j hlt
      go_wp2_with fail
      go_round
      case rel => exact ⟨j + 1, _, by omega, rfl, by go_num, hstep.out⟩
      case measure => simp [intOf]; omega
    · obtain rfl : j = k := by omega
      have hb8 : ¬ (128 : Int) ≤ ((s[j].toNat : Nat) : Int) := by have := HL.out; omega
      have hstep2 : bits .or .i64 x (wrap64 (((s[j].toNat : Nat) : Int) % 128 * 2 ^ (7 * j))) = v := hstep.out.trans HV.out
      have hj9 : (j : Int) < 9 := by omega
      have hand6 : bits .and .u8 ((s[j].toNat : Nat) : Int) 64 = 0 := by rw [u8_and64 _ hx0 (by omega), if_neg (by omega)]
      have hst : ((j : Int) + 1).toNat = j + 1 := by omega
      have hsum : IntKind.i64.wrap ((j : Int) + 1) = (j : Int) + 1 := by rw [IntKind.wrap_i64]; omega
      go_wp2_with fail
      go_region_held3 (fun _ => True) (trivial)
        (first | (go_at_call 39; refine (C2.out _).mono ?_; rintro e w1 ⟨rfl, hb⟩))
      all_goals
        clear hsum hst
        go_wp2_with fail
        go_ret3
        exact ⟨rfl, hb.of_drew⟩

set_option maxRecDepth 100000 in
set_option maxHeartbeats 2000000 in
theorem specGetSleb_last_yes (s : ByteArray) (k : Nat) (w : World) (hk : k < s.size) (hk10 : k < 10) (hpre : ∀ j, (h : j < k) → 128 ≤ ((s[j]'(by omega)).toNat : Int)) (hlast : (s[k].toNat : Int) < 128) (hsz : (s.size : Int) ≤ 4294967296) (v : Int) (hv0 : -9223372036854775808 ≤ v) (hv1 : v ≤ 9223372036854775807) (hk9 : 9 ≤ k) (hfin : wrap64 (gv ((nums s).take (k + 1)) : Nat) = v) (heq : lebS v = (nums s).take (k + 1)) :
    Calls Tryd.prog 46 #[.string s] w fun e w' => e = .returned (.tuple #[.int .i64 v, .int .i64 ((k : Int) + 1), .bool true]) ∧ Below w.heap.size w w' := by
  have HP := Lib.hid hpre
  have HL := Lib.hid hlast
  have C2 : Hid (∀ W, Calls Tryd.prog 39 #[.int .i64 v] W fun e w' => e = .returned (.string (strOfNums (lebS v))) ∧ Below W.heap.size W w') := fun W => specPutSleb_any v W hv0 hv1
  have hcmp : ((strOfNums (lebS v)).toList == (s.extract 0 (k + 1)).toList) = true := by
    rw [cmp_extract _ (lebS_byte _)]; simpa using heq
  generalize strOfNums (lebS v) = p at *
  have HV := Lib.hid hfin
  have hks : (k : Int) + 1 ≤ (s.size : Int) := by omega
  have hk0 : (0 : Int) ≤ (k : Int) + 1 := by omega
  clear hpre hlast heq hfin
  go_enter Tryd.func46, Tryd.ntmps46
  go_wp2_with fail
  go_loop [5, 6] (fun vv i => ∃ (j : Nat) (x : Int), j ≤ k ∧ vv = .int .i64 x ∧ i = .int .i64 j ∧ x = wrap64 (gv ((nums s).take j) : Nat)) (fun _ i => 11 - (intOf i).toNat)
  case atStart => exact ⟨0, 0, by omega, rfl, rfl, by simp [gv, wrap64]⟩
  case round =>
    obtain ⟨j, x, hj, rfl, rfl, hx⟩ := hrel
    have HX := Lib.hid hx
    clear hx
    have hjs : (j : Int) < (s.size : Int) := by omega
    have hj10 : (j : Int) < 10 := by omega
    have hx0 : 0 ≤ ((s[j].toNat : Nat) : Int) := by omega
    have hx1 : ((s[j].toNat : Nat) : Int) < 256 := by have := s[j].toNat_lt; omega
    have hand := u8_and127 _ hx0 hx1
    have hstep : Hid (bits .or .i64 x (wrap64 (((s[j].toNat : Nat) : Int) % 128 * 2 ^ (7 * j))) = wrap64 (gv ((nums s).take (j + 1)) : Nat)) := by
      show bits .or .i64 x (wrap64 (((s[j].toNat : Nat) : Int) % 128 * 2 ^ (7 * j))) = wrap64 (gv ((nums s).take (j + 1)) : Nat)
      rw [HX.out]
      exact i64_group (nums s) j (by rw [nums_length]; omega) (by omega) _ (nums_getD s j (by omega))
    by_cases hlt : j < k
    · have hbj := HP.out j hlt
      go_wp2_with fail
      go_round
      case rel => exact ⟨j + 1, _, by omega, rfl, by go_num, hstep.out⟩
      case measure => simp [intOf]; omega
    · obtain rfl : j = k := by omega
      have hb8 : ¬ (128 : Int) ≤ ((s[j].toNat : Nat) : Int) := by have := HL.out; omega
      have hstep2 : bits .or .i64 x (wrap64 (((s[j].toNat : Nat) : Int) % 128 * 2 ^ (7 * j))) = v := hstep.out.trans HV.out
      have hj9 : ¬ (j : Int) < 9 := by omega
      have hst : ((j : Int) + 1).toNat = j + 1 := by omega
      have hsum : IntKind.i64.wrap ((j : Int) + 1) = (j : Int) + 1 := by rw [IntKind.wrap_i64]; omega
      go_wp2_with fail
      go_region_held3 (fun _ => True) (trivial)
        (first | (go_at_call 39; refine (C2.out _).mono ?_; rintro e w1 ⟨rfl, hb⟩))
      all_goals
        clear hsum hst
        go_wp2_with fail
        go_ret3
        exact ⟨rfl, hb.of_drew⟩

set_option maxRecDepth 100000 in
set_option maxHeartbeats 2000000 in
theorem specGetSleb_neg_yes (s : ByteArray) (k : Nat) (w : World) (hk : k < s.size) (hk10 : k < 10) (hpre : ∀ j, (h : j < k) → 128 ≤ ((s[j]'(by omega)).toNat : Int)) (hlast : (s[k].toNat : Int) < 128) (hsz : (s.size : Int) ≤ 4294967296) (v : Int) (hv0 : -9223372036854775808 ≤ v) (hv1 : v ≤ 9223372036854775807) (hk9 : k < 9) (hb64 : 64 ≤ (s[k].toNat : Int)) (hfin : bits .or .i64 (wrap64 (gv ((nums s).take (k + 1)) : Nat)) (wrap64 (-(2 ^ (7 * k + 7)))) = v) (heq : lebS v = (nums s).take (k + 1)) :
    Calls Tryd.prog 46 #[.string s] w fun e w' => e = .returned (.tuple #[.int .i64 v, .int .i64 ((k : Int) + 1), .bool true]) ∧ Below w.heap.size w w' := by
  have HP := Lib.hid hpre
  have HL := Lib.hid hlast
  have C2 : Hid (∀ W, Calls Tryd.prog 39 #[.int .i64 v] W fun e w' => e = .returned (.string (strOfNums (lebS v))) ∧ Below W.heap.size W w') := fun W => specPutSleb_any v W hv0 hv1
  have hcmp : ((strOfNums (lebS v)).toList == (s.extract 0 (k + 1)).toList) = true := by
    rw [cmp_extract _ (lebS_byte _)]; simpa using heq
  generalize strOfNums (lebS v) = p at *
  have HV := Lib.hid hfin
  have hks : (k : Int) + 1 ≤ (s.size : Int) := by omega
  have hk0 : (0 : Int) ≤ (k : Int) + 1 := by omega
  clear hpre hlast heq hfin
  go_enter Tryd.func46, Tryd.ntmps46
  go_wp2_with fail
  go_loop [5, 6] (fun vv i => ∃ (j : Nat) (x : Int), j ≤ k ∧ vv = .int .i64 x ∧ i = .int .i64 j ∧ x = wrap64 (gv ((nums s).take j) : Nat)) (fun _ i => 11 - (intOf i).toNat)
  case atStart => exact ⟨0, 0, by omega, rfl, rfl, by simp [gv, wrap64]⟩
  case round =>
    obtain ⟨j, x, hj, rfl, rfl, hx⟩ := hrel
    have HX := Lib.hid hx
    clear hx
    have hjs : (j : Int) < (s.size : Int) := by omega
    have hj10 : (j : Int) < 10 := by omega
    have hx0 : 0 ≤ ((s[j].toNat : Nat) : Int) := by omega
    have hx1 : ((s[j].toNat : Nat) : Int) < 256 := by have := s[j].toNat_lt; omega
    have hand := u8_and127 _ hx0 hx1
    have hstep : Hid (bits .or .i64 x (wrap64 (((s[j].toNat : Nat) : Int) % 128 * 2 ^ (7 * j))) = wrap64 (gv ((nums s).take (j + 1)) : Nat)) := by
      show bits .or .i64 x (wrap64 (((s[j].toNat : Nat) : Int) % 128 * 2 ^ (7 * j))) = wrap64 (gv ((nums s).take (j + 1)) : Nat)
      rw [HX.out]
      exact i64_group (nums s) j (by rw [nums_length]; omega) (by omega) _ (nums_getD s j (by omega))
    by_cases hlt : j < k
    · have hbj := HP.out j hlt
      go_wp2_with fail
      go_round
      case rel => exact ⟨j + 1, _, by omega, rfl, by go_num, hstep.out⟩
      case measure => simp [intOf]; omega
    · obtain rfl : j = k := by omega
      have hb8 : ¬ (128 : Int) ≤ ((s[j].toNat : Nat) : Int) := by have := HL.out; omega
      obtain ⟨q, hq⟩ : ∃ q, wrap64 (gv ((nums s).take (j + 1)) : Nat) = q := ⟨_, rfl⟩
      have hstep2 : bits .or .i64 x (wrap64 (((s[j].toNat : Nat) : Int) % 128 * 2 ^ (7 * j))) = q := hstep.out.trans hq
      have hfin2 : bits .or .i64 q (wrap64 (-(2 ^ (7 * j + 7)))) = v := by rw [← hq]; exact HV.out
      clear hq
      have hj9 : (j : Int) < 9 := by omega
      have hand6 : bits .and .u8 ((s[j].toNat : Nat) : Int) 64 = 64 := by rw [u8_and64 _ hx0 (by omega), if_pos (by omega)]
      have hst : ((j : Int) + 1).toNat = j + 1 := by omega
      have hsum : IntKind.i64.wrap ((j : Int) + 1) = (j : Int) + 1 := by rw [IntKind.wrap_i64]; omega
      go_wp2_with fail
      go_region_held3 (fun _ => True) (trivial)
        (first | (go_at_call 39; refine (C2.out _).mono ?_; rintro e w1 ⟨rfl, hb⟩))
      all_goals
        clear hsum hst
        go_wp2_with fail
        go_ret3
        exact ⟨rfl, hb.of_drew⟩

set_option maxRecDepth 100000 in
set_option maxHeartbeats 2000000 in
theorem specGetSleb_pos_no (s : ByteArray) (k : Nat) (w : World) (hk : k < s.size) (hk10 : k < 10) (hpre : ∀ j, (h : j < k) → 128 ≤ ((s[j]'(by omega)).toNat : Int)) (hlast : (s[k].toNat : Int) < 128) (hsz : (s.size : Int) ≤ 4294967296) (v : Int) (hv0 : -9223372036854775808 ≤ v) (hv1 : v ≤ 9223372036854775807) (hk9 : k < 9) (hb64 : (s[k].toNat : Int) < 64) (hfin : wrap64 (gv ((nums s).take (k + 1)) : Nat) = v) (heq : ¬ lebS v = (nums s).take (k + 1)) :
    Calls Tryd.prog 46 #[.string s] w fun e w' => e = .returned (.tuple #[.int .i64 0, .int .i64 0, .bool false]) ∧ Below w.heap.size w w' := by
  have HP := Lib.hid hpre
  have HL := Lib.hid hlast
  have C2 : Hid (∀ W, Calls Tryd.prog 39 #[.int .i64 v] W fun e w' => e = .returned (.string (strOfNums (lebS v))) ∧ Below W.heap.size W w') := fun W => specPutSleb_any v W hv0 hv1
  have hcmp : ((strOfNums (lebS v)).toList == (s.extract 0 (k + 1)).toList) = false := by
    rw [cmp_extract _ (lebS_byte _)]; simpa using heq
  generalize strOfNums (lebS v) = p at *
  have HV := Lib.hid hfin
  have hks : (k : Int) + 1 ≤ (s.size : Int) := by omega
  have hk0 : (0 : Int) ≤ (k : Int) + 1 := by omega
  clear hpre hlast heq hfin
  go_enter Tryd.func46, Tryd.ntmps46
  go_wp2_with fail
  go_loop [5, 6] (fun vv i => ∃ (j : Nat) (x : Int), j ≤ k ∧ vv = .int .i64 x ∧ i = .int .i64 j ∧ x = wrap64 (gv ((nums s).take j) : Nat)) (fun _ i => 11 - (intOf i).toNat)
  case atStart => exact ⟨0, 0, by omega, rfl, rfl, by simp [gv, wrap64]⟩
  case round =>
    obtain ⟨j, x, hj, rfl, rfl, hx⟩ := hrel
    have HX := Lib.hid hx
    clear hx
    have hjs : (j : Int) < (s.size : Int) := by omega
    have hj10 : (j : Int) < 10 := by omega
    have hx0 : 0 ≤ ((s[j].toNat : Nat) : Int) := by omega
    have hx1 : ((s[j].toNat : Nat) : Int) < 256 := by have := s[j].toNat_lt; omega
    have hand := u8_and127 _ hx0 hx1
    have hstep : Hid (bits .or .i64 x (wrap64 (((s[j].toNat : Nat) : Int) % 128 * 2 ^ (7 * j))) = wrap64 (gv ((nums s).take (j + 1)) : Nat)) := by
      show bits .or .i64 x (wrap64 (((s[j].toNat : Nat) : Int) % 128 * 2 ^ (7 * j))) = wrap64 (gv ((nums s).take (j + 1)) : Nat)
      rw [HX.out]
      exact i64_group (nums s) j (by rw [nums_length]; omega) (by omega) _ (nums_getD s j (by omega))
    by_cases hlt : j < k
    · have hbj := HP.out j hlt
      go_wp2_with fail
      go_round
      case rel => exact ⟨j + 1, _, by omega, rfl, by go_num, hstep.out⟩
      case measure => simp [intOf]; omega
    · obtain rfl : j = k := by omega
      have hb8 : ¬ (128 : Int) ≤ ((s[j].toNat : Nat) : Int) := by have := HL.out; omega
      have hstep2 : bits .or .i64 x (wrap64 (((s[j].toNat : Nat) : Int) % 128 * 2 ^ (7 * j))) = v := hstep.out.trans HV.out
      have hj9 : (j : Int) < 9 := by omega
      have hand6 : bits .and .u8 ((s[j].toNat : Nat) : Int) 64 = 0 := by rw [u8_and64 _ hx0 (by omega), if_neg (by omega)]
      have hst : ((j : Int) + 1).toNat = j + 1 := by omega
      have hsum : IntKind.i64.wrap ((j : Int) + 1) = (j : Int) + 1 := by rw [IntKind.wrap_i64]; omega
      go_wp2_with fail
      go_region_held3 (fun _ => True) (trivial)
        (first | (go_at_call 39; refine (C2.out _).mono ?_; rintro e w1 ⟨rfl, hb⟩))
      all_goals
        clear hsum hst
        go_wp2_with fail
        go_ret3
        exact ⟨rfl, hb.of_drew⟩

set_option maxRecDepth 100000 in
set_option maxHeartbeats 2000000 in
theorem specGetSleb_last_no (s : ByteArray) (k : Nat) (w : World) (hk : k < s.size) (hk10 : k < 10) (hpre : ∀ j, (h : j < k) → 128 ≤ ((s[j]'(by omega)).toNat : Int)) (hlast : (s[k].toNat : Int) < 128) (hsz : (s.size : Int) ≤ 4294967296) (v : Int) (hv0 : -9223372036854775808 ≤ v) (hv1 : v ≤ 9223372036854775807) (hk9 : 9 ≤ k) (hfin : wrap64 (gv ((nums s).take (k + 1)) : Nat) = v) (heq : ¬ lebS v = (nums s).take (k + 1)) :
    Calls Tryd.prog 46 #[.string s] w fun e w' => e = .returned (.tuple #[.int .i64 0, .int .i64 0, .bool false]) ∧ Below w.heap.size w w' := by
  have HP := Lib.hid hpre
  have HL := Lib.hid hlast
  have C2 : Hid (∀ W, Calls Tryd.prog 39 #[.int .i64 v] W fun e w' => e = .returned (.string (strOfNums (lebS v))) ∧ Below W.heap.size W w') := fun W => specPutSleb_any v W hv0 hv1
  have hcmp : ((strOfNums (lebS v)).toList == (s.extract 0 (k + 1)).toList) = false := by
    rw [cmp_extract _ (lebS_byte _)]; simpa using heq
  generalize strOfNums (lebS v) = p at *
  have HV := Lib.hid hfin
  have hks : (k : Int) + 1 ≤ (s.size : Int) := by omega
  have hk0 : (0 : Int) ≤ (k : Int) + 1 := by omega
  clear hpre hlast heq hfin
  go_enter Tryd.func46, Tryd.ntmps46
  go_wp2_with fail
  go_loop [5, 6] (fun vv i => ∃ (j : Nat) (x : Int), j ≤ k ∧ vv = .int .i64 x ∧ i = .int .i64 j ∧ x = wrap64 (gv ((nums s).take j) : Nat)) (fun _ i => 11 - (intOf i).toNat)
  case atStart => exact ⟨0, 0, by omega, rfl, rfl, by simp [gv, wrap64]⟩
  case round =>
    obtain ⟨j, x, hj, rfl, rfl, hx⟩ := hrel
    have HX := Lib.hid hx
    clear hx
    have hjs : (j : Int) < (s.size : Int) := by omega
    have hj10 : (j : Int) < 10 := by omega
    have hx0 : 0 ≤ ((s[j].toNat : Nat) : Int) := by omega
    have hx1 : ((s[j].toNat : Nat) : Int) < 256 := by have := s[j].toNat_lt; omega
    have hand := u8_and127 _ hx0 hx1
    have hstep : Hid (bits .or .i64 x (wrap64 (((s[j].toNat : Nat) : Int) % 128 * 2 ^ (7 * j))) = wrap64 (gv ((nums s).take (j + 1)) : Nat)) := by
      show bits .or .i64 x (wrap64 (((s[j].toNat : Nat) : Int) % 128 * 2 ^ (7 * j))) = wrap64 (gv ((nums s).take (j + 1)) : Nat)
      rw [HX.out]
      exact i64_group (nums s) j (by rw [nums_length]; omega) (by omega) _ (nums_getD s j (by omega))
    by_cases hlt : j < k
    · have hbj := HP.out j hlt
      go_wp2_with fail
      go_round
      case rel => exact ⟨j + 1, _, by omega, rfl, by go_num, hstep.out⟩
      case measure => simp [intOf]; omega
    · obtain rfl : j = k := by omega
      have hb8 : ¬ (128 : Int) ≤ ((s[j].toNat : Nat) : Int) := by have := HL.out; omega
      have hstep2 : bits .or .i64 x (wrap64 (((s[j].toNat : Nat) : Int) % 128 * 2 ^ (7 * j))) = v := hstep.out.trans HV.out
      have hj9 : ¬ (j : Int) < 9 := by omega
      have hst : ((j : Int) + 1).toNat = j + 1 := by omega
      have hsum : IntKind.i64.wrap ((j : Int) + 1) = (j : Int) + 1 := by rw [IntKind.wrap_i64]; omega
      go_wp2_with fail
      go_region_held3 (fun _ => True) (trivial)
        (first | (go_at_call 39; refine (C2.out _).mono ?_; rintro e w1 ⟨rfl, hb⟩))
      all_goals
        clear hsum hst
        go_wp2_with fail
        go_ret3
        exact ⟨rfl, hb.of_drew⟩

set_option maxRecDepth 100000 in
set_option maxHeartbeats 2000000 in
theorem specGetSleb_neg_no (s : ByteArray) (k : Nat) (w : World) (hk : k < s.size) (hk10 : k < 10) (hpre : ∀ j, (h : j < k) → 128 ≤ ((s[j]'(by omega)).toNat : Int)) (hlast : (s[k].toNat : Int) < 128) (hsz : (s.size : Int) ≤ 4294967296) (v : Int) (hv0 : -9223372036854775808 ≤ v) (hv1 : v ≤ 9223372036854775807) (hk9 : k < 9) (hb64 : 64 ≤ (s[k].toNat : Int)) (hfin : bits .or .i64 (wrap64 (gv ((nums s).take (k + 1)) : Nat)) (wrap64 (-(2 ^ (7 * k + 7)))) = v) (heq : ¬ lebS v = (nums s).take (k + 1)) :
    Calls Tryd.prog 46 #[.string s] w fun e w' => e = .returned (.tuple #[.int .i64 0, .int .i64 0, .bool false]) ∧ Below w.heap.size w w' := by
  have HP := Lib.hid hpre
  have HL := Lib.hid hlast
  have C2 : Hid (∀ W, Calls Tryd.prog 39 #[.int .i64 v] W fun e w' => e = .returned (.string (strOfNums (lebS v))) ∧ Below W.heap.size W w') := fun W => specPutSleb_any v W hv0 hv1
  have hcmp : ((strOfNums (lebS v)).toList == (s.extract 0 (k + 1)).toList) = false := by
    rw [cmp_extract _ (lebS_byte _)]; simpa using heq
  generalize strOfNums (lebS v) = p at *
  have HV := Lib.hid hfin
  have hks : (k : Int) + 1 ≤ (s.size : Int) := by omega
  have hk0 : (0 : Int) ≤ (k : Int) + 1 := by omega
  clear hpre hlast heq hfin
  go_enter Tryd.func46, Tryd.ntmps46
  go_wp2_with fail
  go_loop [5, 6] (fun vv i => ∃ (j : Nat) (x : Int), j ≤ k ∧ vv = .int .i64 x ∧ i = .int .i64 j ∧ x = wrap64 (gv ((nums s).take j) : Nat)) (fun _ i => 11 - (intOf i).toNat)
  case atStart => exact ⟨0, 0, by omega, rfl, rfl, by simp [gv, wrap64]⟩
  case round =>
    obtain ⟨j, x, hj, rfl, rfl, hx⟩ := hrel
    have HX := Lib.hid hx
    clear hx
    have hjs : (j : Int) < (s.size : Int) := by omega
    have hj10 : (j : Int) < 10 := by omega
    have hx0 : 0 ≤ ((s[j].toNat : Nat) : Int) := by omega
    have hx1 : ((s[j].toNat : Nat) : Int) < 256 := by have := s[j].toNat_lt; omega
    have hand := u8_and127 _ hx0 hx1
    have hstep : Hid (bits .or .i64 x (wrap64 (((s[j].toNat : Nat) : Int) % 128 * 2 ^ (7 * j))) = wrap64 (gv ((nums s).take (j + 1)) : Nat)) := by
      show bits .or .i64 x (wrap64 (((s[j].toNat : Nat) : Int) % 128 * 2 ^ (7 * j))) = wrap64 (gv ((nums s).take (j + 1)) : Nat)
      rw [HX.out]
      exact i64_group (nums s) j (by rw [nums_length]; omega) (by omega) _ (nums_getD s j (by omega))
    by_cases hlt : j < k
    · have hbj := HP.out j hlt
      go_wp2_with fail
      go_round
      case rel => exact ⟨j + 1, _, by omega, rfl, by go_num, hstep.out⟩
      case measure => simp [intOf]; omega
    · obtain rfl : j = k := by omega
      have hb8 : ¬ (128 : Int) ≤ ((s[j].toNat : Nat) : Int) := by have := HL.out; omega
      obtain ⟨q, hq⟩ : ∃ q, wrap64 (gv ((nums s).take (j + 1)) : Nat) = q := ⟨_, rfl⟩
      have hstep2 : bits .or .i64 x (wrap64 (((s[j].toNat : Nat) : Int) % 128 * 2 ^ (7 * j))) = q := hstep.out.trans hq
      have hfin2 : bits .or .i64 q (wrap64 (-(2 ^ (7 * j + 7)))) = v := by rw [← hq]; exact HV.out
      clear hq
      have hj9 : (j : Int) < 9 := by omega
      have hand6 : bits .and .u8 ((s[j].toNat : Nat) : Int) 64 = 64 := by rw [u8_and64 _ hx0 (by omega), if_pos (by omega)]
      have hst : ((j : Int) + 1).toNat = j + 1 := by omega
      have hsum : IntKind.i64.wrap ((j : Int) + 1) = (j : Int) + 1 := by rw [IntKind.wrap_i64]; omega
      go_wp2_with fail
      go_region_held3 (fun _ => True) (trivial)
        (first | (go_at_call 39; refine (C2.out _).mono ?_; rintro e w1 ⟨rfl, hb⟩))
      all_goals
        clear hsum hst
        go_wp2_with fail
        go_ret3
        exact ⟨rfl, hb.of_drew⟩

set_option maxRecDepth 100000 in
set_option maxHeartbeats 1000000 in
theorem specGetSleb_none (s : ByteArray) (w : World) (hpre : ∀ j, (h : j < s.size) → j < 10 → 128 ≤ ((s[j]'h).toNat : Int)) (hsz : (s.size : Int) ≤ 4294967296) :
    Calls Tryd.prog 46 #[.string s] w fun e w' => e = .returned (.tuple #[.int .i64 0, .int .i64 0, .bool false]) ∧ Below w.heap.size w w' := by
  have HP := Lib.hid hpre
  clear hpre
  go_enter Tryd.func46, Tryd.ntmps46
  go_wp2_with fail
  go_loop [5, 6] (fun v i => ∃ (j : Nat) (x : Int), (j ≤ 10 ∧ j ≤ s.size) ∧ v = .int .i64 x ∧ i = .int .i64 j) (fun _ i => 11 - (intOf i).toNat)
  case atStart => exact ⟨0, 0, by omega, rfl, rfl⟩
  case round =>
    obtain ⟨j, x, ⟨hj, hj2⟩, rfl, rfl⟩ := hrel
    by_cases hlt : j < s.size
    · have hjs : (j : Int) < (s.size : Int) := by omega
      by_cases hlt9 : j < 10
      · have hj9 : (j : Int) < 10 := by omega
        have hx0 : 0 ≤ ((s[j].toNat : Nat) : Int) := by omega
        have hx1 : ((s[j].toNat : Nat) : Int) < 256 := by have := s[j].toNat_lt; omega
        have hand := u8_and127 _ hx0 hx1
        have hbj := HP.out j hlt hlt9
        go_wp2_with fail
        go_round
        case rel => exact ⟨j + 1, _, by omega, rfl, by go_num⟩
        case measure => simp [intOf]; omega
      · have hj9 : ¬ (j : Int) < 10 := by omega
        go_wp2_with fail
        go_ret3
        exact ⟨rfl, Below.refl _ _⟩
    · have hjs : ¬ (j : Int) < (s.size : Int) := by omega
      go_wp2_with fail
      go_ret3
      exact ⟨rfl, Below.refl _ _⟩
end Go.Proofs.YtbjcldekapipaaaDoor

namespace Go.Proofs.YtbjcldekapipaaaDoor
open Go.ChangeShapes Go.WideShapes Go.ChangeAt Go.RowKit

theorem pd_byte (s : ByteArray) (m j : Nat) : 0 ≤ pd ((nums s).take m) j ∧ pd ((nums s).take m) j < 256 := by
  by_cases h : j < ((nums s).take m).length
  · rw [pd_of_lt _ j h]; exact nums_byte s _ (List.mem_of_mem_take (List.getElem_mem h))
  · simp only [pd, List.getD_eq_getElem?_getD]
    rw [List.getElem?_eq_none (by omega)]; simp
/-- The ten numbers of a form, cut at its length, are the bytes. -/
theorem ten_take (l : List Int) (m : Nat) (hm : l.length = m) (h10 : m ≤ 10) (x0 x1 x2 x3 x4 x5 x6 x7 x8 x9 : Int) (hx0 : pd l 0 = x0) (hx1 : pd l 1 = x1) (hx2 : pd l 2 = x2) (hx3 : pd l 3 = x3) (hx4 : pd l 4 = x4) (hx5 : pd l 5 = x5) (hx6 : pd l 6 = x6) (hx7 : pd l 7 = x7) (hx8 : pd l 8 = x8) (hx9 : pd l 9 = x9) : [x0, x1, x2, x3, x4, x5, x6, x7, x8, x9].take m = l := by
  apply List.ext_getElem
  · rw [List.length_take]; simp; omega
  · intro j h1 h2
    rw [List.getElem_take]
    have h3 : j = 0 ∨ j = 1 ∨ j = 2 ∨ j = 3 ∨ j = 4 ∨ j = 5 ∨ j = 6 ∨ j = 7 ∨ j = 8 ∨ j = 9 := by omega
    rcases h3 with rfl | rfl | rfl | rfl | rfl | rfl | rfl | rfl | rfl | rfl
    · rw [← pd_of_lt l 0 h2, hx0]; rfl
    · rw [← pd_of_lt l 1 h2, hx1]; rfl
    · rw [← pd_of_lt l 2 h2, hx2]; rfl
    · rw [← pd_of_lt l 3 h2, hx3]; rfl
    · rw [← pd_of_lt l 4 h2, hx4]; rfl
    · rw [← pd_of_lt l 5 h2, hx5]; rfl
    · rw [← pd_of_lt l 6 h2, hx6]; rfl
    · rw [← pd_of_lt l 7 h2, hx7]; rfl
    · rw [← pd_of_lt l 8 h2, hx8]; rfl
    · rw [← pd_of_lt l 9 h2, hx9]; rfl
theorem shape_take (s : ByteArray) (k : Nat) (hk : k < s.size) (hpre : ∀ j, (h : j < k) → 128 ≤ ((s[j]'(by omega)).toNat : Int)) (hlast : (s[k].toNat : Int) < 128) : Shape ((nums s).take (k + 1)) := by
  refine ⟨(nums s).take k, _, nums_take_snoc s k hk, hlast, ?_⟩
  intro x hx
  obtain ⟨j, hj, rfl⟩ := List.getElem_of_mem hx
  rw [List.length_take, nums_length] at hj
  have h2 := nums_getD s j (by omega)
  rw [List.getElem_take]
  rw [List.getD_eq_getElem?_getD, List.getElem?_eq_getElem (by rw [nums_length]; omega)] at h2
  simp only [Option.getD_some] at h2
  rw [h2]
  exact hpre j (by omega)

set_option maxRecDepth 100000 in
set_option maxHeartbeats 2000000 in
theorem implGetLeb_yes (s : ByteArray) (k : Nat) (w : World) (hk : k < s.size) (hk10 : k < 10) (hpre : ∀ j, (h : j < k) → 128 ≤ ((s[j]'(by omega)).toNat : Int)) (hlast : (s[k].toNat : Int) < 128) (hsz : (s.size : Int) ≤ 4294967296) (v : Nat) (hgv : gv ((nums s).take (k + 1)) % 18446744073709551616 = v) (hv : (v : Int) ≤ 9223372036854775807) (heq : lebU v = (nums s).take (k + 1)) :
    Calls Tryd.prog 83 #[.string s] w fun e w' => e = .returned (.tuple #[.int .i64 (v : Nat), .int .i64 ((k : Int) + 1), .bool true]) ∧ Below w.heap.size w w' := by
  have hll : ((nums s).take (k + 1)).length = k + 1 := by rw [List.length_take, nums_length]; omega
  obtain ⟨x0, hx0⟩ : ∃ x, pd ((nums s).take (k + 1)) 0 = x := ⟨_, rfl⟩
  obtain ⟨x1, hx1⟩ : ∃ x, pd ((nums s).take (k + 1)) 1 = x := ⟨_, rfl⟩
  obtain ⟨x2, hx2⟩ : ∃ x, pd ((nums s).take (k + 1)) 2 = x := ⟨_, rfl⟩
  obtain ⟨x3, hx3⟩ : ∃ x, pd ((nums s).take (k + 1)) 3 = x := ⟨_, rfl⟩
  obtain ⟨x4, hx4⟩ : ∃ x, pd ((nums s).take (k + 1)) 4 = x := ⟨_, rfl⟩
  obtain ⟨x5, hx5⟩ : ∃ x, pd ((nums s).take (k + 1)) 5 = x := ⟨_, rfl⟩
  obtain ⟨x6, hx6⟩ : ∃ x, pd ((nums s).take (k + 1)) 6 = x := ⟨_, rfl⟩
  obtain ⟨x7, hx7⟩ : ∃ x, pd ((nums s).take (k + 1)) 7 = x := ⟨_, rfl⟩
  obtain ⟨x8, hx8⟩ : ∃ x, pd ((nums s).take (k + 1)) 8 = x := ⟨_, rfl⟩
  obtain ⟨x9, hx9⟩ : ∃ x, pd ((nums s).take (k + 1)) 9 = x := ⟨_, rfl⟩
  have C1 : Hid (∀ W, Calls Tryd.prog 80 #[.string s] W fun e w' => e = .returned (.tuple #[.agg #[.int .u8 x0, .int .u8 x1, .int .u8 x2, .int .u8 x3, .int .u8 x4, .int .u8 x5, .int .u8 x6, .int .u8 x7, .int .u8 x8, .int .u8 x9], .int .i64 ((k : Int) + 1)]) ∧ Below W.heap.size W w') := fun W => lebAt_yes s k x0 x1 x2 x3 x4 x5 x6 x7 x8 x9 W hk hk10 hpre hlast hsz hx0 hx1 hx2 hx3 hx4 hx5 hx6 hx7 hx8 hx9
  have C2 : Hid (∀ W, Calls Tryd.prog 81 #[.agg #[.int .u8 x0, .int .u8 x1, .int .u8 x2, .int .u8 x3, .int .u8 x4, .int .u8 x5, .int .u8 x6, .int .u8 x7, .int .u8 x8, .int .u8 x9], .int .i64 ((k : Int) + 1)] W fun e w' => e = .returned (.int .u64 (v : Nat)) ∧ Below W.heap.size W w') := by
    intro W
    have h := groupsIn_any x0 x1 x2 x3 x4 x5 x6 x7 x8 x9 (k + 1) W (by omega) (by
      intro x hx
      simp only [List.mem_cons, List.not_mem_nil, or_false] at hx
      rcases hx with rfl | rfl | rfl | rfl | rfl | rfl | rfl | rfl | rfl | rfl
      · rw [← hx0]; exact pd_byte s _ _
      · rw [← hx1]; exact pd_byte s _ _
      · rw [← hx2]; exact pd_byte s _ _
      · rw [← hx3]; exact pd_byte s _ _
      · rw [← hx4]; exact pd_byte s _ _
      · rw [← hx5]; exact pd_byte s _ _
      · rw [← hx6]; exact pd_byte s _ _
      · rw [← hx7]; exact pd_byte s _ _
      · rw [← hx8]; exact pd_byte s _ _
      · rw [← hx9]; exact pd_byte s _ _)
    rw [ten_take ((nums s).take (k + 1)) (k + 1) hll (by omega) x0 x1 x2 x3 x4 x5 x6 x7 x8 x9 hx0 hx1 hx2 hx3 hx4 hx5 hx6 hx7 hx8 hx9, hgv] at h
    simpa using h
  have hng : ¬ (9223372036854775807 : Int) < (v : Int) := by omega
  have C3 : Hid (∀ W, Calls Tryd.prog 85 #[.agg #[.int .u8 x0, .int .u8 x1, .int .u8 x2, .int .u8 x3, .int .u8 x4, .int .u8 x5, .int .u8 x6, .int .u8 x7, .int .u8 x8, .int .u8 x9], .int .u64 (v : Nat), .func (.func 65) #[] #[]] W fun e w' => e = .returned (.bool true) ∧ Below W.heap.size W w') := by
    intro W
    have hv2 : v < 128 ^ 10 := by
      have h1 : (9223372036854775808 : Nat) < 128 ^ 10 := by decide
      omega
    exact isShortU_yes v x0 x1 x2 x3 x4 x5 x6 x7 x8 x9 W hv2 (by omega) (by rw [heq]; exact hx0) (by rw [heq]; exact hx1) (by rw [heq]; exact hx2) (by rw [heq]; exact hx3) (by rw [heq]; exact hx4) (by rw [heq]; exact hx5) (by rw [heq]; exact hx6) (by rw [heq]; exact hx7) (by rw [heq]; exact hx8) (by rw [heq]; exact hx9)
  clear heq
  have hkz : (((k : Int) + 1) == 0) = false := by rw [beq_eq_false_iff_ne]; omega
  have hki : (k : Int) < 10 := by omega
  clear hpre hlast hgv hll hx0 hx1 hx2 hx3 hx4 hx5 hx6 hx7 hx8 hx9
  go_enter Tryd.func83, Tryd.ntmps83
  go_wp2_with fail
  go_at_call 80
  refine (C1.out _).mono ?_
  rintro e w1 ⟨rfl, hb1⟩
  go_wp2_with fail
  go_at_call 81
  refine (C2.out _).mono ?_
  rintro e w2 ⟨rfl, hb2⟩
  have hz : w1.heap.size < w2.heap.size := by have := hb2.size; simp at this; omega
  have hbb : Below w.heap.size w w2 := bchain (hb1.alloc hb1.size _) hb2 (by have := hb1.size; simp; omega)
  obtain ⟨hc, hf⟩ := bcell hb2
  go_wp2_with fail
  go_at_call 85
  refine (C3.out _).mono ?_
  rintro e w3 ⟨rfl, hb3⟩
  have hbc := bchain hbb hb3 hbb.size
  clear hc hf hb2 hb3 hb1 hbb
  go_wp2_with fail
  go_ret3
  exact ⟨rfl, hbc⟩

set_option maxRecDepth 100000 in
set_option maxHeartbeats 2000000 in
theorem implGetLeb_no (s : ByteArray) (k : Nat) (w : World) (hk : k < s.size) (hk10 : k < 10) (hpre : ∀ j, (h : j < k) → 128 ≤ ((s[j]'(by omega)).toNat : Int)) (hlast : (s[k].toNat : Int) < 128) (hsz : (s.size : Int) ≤ 4294967296) (v : Nat) (hgv : gv ((nums s).take (k + 1)) % 18446744073709551616 = v) (hv : (v : Int) ≤ 9223372036854775807) (hne : ¬ lebU v = (nums s).take (k + 1)) :
    Calls Tryd.prog 83 #[.string s] w fun e w' => e = .returned (.tuple #[.int .i64 0, .int .i64 0, .bool false]) ∧ Below w.heap.size w w' := by
  have hll : ((nums s).take (k + 1)).length = k + 1 := by rw [List.length_take, nums_length]; omega
  obtain ⟨x0, hx0⟩ : ∃ x, pd ((nums s).take (k + 1)) 0 = x := ⟨_, rfl⟩
  obtain ⟨x1, hx1⟩ : ∃ x, pd ((nums s).take (k + 1)) 1 = x := ⟨_, rfl⟩
  obtain ⟨x2, hx2⟩ : ∃ x, pd ((nums s).take (k + 1)) 2 = x := ⟨_, rfl⟩
  obtain ⟨x3, hx3⟩ : ∃ x, pd ((nums s).take (k + 1)) 3 = x := ⟨_, rfl⟩
  obtain ⟨x4, hx4⟩ : ∃ x, pd ((nums s).take (k + 1)) 4 = x := ⟨_, rfl⟩
  obtain ⟨x5, hx5⟩ : ∃ x, pd ((nums s).take (k + 1)) 5 = x := ⟨_, rfl⟩
  obtain ⟨x6, hx6⟩ : ∃ x, pd ((nums s).take (k + 1)) 6 = x := ⟨_, rfl⟩
  obtain ⟨x7, hx7⟩ : ∃ x, pd ((nums s).take (k + 1)) 7 = x := ⟨_, rfl⟩
  obtain ⟨x8, hx8⟩ : ∃ x, pd ((nums s).take (k + 1)) 8 = x := ⟨_, rfl⟩
  obtain ⟨x9, hx9⟩ : ∃ x, pd ((nums s).take (k + 1)) 9 = x := ⟨_, rfl⟩
  have C1 : Hid (∀ W, Calls Tryd.prog 80 #[.string s] W fun e w' => e = .returned (.tuple #[.agg #[.int .u8 x0, .int .u8 x1, .int .u8 x2, .int .u8 x3, .int .u8 x4, .int .u8 x5, .int .u8 x6, .int .u8 x7, .int .u8 x8, .int .u8 x9], .int .i64 ((k : Int) + 1)]) ∧ Below W.heap.size W w') := fun W => lebAt_yes s k x0 x1 x2 x3 x4 x5 x6 x7 x8 x9 W hk hk10 hpre hlast hsz hx0 hx1 hx2 hx3 hx4 hx5 hx6 hx7 hx8 hx9
  have C2 : Hid (∀ W, Calls Tryd.prog 81 #[.agg #[.int .u8 x0, .int .u8 x1, .int .u8 x2, .int .u8 x3, .int .u8 x4, .int .u8 x5, .int .u8 x6, .int .u8 x7, .int .u8 x8, .int .u8 x9], .int .i64 ((k : Int) + 1)] W fun e w' => e = .returned (.int .u64 (v : Nat)) ∧ Below W.heap.size W w') := by
    intro W
    have h := groupsIn_any x0 x1 x2 x3 x4 x5 x6 x7 x8 x9 (k + 1) W (by omega) (by
      intro x hx
      simp only [List.mem_cons, List.not_mem_nil, or_false] at hx
      rcases hx with rfl | rfl | rfl | rfl | rfl | rfl | rfl | rfl | rfl | rfl
      · rw [← hx0]; exact pd_byte s _ _
      · rw [← hx1]; exact pd_byte s _ _
      · rw [← hx2]; exact pd_byte s _ _
      · rw [← hx3]; exact pd_byte s _ _
      · rw [← hx4]; exact pd_byte s _ _
      · rw [← hx5]; exact pd_byte s _ _
      · rw [← hx6]; exact pd_byte s _ _
      · rw [← hx7]; exact pd_byte s _ _
      · rw [← hx8]; exact pd_byte s _ _
      · rw [← hx9]; exact pd_byte s _ _)
    rw [ten_take ((nums s).take (k + 1)) (k + 1) hll (by omega) x0 x1 x2 x3 x4 x5 x6 x7 x8 x9 hx0 hx1 hx2 hx3 hx4 hx5 hx6 hx7 hx8 hx9, hgv] at h
    simpa using h
  have hng : ¬ (9223372036854775807 : Int) < (v : Int) := by omega
  have C3 : Hid (∀ W, Calls Tryd.prog 85 #[.agg #[.int .u8 x0, .int .u8 x1, .int .u8 x2, .int .u8 x3, .int .u8 x4, .int .u8 x5, .int .u8 x6, .int .u8 x7, .int .u8 x8, .int .u8 x9], .int .u64 (v : Nat), .func (.func 65) #[] #[]] W fun e w' => e = .returned (.bool false) ∧ Below W.heap.size W w') := by
    intro W
    have hv2 : v < 128 ^ 10 := by
      have h1 : (9223372036854775808 : Nat) < 128 ^ 10 := by decide
      omega
    have hlen : (lebU v).length ≤ 10 := lebU_length 9 v hv2
    exact isShortU_no v x0 x1 x2 x3 x4 x5 x6 x7 x8 x9 W hv2 (by omega) (fun hall => hne (shape_eq (shape_lebU v) (shape_take s k hk hpre hlast) hlen (by omega) (by
      obtain ⟨a0, a1, a2, a3, a4, a5, a6, a7, a8, a9⟩ := hall
      intro j hj
      have h3 : j = 0 ∨ j = 1 ∨ j = 2 ∨ j = 3 ∨ j = 4 ∨ j = 5 ∨ j = 6 ∨ j = 7 ∨ j = 8 ∨ j = 9 := by omega
      rcases h3 with rfl | rfl | rfl | rfl | rfl | rfl | rfl | rfl | rfl | rfl
      · rw [a0, hx0]
      · rw [a1, hx1]
      · rw [a2, hx2]
      · rw [a3, hx3]
      · rw [a4, hx4]
      · rw [a5, hx5]
      · rw [a6, hx6]
      · rw [a7, hx7]
      · rw [a8, hx8]
      · rw [a9, hx9])))
  clear hne
  have hkz : (((k : Int) + 1) == 0) = false := by rw [beq_eq_false_iff_ne]; omega
  have hki : (k : Int) < 10 := by omega
  clear hpre hlast hgv hll hx0 hx1 hx2 hx3 hx4 hx5 hx6 hx7 hx8 hx9
  go_enter Tryd.func83, Tryd.ntmps83
  go_wp2_with fail
  go_at_call 80
  refine (C1.out _).mono ?_
  rintro e w1 ⟨rfl, hb1⟩
  go_wp2_with fail
  go_at_call 81
  refine (C2.out _).mono ?_
  rintro e w2 ⟨rfl, hb2⟩
  have hz : w1.heap.size < w2.heap.size := by have := hb2.size; simp at this; omega
  have hbb : Below w.heap.size w w2 := bchain (hb1.alloc hb1.size _) hb2 (by have := hb1.size; simp; omega)
  obtain ⟨hc, hf⟩ := bcell hb2
  go_wp2_with fail
  go_at_call 85
  refine (C3.out _).mono ?_
  rintro e w3 ⟨rfl, hb3⟩
  have hbc := bchain hbb hb3 hbb.size
  clear hc hf hb2 hb3 hb1 hbb
  go_wp2_with fail
  go_ret3
  exact ⟨rfl, hbc⟩

set_option maxRecDepth 100000 in
set_option maxHeartbeats 2000000 in
theorem implGetLeb_great (s : ByteArray) (k : Nat) (w : World) (hk : k < s.size) (hk10 : k < 10) (hpre : ∀ j, (h : j < k) → 128 ≤ ((s[j]'(by omega)).toNat : Int)) (hlast : (s[k].toNat : Int) < 128) (hsz : (s.size : Int) ≤ 4294967296) (v : Nat) (hgv : gv ((nums s).take (k + 1)) % 18446744073709551616 = v) (hv : (9223372036854775807 : Int) < (v : Int)) :
    Calls Tryd.prog 83 #[.string s] w fun e w' => e = .returned (.tuple #[.int .i64 0, .int .i64 0, .bool false]) ∧ Below w.heap.size w w' := by
  have hll : ((nums s).take (k + 1)).length = k + 1 := by rw [List.length_take, nums_length]; omega
  obtain ⟨x0, hx0⟩ : ∃ x, pd ((nums s).take (k + 1)) 0 = x := ⟨_, rfl⟩
  obtain ⟨x1, hx1⟩ : ∃ x, pd ((nums s).take (k + 1)) 1 = x := ⟨_, rfl⟩
  obtain ⟨x2, hx2⟩ : ∃ x, pd ((nums s).take (k + 1)) 2 = x := ⟨_, rfl⟩
  obtain ⟨x3, hx3⟩ : ∃ x, pd ((nums s).take (k + 1)) 3 = x := ⟨_, rfl⟩
  obtain ⟨x4, hx4⟩ : ∃ x, pd ((nums s).take (k + 1)) 4 = x := ⟨_, rfl⟩
  obtain ⟨x5, hx5⟩ : ∃ x, pd ((nums s).take (k + 1)) 5 = x := ⟨_, rfl⟩
  obtain ⟨x6, hx6⟩ : ∃ x, pd ((nums s).take (k + 1)) 6 = x := ⟨_, rfl⟩
  obtain ⟨x7, hx7⟩ : ∃ x, pd ((nums s).take (k + 1)) 7 = x := ⟨_, rfl⟩
  obtain ⟨x8, hx8⟩ : ∃ x, pd ((nums s).take (k + 1)) 8 = x := ⟨_, rfl⟩
  obtain ⟨x9, hx9⟩ : ∃ x, pd ((nums s).take (k + 1)) 9 = x := ⟨_, rfl⟩
  have C1 : Hid (∀ W, Calls Tryd.prog 80 #[.string s] W fun e w' => e = .returned (.tuple #[.agg #[.int .u8 x0, .int .u8 x1, .int .u8 x2, .int .u8 x3, .int .u8 x4, .int .u8 x5, .int .u8 x6, .int .u8 x7, .int .u8 x8, .int .u8 x9], .int .i64 ((k : Int) + 1)]) ∧ Below W.heap.size W w') := fun W => lebAt_yes s k x0 x1 x2 x3 x4 x5 x6 x7 x8 x9 W hk hk10 hpre hlast hsz hx0 hx1 hx2 hx3 hx4 hx5 hx6 hx7 hx8 hx9
  have C2 : Hid (∀ W, Calls Tryd.prog 81 #[.agg #[.int .u8 x0, .int .u8 x1, .int .u8 x2, .int .u8 x3, .int .u8 x4, .int .u8 x5, .int .u8 x6, .int .u8 x7, .int .u8 x8, .int .u8 x9], .int .i64 ((k : Int) + 1)] W fun e w' => e = .returned (.int .u64 (v : Nat)) ∧ Below W.heap.size W w') := by
    intro W
    have h := groupsIn_any x0 x1 x2 x3 x4 x5 x6 x7 x8 x9 (k + 1) W (by omega) (by
      intro x hx
      simp only [List.mem_cons, List.not_mem_nil, or_false] at hx
      rcases hx with rfl | rfl | rfl | rfl | rfl | rfl | rfl | rfl | rfl | rfl
      · rw [← hx0]; exact pd_byte s _ _
      · rw [← hx1]; exact pd_byte s _ _
      · rw [← hx2]; exact pd_byte s _ _
      · rw [← hx3]; exact pd_byte s _ _
      · rw [← hx4]; exact pd_byte s _ _
      · rw [← hx5]; exact pd_byte s _ _
      · rw [← hx6]; exact pd_byte s _ _
      · rw [← hx7]; exact pd_byte s _ _
      · rw [← hx8]; exact pd_byte s _ _
      · rw [← hx9]; exact pd_byte s _ _)
    rw [ten_take ((nums s).take (k + 1)) (k + 1) hll (by omega) x0 x1 x2 x3 x4 x5 x6 x7 x8 x9 hx0 hx1 hx2 hx3 hx4 hx5 hx6 hx7 hx8 hx9, hgv] at h
    simpa using h
  have hkz : (((k : Int) + 1) == 0) = false := by rw [beq_eq_false_iff_ne]; omega
  have hki : (k : Int) < 10 := by omega
  clear hpre hlast hgv hll hx0 hx1 hx2 hx3 hx4 hx5 hx6 hx7 hx8 hx9
  go_enter Tryd.func83, Tryd.ntmps83
  go_wp2_with fail
  go_at_call 80
  refine (C1.out _).mono ?_
  rintro e w1 ⟨rfl, hb1⟩
  go_wp2_with fail
  go_at_call 81
  refine (C2.out _).mono ?_
  rintro e w2 ⟨rfl, hb2⟩
  have hz : w1.heap.size < w2.heap.size := by have := hb2.size; simp at this; omega
  have hbb : Below w.heap.size w w2 := bchain (hb1.alloc hb1.size _) hb2 (by have := hb1.size; simp; omega)
  obtain ⟨hc, hf⟩ := bcell hb2
  go_wp2_with fail
  go_ret3
  exact ⟨rfl, hbb⟩

set_option maxRecDepth 100000 in
set_option maxHeartbeats 2000000 in
theorem implGetLeb_none (s : ByteArray) (w : World) (hpre : ∀ j, (h : j < s.size) → j < 10 → 128 ≤ ((s[j]'h).toNat : Int)) (hsz : (s.size : Int) ≤ 4294967296) :
    Calls Tryd.prog 83 #[.string s] w fun e w' => e = .returned (.tuple #[.int .i64 0, .int .i64 0, .bool false]) ∧ Below w.heap.size w w' := by
  have C1 : Hid (∀ W, Calls Tryd.prog 80 #[.string s] W fun e w' => e = .returned (.tuple #[.agg #[.int .u8 0, .int .u8 0, .int .u8 0, .int .u8 0, .int .u8 0, .int .u8 0, .int .u8 0, .int .u8 0, .int .u8 0, .int .u8 0], .int .i64 0]) ∧ Below W.heap.size W w') := fun W => lebAt_no s W hpre hsz
  have C2 : Hid (∀ W, Calls Tryd.prog 81 #[.agg #[.int .u8 0, .int .u8 0, .int .u8 0, .int .u8 0, .int .u8 0, .int .u8 0, .int .u8 0, .int .u8 0, .int .u8 0, .int .u8 0], .int .i64 0] W fun e w' => e = .returned (.int .u64 0) ∧ Below W.heap.size W w') := by
    intro W
    have h := groupsIn_any 0 0 0 0 0 0 0 0 0 0 0 W (by omega) (by simp)
    simpa [gv] using h
  clear hpre
  go_enter Tryd.func83, Tryd.ntmps83
  go_wp2_with fail
  go_at_call 80
  refine (C1.out _).mono ?_
  rintro e w1 ⟨rfl, hb1⟩
  go_wp2_with fail
  go_at_call 81
  refine (C2.out _).mono ?_
  rintro e w2 ⟨rfl, hb2⟩
  have hbb : Below w.heap.size w w2 := bchain (hb1.alloc hb1.size _) hb2 (by have := hb1.size; simp; omega)
  clear hb1 hb2
  go_wp2_with fail
  go_ret3
  exact ⟨rfl, hbb⟩
end Go.Proofs.YtbjcldekapipaaaDoor

namespace Go.Proofs.YtbjcldekapipaaaDoor
open Go.ChangeShapes Go.WideShapes Go.ChangeAt Go.RowKit
set_option linter.unusedVariables false

theorem ten_cell (w : World) (t : TypeId) (l : List Int) (k : Nat) (hk : k < 10) (x0 x1 x2 x3 x4 x5 x6 x7 x8 x9 : Int) (hx0 : pd l 0 = x0) (hx1 : pd l 1 = x1) (hx2 : pd l 2 = x2) (hx3 : pd l 3 = x3) (hx4 : pd l 4 = x4) (hx5 : pd l 5 = x5) (hx6 : pd l 6 = x6) (hx7 : pd l 7 = x7) (hx8 : pd l 8 = x8) (hx9 : pd l 9 = x9) : (w.alloc (.cells #[.int .u8 x0, .int .u8 x1, .int .u8 x2, .int .u8 x3, .int .u8 x4, .int .u8 x5, .int .u8 x6, .int .u8 x7, .int .u8 x8, .int .u8 x9] t)).cell? ⟨w.heap.size, k, none⟩ = some (.int .u8 (pd l k)) := by
  rw [World.cell?_alloc_new]
  have h3 : k = 0 ∨ k = 1 ∨ k = 2 ∨ k = 3 ∨ k = 4 ∨ k = 5 ∨ k = 6 ∨ k = 7 ∨ k = 8 ∨ k = 9 := by omega
  rcases h3 with rfl | rfl | rfl | rfl | rfl | rfl | rfl | rfl | rfl | rfl
  · rw [hx0]; rfl
  · rw [hx1]; rfl
  · rw [hx2]; rfl
  · rw [hx3]; rfl
  · rw [hx4]; rfl
  · rw [hx5]; rfl
  · rw [hx6]; rfl
  · rw [hx7]; rfl
  · rw [hx8]; rfl
  · rw [hx9]; rfl

set_option maxRecDepth 100000 in
set_option maxHeartbeats 2000000 in
theorem implGetSleb_pos_yes (s : ByteArray) (k : Nat) (w : World) (hk : k < s.size) (hk10 : k < 10) (hpre : ∀ j, (h : j < k) → 128 ≤ ((s[j]'(by omega)).toNat : Int)) (hlast : (s[k].toNat : Int) < 128) (hsz : (s.size : Int) ≤ 4294967296) (r : Nat) (hgv : gv ((nums s).take (k + 1)) % 18446744073709551616 = r) (v : Int) (hv0 : -9223372036854775808 ≤ v) (hv1 : v ≤ 9223372036854775807) (hb64 : (s[k].toNat : Int) < 64) (hfin : wrap64 (r : Int) = v) (heq : lebS v = (nums s).take (k + 1)) :
    Calls Tryd.prog 68 #[.string s] w fun e w' => e = .returned (.tuple #[.int .i64 v, .int .i64 ((k : Int) + 1), .bool true]) ∧ Below w.heap.size w w' := by
  have hll : ((nums s).take (k + 1)).length = k + 1 := by rw [List.length_take, nums_length]; omega
  have hv128 : -(64 * 128 ^ 9 : Int) ≤ v ∧ v < (64 * 128 ^ 9 : Int) := by omega
  obtain ⟨x0, hx0⟩ : ∃ x, pd ((nums s).take (k + 1)) 0 = x := ⟨_, rfl⟩
  obtain ⟨x1, hx1⟩ : ∃ x, pd ((nums s).take (k + 1)) 1 = x := ⟨_, rfl⟩
  obtain ⟨x2, hx2⟩ : ∃ x, pd ((nums s).take (k + 1)) 2 = x := ⟨_, rfl⟩
  obtain ⟨x3, hx3⟩ : ∃ x, pd ((nums s).take (k + 1)) 3 = x := ⟨_, rfl⟩
  obtain ⟨x4, hx4⟩ : ∃ x, pd ((nums s).take (k + 1)) 4 = x := ⟨_, rfl⟩
  obtain ⟨x5, hx5⟩ : ∃ x, pd ((nums s).take (k + 1)) 5 = x := ⟨_, rfl⟩
  obtain ⟨x6, hx6⟩ : ∃ x, pd ((nums s).take (k + 1)) 6 = x := ⟨_, rfl⟩
  obtain ⟨x7, hx7⟩ : ∃ x, pd ((nums s).take (k + 1)) 7 = x := ⟨_, rfl⟩
  obtain ⟨x8, hx8⟩ : ∃ x, pd ((nums s).take (k + 1)) 8 = x := ⟨_, rfl⟩
  obtain ⟨x9, hx9⟩ : ∃ x, pd ((nums s).take (k + 1)) 9 = x := ⟨_, rfl⟩
  have C1 : Hid (∀ W, Calls Tryd.prog 80 #[.string s] W fun e w' => e = .returned (.tuple #[.agg #[.int .u8 x0, .int .u8 x1, .int .u8 x2, .int .u8 x3, .int .u8 x4, .int .u8 x5, .int .u8 x6, .int .u8 x7, .int .u8 x8, .int .u8 x9], .int .i64 ((k : Int) + 1)]) ∧ Below W.heap.size W w') := fun W => lebAt_yes s k x0 x1 x2 x3 x4 x5 x6 x7 x8 x9 W hk hk10 hpre hlast hsz hx0 hx1 hx2 hx3 hx4 hx5 hx6 hx7 hx8 hx9
  have C2 : Hid (∀ W, Calls Tryd.prog 81 #[.agg #[.int .u8 x0, .int .u8 x1, .int .u8 x2, .int .u8 x3, .int .u8 x4, .int .u8 x5, .int .u8 x6, .int .u8 x7, .int .u8 x8, .int .u8 x9], .int .i64 ((k : Int) + 1)] W fun e w' => e = .returned (.int .u64 (r : Nat)) ∧ Below W.heap.size W w') := by
    intro W
    have h := groupsIn_any x0 x1 x2 x3 x4 x5 x6 x7 x8 x9 (k + 1) W (by omega) (by
      intro x hx
      simp only [List.mem_cons, List.not_mem_nil, or_false] at hx
      rcases hx with rfl | rfl | rfl | rfl | rfl | rfl | rfl | rfl | rfl | rfl
      · rw [← hx0]; exact pd_byte s _ _
      · rw [← hx1]; exact pd_byte s _ _
      · rw [← hx2]; exact pd_byte s _ _
      · rw [← hx3]; exact pd_byte s _ _
      · rw [← hx4]; exact pd_byte s _ _
      · rw [← hx5]; exact pd_byte s _ _
      · rw [← hx6]; exact pd_byte s _ _
      · rw [← hx7]; exact pd_byte s _ _
      · rw [← hx8]; exact pd_byte s _ _
      · rw [← hx9]; exact pd_byte s _ _)
    rw [ten_take ((nums s).take (k + 1)) (k + 1) hll (by omega) x0 x1 x2 x3 x4 x5 x6 x7 x8 x9 hx0 hx1 hx2 hx3 hx4 hx5 hx6 hx7 hx8 hx9, hgv] at h
    simpa using h
  have C3 : Hid (∀ W, Calls Tryd.prog 82 #[.agg #[.int .u8 x0, .int .u8 x1, .int .u8 x2, .int .u8 x3, .int .u8 x4, .int .u8 x5, .int .u8 x6, .int .u8 x7, .int .u8 x8, .int .u8 x9], .int .i64 v, .func (.func 63) #[] #[]] W fun e w' => e = .returned (.bool true) ∧ Below W.heap.size W w') := fun W => isShortS_yes v x0 x1 x2 x3 x4 x5 x6 x7 x8 x9 W hv128 ⟨hv0, by omega⟩ (by rw [heq]; exact hx0) (by rw [heq]; exact hx1) (by rw [heq]; exact hx2) (by rw [heq]; exact hx3) (by rw [heq]; exact hx4) (by rw [heq]; exact hx5) (by rw [heq]; exact hx6) (by rw [heq]; exact hx7) (by rw [heq]; exact hx8) (by rw [heq]; exact hx9)
  have hlastpd : pd ((nums s).take (k + 1)) k = (s[k].toNat : Int) := by
    rw [nums_take_snoc s k hk, pd_at, if_pos (by rw [List.length_take, nums_length]; omega)]
  have hcl := fun W => ten_cell W 88 ((nums s).take (k + 1)) k hk10 x0 x1 x2 x3 x4 x5 x6 x7 x8 x9 hx0 hx1 hx2 hx3 hx4 hx5 hx6 hx7 hx8 hx9
  rw [hlastpd] at hcl
  have hb0 : 0 ≤ ((s[k].toNat : Nat) : Int) := by omega
  have hand6 : bits .and .u8 ((s[k].toNat : Nat) : Int) 64 = 0 := by rw [u8_and64 _ hb0 (by omega), if_neg (by omega)]
  generalize ((s[k].toNat : Nat) : Int) = b at *
  have hkz : (((k : Int) + 1) == 0) = false := by rw [beq_eq_false_iff_ne]; omega
  have hki : (k : Int) < 10 := by omega
  have hr64 : (r : Int) < 18446744073709551616 := by omega
  have HR := Lib.hid hr64
  clear hpre hlast hgv hll hlastpd hv128 heq hr64 hx0 hx1 hx2 hx3 hx4 hx5 hx6 hx7 hx8 hx9
  go_enter Tryd.func68, Tryd.ntmps68
  go_wp2_with fail
  go_at_call 80
  refine (C1.out _).mono ?_
  rintro e w1 ⟨rfl, hb1⟩
  have hcl1 := hcl w1
  clear hcl
  go_wp2_with fail
  go_at_call 81
  refine (C2.out _).mono ?_
  rintro e w2 ⟨rfl, hb2⟩
  have hz : w1.heap.size < w2.heap.size := by have := hb2.size; simp at this; omega
  have hbb : Below w.heap.size w w2 := bchain (hb1.alloc hb1.size _) hb2 (by have := hb1.size; simp; omega)
  obtain ⟨hc, hf⟩ := bcell hb2
  have hcl2 : w2.cell? ⟨w1.heap.size, k, none⟩ = some (.int .u8 b) := (hc _ _ (by simp)).trans hcl1
  have e0 : w2.cell? ⟨w1.heap.size, 0, none⟩ = some (.int .u8 x0) := (hc _ _ (by simp)).trans (by simp)
  have e1 : w2.cell? ⟨w1.heap.size, 1, none⟩ = some (.int .u8 x1) := (hc _ _ (by simp)).trans (by simp)
  have e2 : w2.cell? ⟨w1.heap.size, 2, none⟩ = some (.int .u8 x2) := (hc _ _ (by simp)).trans (by simp)
  have e3 : w2.cell? ⟨w1.heap.size, 3, none⟩ = some (.int .u8 x3) := (hc _ _ (by simp)).trans (by simp)
  have e4 : w2.cell? ⟨w1.heap.size, 4, none⟩ = some (.int .u8 x4) := (hc _ _ (by simp)).trans (by simp)
  have e5 : w2.cell? ⟨w1.heap.size, 5, none⟩ = some (.int .u8 x5) := (hc _ _ (by simp)).trans (by simp)
  have e6 : w2.cell? ⟨w1.heap.size, 6, none⟩ = some (.int .u8 x6) := (hc _ _ (by simp)).trans (by simp)
  have e7 : w2.cell? ⟨w1.heap.size, 7, none⟩ = some (.int .u8 x7) := (hc _ _ (by simp)).trans (by simp)
  have e8 : w2.cell? ⟨w1.heap.size, 8, none⟩ = some (.int .u8 x8) := (hc _ _ (by simp)).trans (by simp)
  have e9 : w2.cell? ⟨w1.heap.size, 9, none⟩ = some (.int .u8 x9) := (hc _ _ (by simp)).trans (by simp)
  clear hcl1 hc hf
  go_wp2_with fail

  go_at_call 82
  refine (C3.out _).mono ?_
  rintro e w3 ⟨rfl, hb3⟩
  have hbc := bchain hbb hb3 hbb.size
  clear hb2 hb3 hb1 hbb hcl2
  go_wp2_with fail
  go_ret3
  exact ⟨rfl, hbc⟩

set_option maxRecDepth 100000 in
set_option maxHeartbeats 2000000 in
theorem implGetSleb_neg_yes (s : ByteArray) (k : Nat) (w : World) (hk : k < s.size) (hk10 : k < 10) (hpre : ∀ j, (h : j < k) → 128 ≤ ((s[j]'(by omega)).toNat : Int)) (hlast : (s[k].toNat : Int) < 128) (hsz : (s.size : Int) ≤ 4294967296) (r : Nat) (hgv : gv ((nums s).take (k + 1)) % 18446744073709551616 = r) (v : Int) (hv0 : -9223372036854775808 ≤ v) (hv1 : v ≤ 9223372036854775807) (hb64 : 64 ≤ (s[k].toNat : Int)) (q : Int) (hq : IntKind.u64.wrap (18446744073709551615 * 2 ^ min (7 * ((k : Int) + 1)).toNat 64) = q) (hfin : wrap64 (bits .or .u64 (r : Int) q) = v) (heq : lebS v = (nums s).take (k + 1)) :
    Calls Tryd.prog 68 #[.string s] w fun e w' => e = .returned (.tuple #[.int .i64 v, .int .i64 ((k : Int) + 1), .bool true]) ∧ Below w.heap.size w w' := by
  have hll : ((nums s).take (k + 1)).length = k + 1 := by rw [List.length_take, nums_length]; omega
  have hv128 : -(64 * 128 ^ 9 : Int) ≤ v ∧ v < (64 * 128 ^ 9 : Int) := by omega
  obtain ⟨x0, hx0⟩ : ∃ x, pd ((nums s).take (k + 1)) 0 = x := ⟨_, rfl⟩
  obtain ⟨x1, hx1⟩ : ∃ x, pd ((nums s).take (k + 1)) 1 = x := ⟨_, rfl⟩
  obtain ⟨x2, hx2⟩ : ∃ x, pd ((nums s).take (k + 1)) 2 = x := ⟨_, rfl⟩
  obtain ⟨x3, hx3⟩ : ∃ x, pd ((nums s).take (k + 1)) 3 = x := ⟨_, rfl⟩
  obtain ⟨x4, hx4⟩ : ∃ x, pd ((nums s).take (k + 1)) 4 = x := ⟨_, rfl⟩
  obtain ⟨x5, hx5⟩ : ∃ x, pd ((nums s).take (k + 1)) 5 = x := ⟨_, rfl⟩
  obtain ⟨x6, hx6⟩ : ∃ x, pd ((nums s).take (k + 1)) 6 = x := ⟨_, rfl⟩
  obtain ⟨x7, hx7⟩ : ∃ x, pd ((nums s).take (k + 1)) 7 = x := ⟨_, rfl⟩
  obtain ⟨x8, hx8⟩ : ∃ x, pd ((nums s).take (k + 1)) 8 = x := ⟨_, rfl⟩
  obtain ⟨x9, hx9⟩ : ∃ x, pd ((nums s).take (k + 1)) 9 = x := ⟨_, rfl⟩
  have C1 : Hid (∀ W, Calls Tryd.prog 80 #[.string s] W fun e w' => e = .returned (.tuple #[.agg #[.int .u8 x0, .int .u8 x1, .int .u8 x2, .int .u8 x3, .int .u8 x4, .int .u8 x5, .int .u8 x6, .int .u8 x7, .int .u8 x8, .int .u8 x9], .int .i64 ((k : Int) + 1)]) ∧ Below W.heap.size W w') := fun W => lebAt_yes s k x0 x1 x2 x3 x4 x5 x6 x7 x8 x9 W hk hk10 hpre hlast hsz hx0 hx1 hx2 hx3 hx4 hx5 hx6 hx7 hx8 hx9
  have C2 : Hid (∀ W, Calls Tryd.prog 81 #[.agg #[.int .u8 x0, .int .u8 x1, .int .u8 x2, .int .u8 x3, .int .u8 x4, .int .u8 x5, .int .u8 x6, .int .u8 x7, .int .u8 x8, .int .u8 x9], .int .i64 ((k : Int) + 1)] W fun e w' => e = .returned (.int .u64 (r : Nat)) ∧ Below W.heap.size W w') := by
    intro W
    have h := groupsIn_any x0 x1 x2 x3 x4 x5 x6 x7 x8 x9 (k + 1) W (by omega) (by
      intro x hx
      simp only [List.mem_cons, List.not_mem_nil, or_false] at hx
      rcases hx with rfl | rfl | rfl | rfl | rfl | rfl | rfl | rfl | rfl | rfl
      · rw [← hx0]; exact pd_byte s _ _
      · rw [← hx1]; exact pd_byte s _ _
      · rw [← hx2]; exact pd_byte s _ _
      · rw [← hx3]; exact pd_byte s _ _
      · rw [← hx4]; exact pd_byte s _ _
      · rw [← hx5]; exact pd_byte s _ _
      · rw [← hx6]; exact pd_byte s _ _
      · rw [← hx7]; exact pd_byte s _ _
      · rw [← hx8]; exact pd_byte s _ _
      · rw [← hx9]; exact pd_byte s _ _)
    rw [ten_take ((nums s).take (k + 1)) (k + 1) hll (by omega) x0 x1 x2 x3 x4 x5 x6 x7 x8 x9 hx0 hx1 hx2 hx3 hx4 hx5 hx6 hx7 hx8 hx9, hgv] at h
    simpa using h
  have C3 : Hid (∀ W, Calls Tryd.prog 82 #[.agg #[.int .u8 x0, .int .u8 x1, .int .u8 x2, .int .u8 x3, .int .u8 x4, .int .u8 x5, .int .u8 x6, .int .u8 x7, .int .u8 x8, .int .u8 x9], .int .i64 v, .func (.func 63) #[] #[]] W fun e w' => e = .returned (.bool true) ∧ Below W.heap.size W w') := fun W => isShortS_yes v x0 x1 x2 x3 x4 x5 x6 x7 x8 x9 W hv128 ⟨hv0, by omega⟩ (by rw [heq]; exact hx0) (by rw [heq]; exact hx1) (by rw [heq]; exact hx2) (by rw [heq]; exact hx3) (by rw [heq]; exact hx4) (by rw [heq]; exact hx5) (by rw [heq]; exact hx6) (by rw [heq]; exact hx7) (by rw [heq]; exact hx8) (by rw [heq]; exact hx9)
  have hlastpd : pd ((nums s).take (k + 1)) k = (s[k].toNat : Int) := by
    rw [nums_take_snoc s k hk, pd_at, if_pos (by rw [List.length_take, nums_length]; omega)]
  have hcl := fun W => ten_cell W 88 ((nums s).take (k + 1)) k hk10 x0 x1 x2 x3 x4 x5 x6 x7 x8 x9 hx0 hx1 hx2 hx3 hx4 hx5 hx6 hx7 hx8 hx9
  rw [hlastpd] at hcl
  have hb0 : 0 ≤ ((s[k].toNat : Nat) : Int) := by omega
  have hand6 : bits .and .u8 ((s[k].toNat : Nat) : Int) 64 = 64 := by rw [u8_and64 _ hb0 (by omega), if_pos (by omega)]
  have hsh : ∀ W, (Op.shift .shl .u64 18446744073709551615 .i64 (7 * ((k : Int) + 1))).run Tryd.prog W = .ok (.int .u64 q) W := by
    intro W
    rw [shift_shl_any _ _ _ _ (by omega), ← hq]
    rfl
  clear hq
  generalize ((s[k].toNat : Nat) : Int) = b at *
  have hkz : (((k : Int) + 1) == 0) = false := by rw [beq_eq_false_iff_ne]; omega
  have hki : (k : Int) < 10 := by omega
  have hr64 : (r : Int) < 18446744073709551616 := by omega
  have HR := Lib.hid hr64
  clear hpre hlast hgv hll hlastpd hv128 heq hr64 hx0 hx1 hx2 hx3 hx4 hx5 hx6 hx7 hx8 hx9
  go_enter Tryd.func68, Tryd.ntmps68
  go_wp2_with fail
  go_at_call 80
  refine (C1.out _).mono ?_
  rintro e w1 ⟨rfl, hb1⟩
  have hcl1 := hcl w1
  clear hcl
  go_wp2_with fail
  go_at_call 81
  refine (C2.out _).mono ?_
  rintro e w2 ⟨rfl, hb2⟩
  have hz : w1.heap.size < w2.heap.size := by have := hb2.size; simp at this; omega
  have hbb : Below w.heap.size w w2 := bchain (hb1.alloc hb1.size _) hb2 (by have := hb1.size; simp; omega)
  obtain ⟨hc, hf⟩ := bcell hb2
  have hcl2 : w2.cell? ⟨w1.heap.size, k, none⟩ = some (.int .u8 b) := (hc _ _ (by simp)).trans hcl1
  have e0 : w2.cell? ⟨w1.heap.size, 0, none⟩ = some (.int .u8 x0) := (hc _ _ (by simp)).trans (by simp)
  have e1 : w2.cell? ⟨w1.heap.size, 1, none⟩ = some (.int .u8 x1) := (hc _ _ (by simp)).trans (by simp)
  have e2 : w2.cell? ⟨w1.heap.size, 2, none⟩ = some (.int .u8 x2) := (hc _ _ (by simp)).trans (by simp)
  have e3 : w2.cell? ⟨w1.heap.size, 3, none⟩ = some (.int .u8 x3) := (hc _ _ (by simp)).trans (by simp)
  have e4 : w2.cell? ⟨w1.heap.size, 4, none⟩ = some (.int .u8 x4) := (hc _ _ (by simp)).trans (by simp)
  have e5 : w2.cell? ⟨w1.heap.size, 5, none⟩ = some (.int .u8 x5) := (hc _ _ (by simp)).trans (by simp)
  have e6 : w2.cell? ⟨w1.heap.size, 6, none⟩ = some (.int .u8 x6) := (hc _ _ (by simp)).trans (by simp)
  have e7 : w2.cell? ⟨w1.heap.size, 7, none⟩ = some (.int .u8 x7) := (hc _ _ (by simp)).trans (by simp)
  have e8 : w2.cell? ⟨w1.heap.size, 8, none⟩ = some (.int .u8 x8) := (hc _ _ (by simp)).trans (by simp)
  have e9 : w2.cell? ⟨w1.heap.size, 9, none⟩ = some (.int .u8 x9) := (hc _ _ (by simp)).trans (by simp)
  clear hcl1 hc hf
  go_wp2_with fail

  go_at_call 82
  refine (C3.out _).mono ?_
  rintro e w3 ⟨rfl, hb3⟩
  have hbc := bchain hbb hb3 hbb.size
  clear hb2 hb3 hb1 hbb hcl2
  go_wp2_with fail
  go_ret3
  exact ⟨rfl, hbc⟩

set_option maxRecDepth 100000 in
set_option maxHeartbeats 2000000 in
theorem implGetSleb_pos_no (s : ByteArray) (k : Nat) (w : World) (hk : k < s.size) (hk10 : k < 10) (hpre : ∀ j, (h : j < k) → 128 ≤ ((s[j]'(by omega)).toNat : Int)) (hlast : (s[k].toNat : Int) < 128) (hsz : (s.size : Int) ≤ 4294967296) (r : Nat) (hgv : gv ((nums s).take (k + 1)) % 18446744073709551616 = r) (v : Int) (hv0 : -9223372036854775808 ≤ v) (hv1 : v ≤ 9223372036854775807) (hb64 : (s[k].toNat : Int) < 64) (hfin : wrap64 (r : Int) = v) (heq : ¬ lebS v = (nums s).take (k + 1)) :
    Calls Tryd.prog 68 #[.string s] w fun e w' => e = .returned (.tuple #[.int .i64 0, .int .i64 0, .bool false]) ∧ Below w.heap.size w w' := by
  have hll : ((nums s).take (k + 1)).length = k + 1 := by rw [List.length_take, nums_length]; omega
  have hv128 : -(64 * 128 ^ 9 : Int) ≤ v ∧ v < (64 * 128 ^ 9 : Int) := by omega
  obtain ⟨x0, hx0⟩ : ∃ x, pd ((nums s).take (k + 1)) 0 = x := ⟨_, rfl⟩
  obtain ⟨x1, hx1⟩ : ∃ x, pd ((nums s).take (k + 1)) 1 = x := ⟨_, rfl⟩
  obtain ⟨x2, hx2⟩ : ∃ x, pd ((nums s).take (k + 1)) 2 = x := ⟨_, rfl⟩
  obtain ⟨x3, hx3⟩ : ∃ x, pd ((nums s).take (k + 1)) 3 = x := ⟨_, rfl⟩
  obtain ⟨x4, hx4⟩ : ∃ x, pd ((nums s).take (k + 1)) 4 = x := ⟨_, rfl⟩
  obtain ⟨x5, hx5⟩ : ∃ x, pd ((nums s).take (k + 1)) 5 = x := ⟨_, rfl⟩
  obtain ⟨x6, hx6⟩ : ∃ x, pd ((nums s).take (k + 1)) 6 = x := ⟨_, rfl⟩
  obtain ⟨x7, hx7⟩ : ∃ x, pd ((nums s).take (k + 1)) 7 = x := ⟨_, rfl⟩
  obtain ⟨x8, hx8⟩ : ∃ x, pd ((nums s).take (k + 1)) 8 = x := ⟨_, rfl⟩
  obtain ⟨x9, hx9⟩ : ∃ x, pd ((nums s).take (k + 1)) 9 = x := ⟨_, rfl⟩
  have C1 : Hid (∀ W, Calls Tryd.prog 80 #[.string s] W fun e w' => e = .returned (.tuple #[.agg #[.int .u8 x0, .int .u8 x1, .int .u8 x2, .int .u8 x3, .int .u8 x4, .int .u8 x5, .int .u8 x6, .int .u8 x7, .int .u8 x8, .int .u8 x9], .int .i64 ((k : Int) + 1)]) ∧ Below W.heap.size W w') := fun W => lebAt_yes s k x0 x1 x2 x3 x4 x5 x6 x7 x8 x9 W hk hk10 hpre hlast hsz hx0 hx1 hx2 hx3 hx4 hx5 hx6 hx7 hx8 hx9
  have C2 : Hid (∀ W, Calls Tryd.prog 81 #[.agg #[.int .u8 x0, .int .u8 x1, .int .u8 x2, .int .u8 x3, .int .u8 x4, .int .u8 x5, .int .u8 x6, .int .u8 x7, .int .u8 x8, .int .u8 x9], .int .i64 ((k : Int) + 1)] W fun e w' => e = .returned (.int .u64 (r : Nat)) ∧ Below W.heap.size W w') := by
    intro W
    have h := groupsIn_any x0 x1 x2 x3 x4 x5 x6 x7 x8 x9 (k + 1) W (by omega) (by
      intro x hx
      simp only [List.mem_cons, List.not_mem_nil, or_false] at hx
      rcases hx with rfl | rfl | rfl | rfl | rfl | rfl | rfl | rfl | rfl | rfl
      · rw [← hx0]; exact pd_byte s _ _
      · rw [← hx1]; exact pd_byte s _ _
      · rw [← hx2]; exact pd_byte s _ _
      · rw [← hx3]; exact pd_byte s _ _
      · rw [← hx4]; exact pd_byte s _ _
      · rw [← hx5]; exact pd_byte s _ _
      · rw [← hx6]; exact pd_byte s _ _
      · rw [← hx7]; exact pd_byte s _ _
      · rw [← hx8]; exact pd_byte s _ _
      · rw [← hx9]; exact pd_byte s _ _)
    rw [ten_take ((nums s).take (k + 1)) (k + 1) hll (by omega) x0 x1 x2 x3 x4 x5 x6 x7 x8 x9 hx0 hx1 hx2 hx3 hx4 hx5 hx6 hx7 hx8 hx9, hgv] at h
    simpa using h
  have C3 : Hid (∀ W, Calls Tryd.prog 82 #[.agg #[.int .u8 x0, .int .u8 x1, .int .u8 x2, .int .u8 x3, .int .u8 x4, .int .u8 x5, .int .u8 x6, .int .u8 x7, .int .u8 x8, .int .u8 x9], .int .i64 v, .func (.func 63) #[] #[]] W fun e w' => e = .returned (.bool false) ∧ Below W.heap.size W w') := by
    intro W
    have hlen : (lebS v).length ≤ 10 := lebS_length 9 v hv128.1 hv128.2
    exact isShortS_no v x0 x1 x2 x3 x4 x5 x6 x7 x8 x9 W hv128 ⟨hv0, by omega⟩ (fun hall => heq (shape_eq (shape_lebS v) (shape_take s k hk hpre hlast) hlen (by omega) (by
      obtain ⟨a0, a1, a2, a3, a4, a5, a6, a7, a8, a9⟩ := hall
      intro j hj
      have h3 : j = 0 ∨ j = 1 ∨ j = 2 ∨ j = 3 ∨ j = 4 ∨ j = 5 ∨ j = 6 ∨ j = 7 ∨ j = 8 ∨ j = 9 := by omega
      rcases h3 with rfl | rfl | rfl | rfl | rfl | rfl | rfl | rfl | rfl | rfl
      · rw [a0, hx0]
      · rw [a1, hx1]
      · rw [a2, hx2]
      · rw [a3, hx3]
      · rw [a4, hx4]
      · rw [a5, hx5]
      · rw [a6, hx6]
      · rw [a7, hx7]
      · rw [a8, hx8]
      · rw [a9, hx9])))
  have hlastpd : pd ((nums s).take (k + 1)) k = (s[k].toNat : Int) := by
    rw [nums_take_snoc s k hk, pd_at, if_pos (by rw [List.length_take, nums_length]; omega)]
  have hcl := fun W => ten_cell W 88 ((nums s).take (k + 1)) k hk10 x0 x1 x2 x3 x4 x5 x6 x7 x8 x9 hx0 hx1 hx2 hx3 hx4 hx5 hx6 hx7 hx8 hx9
  rw [hlastpd] at hcl
  have hb0 : 0 ≤ ((s[k].toNat : Nat) : Int) := by omega
  have hand6 : bits .and .u8 ((s[k].toNat : Nat) : Int) 64 = 0 := by rw [u8_and64 _ hb0 (by omega), if_neg (by omega)]
  generalize ((s[k].toNat : Nat) : Int) = b at *
  have hkz : (((k : Int) + 1) == 0) = false := by rw [beq_eq_false_iff_ne]; omega
  have hki : (k : Int) < 10 := by omega
  have hr64 : (r : Int) < 18446744073709551616 := by omega
  have HR := Lib.hid hr64
  clear hpre hlast hgv hll hlastpd hv128 heq hr64 hx0 hx1 hx2 hx3 hx4 hx5 hx6 hx7 hx8 hx9
  go_enter Tryd.func68, Tryd.ntmps68
  go_wp2_with fail
  go_at_call 80
  refine (C1.out _).mono ?_
  rintro e w1 ⟨rfl, hb1⟩
  have hcl1 := hcl w1
  clear hcl
  go_wp2_with fail
  go_at_call 81
  refine (C2.out _).mono ?_
  rintro e w2 ⟨rfl, hb2⟩
  have hz : w1.heap.size < w2.heap.size := by have := hb2.size; simp at this; omega
  have hbb : Below w.heap.size w w2 := bchain (hb1.alloc hb1.size _) hb2 (by have := hb1.size; simp; omega)
  obtain ⟨hc, hf⟩ := bcell hb2
  have hcl2 : w2.cell? ⟨w1.heap.size, k, none⟩ = some (.int .u8 b) := (hc _ _ (by simp)).trans hcl1
  have e0 : w2.cell? ⟨w1.heap.size, 0, none⟩ = some (.int .u8 x0) := (hc _ _ (by simp)).trans (by simp)
  have e1 : w2.cell? ⟨w1.heap.size, 1, none⟩ = some (.int .u8 x1) := (hc _ _ (by simp)).trans (by simp)
  have e2 : w2.cell? ⟨w1.heap.size, 2, none⟩ = some (.int .u8 x2) := (hc _ _ (by simp)).trans (by simp)
  have e3 : w2.cell? ⟨w1.heap.size, 3, none⟩ = some (.int .u8 x3) := (hc _ _ (by simp)).trans (by simp)
  have e4 : w2.cell? ⟨w1.heap.size, 4, none⟩ = some (.int .u8 x4) := (hc _ _ (by simp)).trans (by simp)
  have e5 : w2.cell? ⟨w1.heap.size, 5, none⟩ = some (.int .u8 x5) := (hc _ _ (by simp)).trans (by simp)
  have e6 : w2.cell? ⟨w1.heap.size, 6, none⟩ = some (.int .u8 x6) := (hc _ _ (by simp)).trans (by simp)
  have e7 : w2.cell? ⟨w1.heap.size, 7, none⟩ = some (.int .u8 x7) := (hc _ _ (by simp)).trans (by simp)
  have e8 : w2.cell? ⟨w1.heap.size, 8, none⟩ = some (.int .u8 x8) := (hc _ _ (by simp)).trans (by simp)
  have e9 : w2.cell? ⟨w1.heap.size, 9, none⟩ = some (.int .u8 x9) := (hc _ _ (by simp)).trans (by simp)
  clear hcl1 hc hf
  go_wp2_with fail

  go_at_call 82
  refine (C3.out _).mono ?_
  rintro e w3 ⟨rfl, hb3⟩
  have hbc := bchain hbb hb3 hbb.size
  clear hb2 hb3 hb1 hbb hcl2
  go_wp2_with fail
  go_ret3
  exact ⟨rfl, hbc⟩

set_option maxRecDepth 100000 in
set_option maxHeartbeats 2000000 in
theorem implGetSleb_neg_no (s : ByteArray) (k : Nat) (w : World) (hk : k < s.size) (hk10 : k < 10) (hpre : ∀ j, (h : j < k) → 128 ≤ ((s[j]'(by omega)).toNat : Int)) (hlast : (s[k].toNat : Int) < 128) (hsz : (s.size : Int) ≤ 4294967296) (r : Nat) (hgv : gv ((nums s).take (k + 1)) % 18446744073709551616 = r) (v : Int) (hv0 : -9223372036854775808 ≤ v) (hv1 : v ≤ 9223372036854775807) (hb64 : 64 ≤ (s[k].toNat : Int)) (q : Int) (hq : IntKind.u64.wrap (18446744073709551615 * 2 ^ min (7 * ((k : Int) + 1)).toNat 64) = q) (hfin : wrap64 (bits .or .u64 (r : Int) q) = v) (heq : ¬ lebS v = (nums s).take (k + 1)) :
    Calls Tryd.prog 68 #[.string s] w fun e w' => e = .returned (.tuple #[.int .i64 0, .int .i64 0, .bool false]) ∧ Below w.heap.size w w' := by
  have hll : ((nums s).take (k + 1)).length = k + 1 := by rw [List.length_take, nums_length]; omega
  have hv128 : -(64 * 128 ^ 9 : Int) ≤ v ∧ v < (64 * 128 ^ 9 : Int) := by omega
  obtain ⟨x0, hx0⟩ : ∃ x, pd ((nums s).take (k + 1)) 0 = x := ⟨_, rfl⟩
  obtain ⟨x1, hx1⟩ : ∃ x, pd ((nums s).take (k + 1)) 1 = x := ⟨_, rfl⟩
  obtain ⟨x2, hx2⟩ : ∃ x, pd ((nums s).take (k + 1)) 2 = x := ⟨_, rfl⟩
  obtain ⟨x3, hx3⟩ : ∃ x, pd ((nums s).take (k + 1)) 3 = x := ⟨_, rfl⟩
  obtain ⟨x4, hx4⟩ : ∃ x, pd ((nums s).take (k + 1)) 4 = x := ⟨_, rfl⟩
  obtain ⟨x5, hx5⟩ : ∃ x, pd ((nums s).take (k + 1)) 5 = x := ⟨_, rfl⟩
  obtain ⟨x6, hx6⟩ : ∃ x, pd ((nums s).take (k + 1)) 6 = x := ⟨_, rfl⟩
  obtain ⟨x7, hx7⟩ : ∃ x, pd ((nums s).take (k + 1)) 7 = x := ⟨_, rfl⟩
  obtain ⟨x8, hx8⟩ : ∃ x, pd ((nums s).take (k + 1)) 8 = x := ⟨_, rfl⟩
  obtain ⟨x9, hx9⟩ : ∃ x, pd ((nums s).take (k + 1)) 9 = x := ⟨_, rfl⟩
  have C1 : Hid (∀ W, Calls Tryd.prog 80 #[.string s] W fun e w' => e = .returned (.tuple #[.agg #[.int .u8 x0, .int .u8 x1, .int .u8 x2, .int .u8 x3, .int .u8 x4, .int .u8 x5, .int .u8 x6, .int .u8 x7, .int .u8 x8, .int .u8 x9], .int .i64 ((k : Int) + 1)]) ∧ Below W.heap.size W w') := fun W => lebAt_yes s k x0 x1 x2 x3 x4 x5 x6 x7 x8 x9 W hk hk10 hpre hlast hsz hx0 hx1 hx2 hx3 hx4 hx5 hx6 hx7 hx8 hx9
  have C2 : Hid (∀ W, Calls Tryd.prog 81 #[.agg #[.int .u8 x0, .int .u8 x1, .int .u8 x2, .int .u8 x3, .int .u8 x4, .int .u8 x5, .int .u8 x6, .int .u8 x7, .int .u8 x8, .int .u8 x9], .int .i64 ((k : Int) + 1)] W fun e w' => e = .returned (.int .u64 (r : Nat)) ∧ Below W.heap.size W w') := by
    intro W
    have h := groupsIn_any x0 x1 x2 x3 x4 x5 x6 x7 x8 x9 (k + 1) W (by omega) (by
      intro x hx
      simp only [List.mem_cons, List.not_mem_nil, or_false] at hx
      rcases hx with rfl | rfl | rfl | rfl | rfl | rfl | rfl | rfl | rfl | rfl
      · rw [← hx0]; exact pd_byte s _ _
      · rw [← hx1]; exact pd_byte s _ _
      · rw [← hx2]; exact pd_byte s _ _
      · rw [← hx3]; exact pd_byte s _ _
      · rw [← hx4]; exact pd_byte s _ _
      · rw [← hx5]; exact pd_byte s _ _
      · rw [← hx6]; exact pd_byte s _ _
      · rw [← hx7]; exact pd_byte s _ _
      · rw [← hx8]; exact pd_byte s _ _
      · rw [← hx9]; exact pd_byte s _ _)
    rw [ten_take ((nums s).take (k + 1)) (k + 1) hll (by omega) x0 x1 x2 x3 x4 x5 x6 x7 x8 x9 hx0 hx1 hx2 hx3 hx4 hx5 hx6 hx7 hx8 hx9, hgv] at h
    simpa using h
  have C3 : Hid (∀ W, Calls Tryd.prog 82 #[.agg #[.int .u8 x0, .int .u8 x1, .int .u8 x2, .int .u8 x3, .int .u8 x4, .int .u8 x5, .int .u8 x6, .int .u8 x7, .int .u8 x8, .int .u8 x9], .int .i64 v, .func (.func 63) #[] #[]] W fun e w' => e = .returned (.bool false) ∧ Below W.heap.size W w') := by
    intro W
    have hlen : (lebS v).length ≤ 10 := lebS_length 9 v hv128.1 hv128.2
    exact isShortS_no v x0 x1 x2 x3 x4 x5 x6 x7 x8 x9 W hv128 ⟨hv0, by omega⟩ (fun hall => heq (shape_eq (shape_lebS v) (shape_take s k hk hpre hlast) hlen (by omega) (by
      obtain ⟨a0, a1, a2, a3, a4, a5, a6, a7, a8, a9⟩ := hall
      intro j hj
      have h3 : j = 0 ∨ j = 1 ∨ j = 2 ∨ j = 3 ∨ j = 4 ∨ j = 5 ∨ j = 6 ∨ j = 7 ∨ j = 8 ∨ j = 9 := by omega
      rcases h3 with rfl | rfl | rfl | rfl | rfl | rfl | rfl | rfl | rfl | rfl
      · rw [a0, hx0]
      · rw [a1, hx1]
      · rw [a2, hx2]
      · rw [a3, hx3]
      · rw [a4, hx4]
      · rw [a5, hx5]
      · rw [a6, hx6]
      · rw [a7, hx7]
      · rw [a8, hx8]
      · rw [a9, hx9])))
  have hlastpd : pd ((nums s).take (k + 1)) k = (s[k].toNat : Int) := by
    rw [nums_take_snoc s k hk, pd_at, if_pos (by rw [List.length_take, nums_length]; omega)]
  have hcl := fun W => ten_cell W 88 ((nums s).take (k + 1)) k hk10 x0 x1 x2 x3 x4 x5 x6 x7 x8 x9 hx0 hx1 hx2 hx3 hx4 hx5 hx6 hx7 hx8 hx9
  rw [hlastpd] at hcl
  have hb0 : 0 ≤ ((s[k].toNat : Nat) : Int) := by omega
  have hand6 : bits .and .u8 ((s[k].toNat : Nat) : Int) 64 = 64 := by rw [u8_and64 _ hb0 (by omega), if_pos (by omega)]
  have hsh : ∀ W, (Op.shift .shl .u64 18446744073709551615 .i64 (7 * ((k : Int) + 1))).run Tryd.prog W = .ok (.int .u64 q) W := by
    intro W
    rw [shift_shl_any _ _ _ _ (by omega), ← hq]
    rfl
  clear hq
  generalize ((s[k].toNat : Nat) : Int) = b at *
  have hkz : (((k : Int) + 1) == 0) = false := by rw [beq_eq_false_iff_ne]; omega
  have hki : (k : Int) < 10 := by omega
  have hr64 : (r : Int) < 18446744073709551616 := by omega
  have HR := Lib.hid hr64
  clear hpre hlast hgv hll hlastpd hv128 heq hr64 hx0 hx1 hx2 hx3 hx4 hx5 hx6 hx7 hx8 hx9
  go_enter Tryd.func68, Tryd.ntmps68
  go_wp2_with fail
  go_at_call 80
  refine (C1.out _).mono ?_
  rintro e w1 ⟨rfl, hb1⟩
  have hcl1 := hcl w1
  clear hcl
  go_wp2_with fail
  go_at_call 81
  refine (C2.out _).mono ?_
  rintro e w2 ⟨rfl, hb2⟩
  have hz : w1.heap.size < w2.heap.size := by have := hb2.size; simp at this; omega
  have hbb : Below w.heap.size w w2 := bchain (hb1.alloc hb1.size _) hb2 (by have := hb1.size; simp; omega)
  obtain ⟨hc, hf⟩ := bcell hb2
  have hcl2 : w2.cell? ⟨w1.heap.size, k, none⟩ = some (.int .u8 b) := (hc _ _ (by simp)).trans hcl1
  have e0 : w2.cell? ⟨w1.heap.size, 0, none⟩ = some (.int .u8 x0) := (hc _ _ (by simp)).trans (by simp)
  have e1 : w2.cell? ⟨w1.heap.size, 1, none⟩ = some (.int .u8 x1) := (hc _ _ (by simp)).trans (by simp)
  have e2 : w2.cell? ⟨w1.heap.size, 2, none⟩ = some (.int .u8 x2) := (hc _ _ (by simp)).trans (by simp)
  have e3 : w2.cell? ⟨w1.heap.size, 3, none⟩ = some (.int .u8 x3) := (hc _ _ (by simp)).trans (by simp)
  have e4 : w2.cell? ⟨w1.heap.size, 4, none⟩ = some (.int .u8 x4) := (hc _ _ (by simp)).trans (by simp)
  have e5 : w2.cell? ⟨w1.heap.size, 5, none⟩ = some (.int .u8 x5) := (hc _ _ (by simp)).trans (by simp)
  have e6 : w2.cell? ⟨w1.heap.size, 6, none⟩ = some (.int .u8 x6) := (hc _ _ (by simp)).trans (by simp)
  have e7 : w2.cell? ⟨w1.heap.size, 7, none⟩ = some (.int .u8 x7) := (hc _ _ (by simp)).trans (by simp)
  have e8 : w2.cell? ⟨w1.heap.size, 8, none⟩ = some (.int .u8 x8) := (hc _ _ (by simp)).trans (by simp)
  have e9 : w2.cell? ⟨w1.heap.size, 9, none⟩ = some (.int .u8 x9) := (hc _ _ (by simp)).trans (by simp)
  clear hcl1 hc hf
  go_wp2_with fail

  go_at_call 82
  refine (C3.out _).mono ?_
  rintro e w3 ⟨rfl, hb3⟩
  have hbc := bchain hbb hb3 hbb.size
  clear hb2 hb3 hb1 hbb hcl2
  go_wp2_with fail
  go_ret3
  exact ⟨rfl, hbc⟩

set_option maxRecDepth 100000 in
set_option maxHeartbeats 2000000 in
theorem implGetSleb_none (s : ByteArray) (w : World) (hpre : ∀ j, (h : j < s.size) → j < 10 → 128 ≤ ((s[j]'h).toNat : Int)) (hsz : (s.size : Int) ≤ 4294967296) :
    Calls Tryd.prog 68 #[.string s] w fun e w' => e = .returned (.tuple #[.int .i64 0, .int .i64 0, .bool false]) ∧ Below w.heap.size w w' := by
  have C1 : Hid (∀ W, Calls Tryd.prog 80 #[.string s] W fun e w' => e = .returned (.tuple #[.agg #[.int .u8 0, .int .u8 0, .int .u8 0, .int .u8 0, .int .u8 0, .int .u8 0, .int .u8 0, .int .u8 0, .int .u8 0, .int .u8 0], .int .i64 0]) ∧ Below W.heap.size W w') := fun W => lebAt_no s W hpre hsz
  clear hpre
  go_enter Tryd.func68, Tryd.ntmps68
  go_wp2_with fail
  go_at_call 80
  refine (C1.out _).mono ?_
  rintro e w1 ⟨rfl, hb1⟩
  have hbb := hb1.alloc hb1.size (.cells #[.int .u8 0, .int .u8 0, .int .u8 0, .int .u8 0, .int .u8 0, .int .u8 0, .int .u8 0, .int .u8 0, .int .u8 0, .int .u8 0] 88)
  go_wp2_with fail
  go_ret3
  exact ⟨rfl, hbb⟩
end Go.Proofs.YtbjcldekapipaaaDoor

