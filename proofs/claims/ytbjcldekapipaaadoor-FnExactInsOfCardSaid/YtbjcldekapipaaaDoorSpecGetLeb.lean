/-
  Walks of the model's GetLeb.
-/
import Derived.Test.YtbjcldekapipaaaDoorL01Leb
import Derived.Test.YtbjcldekapipaaaDoorSpecPutLeb
import Derived.Deep.RegionHeld3
namespace Go.Proofs.YtbjcldekapipaaaDoor
open Go.ChangeShapes Go.WideShapes Go.ChangeAt Go.RowKit

theorem extract_data' (s : ByteArray) (a b : Nat) : (s.extract a b).data.toList = (s.data.toList.drop a).take (b - a) := by
  obtain ⟨⟨l⟩⟩ := s
  rw [ByteArray.extract_mk]
theorem lebU_byte (n : Nat) : ∀ x ∈ lebU n, 0 ≤ x ∧ x < 256 := by
  induction n using Nat.strongRecOn with
  | _ n ih =>
    intro x hx
    by_cases h : n < 128
    · rw [lebU_small n h] at hx; simp at hx; omega
    · rw [lebU_big n (by omega)] at hx
      rcases List.mem_cons.1 hx with rfl | hx
      · omega
      · exact ih (n / 128) (by omega) x hx
theorem lebS_byte (n : Int) : ∀ x ∈ lebS n, 0 ≤ x ∧ x < 256 := by
  induction hk : n.natAbs using Nat.strongRecOn generalizing n with
  | _ k ih =>
    intro x hx
    by_cases h : -64 ≤ n ∧ n < 64
    · rw [lebS_small n h.1 h.2] at hx; simp at hx; omega
    · rw [lebS_big n (by omega)] at hx
      rcases List.mem_cons.1 hx with rfl | hx
      · omega
      · exact ih (n / 128).natAbs (by omega) (n / 128) rfl x hx
/-- A text of bytes against the head of a string. -/
theorem cmp_extract (L : List Int) (hL : ∀ x ∈ L, 0 ≤ x ∧ x < 256) (s : ByteArray) (m : Nat) : ((strOfNums L).toList == (s.extract 0 m).toList) = decide (L = (nums s).take m) := by
  rw [ByteArray.toList_eq, ByteArray.toList_eq, strOfNums_data, extract_data', Bool.eq_iff_iff, beq_iff_eq, decide_eq_true_iff]
  simp only [List.drop_zero, Nat.sub_zero]
  constructor
  · intro h
    have h2 := congrArg (List.map fun b : UInt8 => (b.toNat : Int)) h
    rw [List.map_map, List.map_take] at h2
    rw [show (nums s).take m = (s.data.toList.map fun b : UInt8 => (b.toNat : Int)).take m from rfl, ← h2]
    have h3 : L.map (fun x => x) = L := List.map_id' L
    conv => lhs; rw [← h3]
    apply List.map_congr_left
    intro x hx
    have := hL x hx
    simp only [Function.comp]
    rw [UInt8.toNat_ofNat']
    omega
  · intro h
    rw [h, nums, ← List.map_take, List.map_map]
    conv => rhs; rw [← List.map_id' (s.data.toList.take m)]
    apply List.map_congr_left
    intro b _
    simp

theorem _root_.Go.RowKit.Below.of_drew {w w1 : World} (h : Below w.drew.heap.size w.drew w1) : Below w.heap.size w w1 := (Below.refl _ _).drew.trans h

set_option maxRecDepth 100000 in
set_option maxHeartbeats 1000000 in
theorem specGetLeb_yes (s : ByteArray) (k : Nat) (w : World) (hk : k < s.size) (hk9 : k < 9) (hpre : ∀ j, (h : j < k) → 128 ≤ ((s[j]'(by omega)).toNat : Int)) (hlast : (s[k].toNat : Int) < 128) (hsz : (s.size : Int) ≤ 4294967296) (heq : lebU (gv ((nums s).take (k + 1))) = (nums s).take (k + 1)) :
    Calls Tryd.prog 47 #[.string s] w fun e w' => e = .returned (.tuple #[.int .i64 (gv ((nums s).take (k + 1)) : Nat), .int .i64 ((k : Int) + 1), .bool true]) ∧ Below w.heap.size w w' := by
  have hv9 := gv9 ((nums s).take (k + 1)) (by rw [List.length_take]; omega)
  have C1 : Hid (∀ W, Calls Tryd.prog 66 #[.string s] W fun e w' => e = .returned (.tuple #[.int .i64 (gv ((nums s).take (k + 1)) : Nat), .int .i64 ((k : Int) + 1)]) ∧ W = w') := fun W => l01Leb_yes s k W hk hk9 hpre hlast hsz
  have C2 : Hid (∀ W, Calls Tryd.prog 40 #[.int .i64 (gv ((nums s).take (k + 1)) : Nat)] W fun e w' => e = .returned (.string (strOfNums (lebU (gv ((nums s).take (k + 1)))))) ∧ Below W.heap.size W w') := fun W => specPutLeb_any _ W (by omega)
  have hcmp : ((strOfNums (lebU (gv ((nums s).take (k + 1))))).toList == (s.extract 0 (k + 1)).toList) = true := by
    rw [cmp_extract _ (lebU_byte _)]; simpa using heq
  generalize strOfNums (lebU (gv ((nums s).take (k + 1)))) = p at *
  generalize gv ((nums s).take (k + 1)) = v at *
  have hks : (k : Int) + 1 ≤ (s.size : Int) := by omega
  have hk0 : (0 : Int) ≤ (k : Int) + 1 := by omega
  have hkz : (((k : Int) + 1) == 0) = false := by rw [beq_eq_false_iff_ne]; omega
  have hk9i : (k : Int) < 9 := by omega
  clear hv9 heq hpre hlast
  go_enter Tryd.func47, Tryd.ntmps47
  go_wp2_with fail
  go_at_call 66
  refine (C1.out _).mono ?_
  rintro e w' ⟨rfl, rfl⟩
  go_wp2_with fail
  go_region_held3 (fun _ => True) (trivial)
    (first | (go_at_call 40; refine (C2.out _).mono ?_; rintro e w1 ⟨rfl, hb⟩))
  all_goals
    go_wp2_with fail
    go_ret3
    exact ⟨rfl, hb.of_drew⟩

set_option maxRecDepth 100000 in
set_option maxHeartbeats 1000000 in
theorem specGetLeb_no (s : ByteArray) (k : Nat) (w : World) (hk : k < s.size) (hk9 : k < 9) (hpre : ∀ j, (h : j < k) → 128 ≤ ((s[j]'(by omega)).toNat : Int)) (hlast : (s[k].toNat : Int) < 128) (hsz : (s.size : Int) ≤ 4294967296) (heq : ¬ lebU (gv ((nums s).take (k + 1))) = (nums s).take (k + 1)) :
    Calls Tryd.prog 47 #[.string s] w fun e w' => e = .returned (.tuple #[.int .i64 0, .int .i64 0, .bool false]) ∧ Below w.heap.size w w' := by
  have hv9 := gv9 ((nums s).take (k + 1)) (by rw [List.length_take]; omega)
  have C1 : Hid (∀ W, Calls Tryd.prog 66 #[.string s] W fun e w' => e = .returned (.tuple #[.int .i64 (gv ((nums s).take (k + 1)) : Nat), .int .i64 ((k : Int) + 1)]) ∧ W = w') := fun W => l01Leb_yes s k W hk hk9 hpre hlast hsz
  have C2 : Hid (∀ W, Calls Tryd.prog 40 #[.int .i64 (gv ((nums s).take (k + 1)) : Nat)] W fun e w' => e = .returned (.string (strOfNums (lebU (gv ((nums s).take (k + 1)))))) ∧ Below W.heap.size W w') := fun W => specPutLeb_any _ W (by omega)
  have hcmp : ((strOfNums (lebU (gv ((nums s).take (k + 1))))).toList == (s.extract 0 (k + 1)).toList) = false := by
    rw [cmp_extract _ (lebU_byte _)]; simpa using heq
  generalize strOfNums (lebU (gv ((nums s).take (k + 1)))) = p at *
  generalize gv ((nums s).take (k + 1)) = v at *
  have hks : (k : Int) + 1 ≤ (s.size : Int) := by omega
  have hk0 : (0 : Int) ≤ (k : Int) + 1 := by omega
  have hkz : (((k : Int) + 1) == 0) = false := by rw [beq_eq_false_iff_ne]; omega
  have hk9i : (k : Int) < 9 := by omega
  clear hv9 heq hpre hlast
  go_enter Tryd.func47, Tryd.ntmps47
  go_wp2_with fail
  go_at_call 66
  refine (C1.out _).mono ?_
  rintro e w' ⟨rfl, rfl⟩
  go_wp2_with fail
  go_region_held3 (fun _ => True) (trivial)
    (first | (go_at_call 40; refine (C2.out _).mono ?_; rintro e w1 ⟨rfl, hb⟩))
  all_goals
    go_wp2_with fail
    go_ret3
    exact ⟨rfl, hb.of_drew⟩

set_option maxRecDepth 100000 in
set_option maxHeartbeats 1000000 in
theorem specGetLeb_none (s : ByteArray) (w : World) (hpre : ∀ j, (h : j < s.size) → j < 9 → 128 ≤ ((s[j]'h).toNat : Int)) (hsz : (s.size : Int) ≤ 4294967296) :
    Calls Tryd.prog 47 #[.string s] w fun e w' => e = .returned (.tuple #[.int .i64 0, .int .i64 0, .bool false]) ∧ Below w.heap.size w w' := by
  have C1 : Hid (∀ W, Calls Tryd.prog 66 #[.string s] W fun e w' => e = .returned (.tuple #[.int .i64 0, .int .i64 0]) ∧ W = w') := fun W => l01Leb_no s W hpre hsz
  clear hpre
  go_enter Tryd.func47, Tryd.ntmps47
  go_wp2_with fail
  go_at_call 66
  refine (C1.out _).mono ?_
  rintro e w' ⟨rfl, rfl⟩
  go_wp2_with fail
  go_quiet (fail)
  go_wp2_with fail
  go_ret3
  exact ⟨rfl, ⟨rfl, rfl, rfl, Nat.le_refl _, fun _ _ => rfl⟩⟩
end Go.Proofs.YtbjcldekapipaaaDoor
