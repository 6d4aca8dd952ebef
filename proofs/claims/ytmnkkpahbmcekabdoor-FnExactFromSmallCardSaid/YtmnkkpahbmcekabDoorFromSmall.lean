/-
  The walks of both FromSmall; the table of the ranges is a hypothesis on the world.
-/
import Derived.Test.YtmnkkpahbmcekabDoorFSTab
import Derived.Test.YtmnkkpahbmcekabDoorSmallI
import Derived.Test.YtmnkkpahbmcekabDoorIn
namespace Go.Proofs.YtmnkkpahbmcekabDoor
open Go.ChangeShapes Go.WideShapes Go.ChangeAt Go.RowKit

theorem next7 {W a b : World} (h : Below W.heap.size W a) (k : Below a.heap.size a b) : Below W.heap.size W b := bchain h k h.size
theorem has_yes (a b n : Int) (h0 : a ≤ n) (h1 : n ≤ b) (w : World) :
    Calls Tryd.prog 20 #[.agg #[.int .i64 a, .int .i64 b], .int .i64 n] w fun e w' => e = .returned (.bool true) ∧ Below w.heap.size w w' := by
  go_enter Tryd.func20, Tryd.ntmps20
  go_wp2_with fail
  go_ret
  exact ⟨rfl, below1 _ _⟩
theorem has_no (a b n : Int) (h : n < a ∨ b < n) (w : World) :
    Calls Tryd.prog 20 #[.agg #[.int .i64 a, .int .i64 b], .int .i64 n] w fun e w' => e = .returned (.bool false) ∧ Below w.heap.size w w' := by
  by_cases h1 : a ≤ n
  · have h2 : ¬ n ≤ b := by omega
    have h3 : decide (n ≤ b) = false := decide_eq_false h2
    clear h
    go_enter Tryd.func20, Tryd.ntmps20
    go_wp2_with fail
    go_ret
    exact ⟨rfl, below1 _ _⟩
  · have h3 : decide (a ≤ n) = false := decide_eq_false h1
    clear h
    go_enter Tryd.func20, Tryd.ntmps20
    go_wp2_with fail
    go_ret
    exact ⟨rfl, below1 _ _⟩
theorem notHandle_no (n : Int) (_ : 0 ≤ n) (h1 : n ≤ 2147483647) (w : World) :
    Calls Tryd.prog 22 #[.int .i64 n] w fun e w' => e = .returned (.bool false) ∧ w = w' := by
  have h2 : ¬ n < 0 := by omega
  have h3 : ¬ 2147483647 < n := by omega
  have h4 : decide (n < 0) = false := decide_eq_false h2
  have h5 : decide (2147483647 < n) = false := decide_eq_false h3
  go_enter Tryd.func22, Tryd.ntmps22
  go_wp2_with fail
  go_ret
  exact ⟨rfl, rfl⟩
theorem notHandle_yes (n : Int) (_ : 0 ≤ n) (h1 : 2147483647 < n) (w : World) :
    Calls Tryd.prog 22 #[.int .i64 n] w fun e w' => e = .returned (.bool true) ∧ w = w' := by
  have h2 : ¬ n < 0 := by omega
  have h4 : decide (n < 0) = false := decide_eq_false h2
  have h5 : decide (2147483647 < n) = true := decide_eq_true h1
  go_enter Tryd.func22, Tryd.ntmps22
  go_wp2_with fail
  go_ret
  exact ⟨rfl, rfl⟩

theorem specCharOk_yes (n : Int) (h : (0 ≤ n ∧ n ≤ 55295) ∨ (57344 ≤ n ∧ n ≤ 1114111)) (w : World) :
    Calls Tryd.prog 17 #[.int .i64 n] w fun e w' => e = .returned (.bool true) ∧ w = w' := by
  rcases h with ⟨h1, h2⟩ | ⟨h1, h2⟩
  · go_enter Tryd.func17, Tryd.ntmps17
    go_wp2_with (go_at_call 16; (first | refine (l00In_yes _ _ _ _ (by omega) (by omega)).mono ?_ | refine (l00In_no _ _ _ _ (by omega)).mono ?_); rintro e w' ⟨rfl, rfl⟩)
    go_ret
    exact ⟨rfl, rfl⟩
  · go_enter Tryd.func17, Tryd.ntmps17
    go_wp2_with (go_at_call 16; (first | refine (l00In_yes _ _ _ _ (by omega) (by omega)).mono ?_ | refine (l00In_no _ _ _ _ (by omega)).mono ?_); rintro e w' ⟨rfl, rfl⟩)
    go_ret
    exact ⟨rfl, rfl⟩

theorem specCharOk_no (n : Int) (h : ¬ ((0 ≤ n ∧ n ≤ 55295) ∨ (57344 ≤ n ∧ n ≤ 1114111))) (w : World) :
    Calls Tryd.prog 17 #[.int .i64 n] w fun e w' => e = .returned (.bool false) ∧ w = w' := by
  have h1 : n < 0 ∨ 55295 < n := by omega
  have h2 : n < 57344 ∨ 1114111 < n := by omega
  clear h
  go_enter Tryd.func17, Tryd.ntmps17
  go_wp2_with (go_at_call 16; (refine (l00In_no _ _ _ _ (by omega)).mono ?_); rintro e w' ⟨rfl, rfl⟩)
  go_ret
  exact ⟨rfl, rfl⟩

theorem implCharOk_yes (n : Int) (h : (0 ≤ n ∧ n ≤ 55295) ∨ (57344 ≤ n ∧ n ≤ 1114111)) (w : World) :
    Calls Tryd.prog 21 #[.int .i64 n] w fun e w' => e = .returned (.bool true) ∧ w = w' := by
  rcases h with ⟨h1, h2⟩ | ⟨h1, h2⟩
  · go_enter Tryd.func21, Tryd.ntmps21
    go_wp2
    go_ret
    exact ⟨rfl, rfl⟩
  · have h3 : 0 ≤ n := by omega
    have h4 : ¬ n ≤ 55295 := by omega
    go_enter Tryd.func21, Tryd.ntmps21
    go_wp2
    go_ret
    exact ⟨rfl, rfl⟩

theorem implCharOk_no (n : Int) (h : ¬ ((0 ≤ n ∧ n ≤ 55295) ∨ (57344 ≤ n ∧ n ≤ 1114111))) (w : World) :
    Calls Tryd.prog 21 #[.int .i64 n] w fun e w' => e = .returned (.bool false) ∧ w = w' := by
  by_cases h1 : n < 0
  · have h2 : ¬ 0 ≤ n := by omega
    have h3 : ¬ 57344 ≤ n := by omega
    clear h
    go_enter Tryd.func21, Tryd.ntmps21
    go_wp2
    go_ret
    exact ⟨rfl, rfl⟩
  · have h2 : 0 ≤ n := by omega
    have h3 : ¬ n ≤ 55295 := by omega
    by_cases h4 : n < 57344
    · have h5 : ¬ 57344 ≤ n := by omega
      clear h
      go_enter Tryd.func21, Tryd.ntmps21
      go_wp2
      go_ret
      exact ⟨rfl, rfl⟩
    · have h5 : 57344 ≤ n := by omega
      have h6 : ¬ n ≤ 1114111 := by omega
      have h7 : decide (n ≤ 1114111) = false := decide_eq_false h6
      clear h
      go_enter Tryd.func21, Tryd.ntmps21
      go_wp2
      go_ret
      exact ⟨rfl, rfl⟩


theorem specNR_out (k : Int) (h : k < 3 ∨ 9 < k) (w : World) :
    Calls Tryd.prog 18 #[.int .i64 k] w fun e w' => e = .returned (.tuple #[.int .i64 0, .int .i64 0, .bool false]) ∧ Below w.heap.size w w' := by
  have h3 : (k == 3) = false := by rw [beq_eq_false_iff_ne]; omega
  have h4 : (k == 4) = false := by rw [beq_eq_false_iff_ne]; omega
  have h5 : (k == 5) = false := by rw [beq_eq_false_iff_ne]; omega
  have h6 : (k == 6) = false := by rw [beq_eq_false_iff_ne]; omega
  have h7 : (k == 7) = false := by rw [beq_eq_false_iff_ne]; omega
  have h8 : (k == 8) = false := by rw [beq_eq_false_iff_ne]; omega
  have h9 : (k == 9) = false := by rw [beq_eq_false_iff_ne]; omega
  clear h
  go_enter Tryd.func18, Tryd.ntmps18
  go_wp2
  go_ret3
  exact ⟨rfl, Below.refl _ _⟩
theorem specNR_3 (w : World) :
    Calls Tryd.prog 18 #[.int .i64 3] w fun e w' => e = .returned (.tuple #[.int .i64 0, .int .i64 255, .bool true]) ∧ Below w.heap.size w w' := by
  go_enter Tryd.func18, Tryd.ntmps18
  go_wp2
  go_ret3
  exact ⟨rfl, Below.refl _ _⟩
theorem specNR_4 (w : World) :
    Calls Tryd.prog 18 #[.int .i64 4] w fun e w' => e = .returned (.tuple #[.int .i64 (-128), .int .i64 127, .bool true]) ∧ Below w.heap.size w w' := by
  go_enter Tryd.func18, Tryd.ntmps18
  go_wp2
  go_ret3
  exact ⟨rfl, Below.refl _ _⟩
theorem specNR_5 (w : World) :
    Calls Tryd.prog 18 #[.int .i64 5] w fun e w' => e = .returned (.tuple #[.int .i64 0, .int .i64 65535, .bool true]) ∧ Below w.heap.size w w' := by
  go_enter Tryd.func18, Tryd.ntmps18
  go_wp2
  go_ret3
  exact ⟨rfl, Below.refl _ _⟩
theorem specNR_6 (w : World) :
    Calls Tryd.prog 18 #[.int .i64 6] w fun e w' => e = .returned (.tuple #[.int .i64 (-32768), .int .i64 32767, .bool true]) ∧ Below w.heap.size w w' := by
  go_enter Tryd.func18, Tryd.ntmps18
  go_wp2
  go_ret3
  exact ⟨rfl, Below.refl _ _⟩
theorem specNR_7 (w : World) :
    Calls Tryd.prog 18 #[.int .i64 7] w fun e w' => e = .returned (.tuple #[.int .i64 0, .int .i64 4294967295, .bool true]) ∧ Below w.heap.size w w' := by
  go_enter Tryd.func18, Tryd.ntmps18
  go_wp2
  go_ret3
  exact ⟨rfl, Below.refl _ _⟩
theorem specNR_8 (w : World) :
    Calls Tryd.prog 18 #[.int .i64 8] w fun e w' => e = .returned (.tuple #[.int .i64 (-2147483648), .int .i64 2147483647, .bool true]) ∧ Below w.heap.size w w' := by
  go_enter Tryd.func18, Tryd.ntmps18
  go_wp2
  go_ret3
  exact ⟨rfl, Below.refl _ _⟩
theorem specNR_9 (w : World) :
    Calls Tryd.prog 18 #[.int .i64 9] w fun e w' => e = .returned (.tuple #[.int .i64 (-9223372036854775808), .int .i64 9223372036854775807, .bool true]) ∧ Below w.heap.size w w' := by
  go_enter Tryd.func18, Tryd.ntmps18
  go_wp2
  go_ret3
  exact ⟨rfl, Below.refl _ _⟩

set_option maxHeartbeats 1000000 in
theorem implFS_3y (n : Int) (h0 : 0 ≤ n) (h1 : n ≤ 4294967295) (h2 : n ≤ 255) (w : World) (hT : w.cell? ⟨0, 6, none⟩ = some (.int .i64 0)) (hU : w.cell? ⟨0, 7, none⟩ = some (.int .i64 255)) :
    Calls Tryd.prog 6 #[.int .i64 3, .int .i64 n] w fun e w' => e = .returned (.tuple #[.int .i64 n, .bool true]) ∧ Below w.heap.size w w' := by
  have CM := Lib.hid (fun W => isSmall_yes n h0 h1 W)
  have CH := Lib.hid (fun W => has_yes 0 255 n h0 h2 W)
  clear h0 h1 h2
  go_enter Tryd.func6, Tryd.ntmps6
  go_wp2_with fail
  go_at_call 19
  refine (CM.out _).mono ?_
  rintro e wx0 ⟨rfl, rfl⟩
  go_wp2_with fail
  go_at_call 20
  refine (CH.out _).mono ?_
  rintro e wx1 ⟨rfl, hb1⟩
  have HB1 := Lib.hid hb1
  clear hb1
  go_wp2_with fail
  go_ret2
  exact ⟨rfl, HB1.out⟩

set_option maxHeartbeats 1000000 in
theorem specFS_3y (n : Int) (h0 : 0 ≤ n) (h1 : n ≤ 4294967295) (h2 : n ≤ 255) (w : World) :
    Calls Tryd.prog 5 #[.int .i64 3, .int .i64 n] w fun e w' => e = .returned (.tuple #[.int .i64 n, .bool true]) ∧ Below w.heap.size w w' := by
  have CM := Lib.hid (fun W => l00In_yes n 0 4294967295 W h0 h1)
  have CR := Lib.hid (fun W => specNR_3 W)
  have CH := Lib.hid (fun W => l00In_yes n 0 255 W h0 h2)
  clear h0 h1 h2
  go_enter Tryd.func5, Tryd.ntmps5
  go_wp2_with fail
  go_at_call 16
  refine (CM.out _).mono ?_
  rintro e wx0 ⟨rfl, rfl⟩
  go_wp2_with fail
  go_at_call 18
  refine (CR.out _).mono ?_
  rintro e wx1 ⟨rfl, hb1⟩
  have HB1 := Lib.hid hb1
  clear hb1
  go_wp2_with fail
  go_at_call 16
  refine (CH.out _).mono ?_
  rintro e wx2 ⟨rfl, rfl⟩
  go_wp2_with fail
  go_ret2
  exact ⟨rfl, HB1.out⟩

set_option maxHeartbeats 1000000 in
theorem implFS_3n (n : Int) (h0 : 0 ≤ n) (h1 : n ≤ 4294967295) (h2 : 255 < n) (w : World) (hT : w.cell? ⟨0, 6, none⟩ = some (.int .i64 0)) (hU : w.cell? ⟨0, 7, none⟩ = some (.int .i64 255)) :
    Calls Tryd.prog 6 #[.int .i64 3, .int .i64 n] w fun e w' => e = .returned (.tuple #[.int .i64 0, .bool false]) ∧ Below w.heap.size w w' := by
  have CM := Lib.hid (fun W => isSmall_yes n h0 h1 W)
  have CH := Lib.hid (fun W => has_no 0 255 n (Or.inr h2) W)
  clear h0 h1 h2
  go_enter Tryd.func6, Tryd.ntmps6
  go_wp2_with fail
  go_at_call 19
  refine (CM.out _).mono ?_
  rintro e wx0 ⟨rfl, rfl⟩
  go_wp2_with fail
  go_at_call 20
  refine (CH.out _).mono ?_
  rintro e wx1 ⟨rfl, hb1⟩
  have HB1 := Lib.hid hb1
  clear hb1
  go_wp2_with fail
  go_ret2
  exact ⟨rfl, HB1.out⟩

set_option maxHeartbeats 1000000 in
theorem specFS_3n (n : Int) (h0 : 0 ≤ n) (h1 : n ≤ 4294967295) (h2 : 255 < n) (w : World) :
    Calls Tryd.prog 5 #[.int .i64 3, .int .i64 n] w fun e w' => e = .returned (.tuple #[.int .i64 0, .bool false]) ∧ Below w.heap.size w w' := by
  have CM := Lib.hid (fun W => l00In_yes n 0 4294967295 W h0 h1)
  have CR := Lib.hid (fun W => specNR_3 W)
  have CH := Lib.hid (fun W => l00In_no n 0 255 W (Or.inr h2))
  clear h0 h1 h2
  go_enter Tryd.func5, Tryd.ntmps5
  go_wp2_with fail
  go_at_call 16
  refine (CM.out _).mono ?_
  rintro e wx0 ⟨rfl, rfl⟩
  go_wp2_with fail
  go_at_call 18
  refine (CR.out _).mono ?_
  rintro e wx1 ⟨rfl, hb1⟩
  have HB1 := Lib.hid hb1
  clear hb1
  go_wp2_with fail
  go_at_call 16
  refine (CH.out _).mono ?_
  rintro e wx2 ⟨rfl, rfl⟩
  go_wp2_with fail
  go_ret2
  exact ⟨rfl, HB1.out⟩

set_option maxHeartbeats 1000000 in
theorem implFS_5y (n : Int) (h0 : 0 ≤ n) (h1 : n ≤ 4294967295) (h2 : n ≤ 65535) (w : World) (hT : w.cell? ⟨0, 10, none⟩ = some (.int .i64 0)) (hU : w.cell? ⟨0, 11, none⟩ = some (.int .i64 65535)) :
    Calls Tryd.prog 6 #[.int .i64 5, .int .i64 n] w fun e w' => e = .returned (.tuple #[.int .i64 n, .bool true]) ∧ Below w.heap.size w w' := by
  have CM := Lib.hid (fun W => isSmall_yes n h0 h1 W)
  have CH := Lib.hid (fun W => has_yes 0 65535 n h0 h2 W)
  clear h0 h1 h2
  go_enter Tryd.func6, Tryd.ntmps6
  go_wp2_with fail
  go_at_call 19
  refine (CM.out _).mono ?_
  rintro e wx0 ⟨rfl, rfl⟩
  go_wp2_with fail
  go_at_call 20
  refine (CH.out _).mono ?_
  rintro e wx1 ⟨rfl, hb1⟩
  have HB1 := Lib.hid hb1
  clear hb1
  go_wp2_with fail
  go_ret2
  exact ⟨rfl, HB1.out⟩

set_option maxHeartbeats 1000000 in
theorem specFS_5y (n : Int) (h0 : 0 ≤ n) (h1 : n ≤ 4294967295) (h2 : n ≤ 65535) (w : World) :
    Calls Tryd.prog 5 #[.int .i64 5, .int .i64 n] w fun e w' => e = .returned (.tuple #[.int .i64 n, .bool true]) ∧ Below w.heap.size w w' := by
  have CM := Lib.hid (fun W => l00In_yes n 0 4294967295 W h0 h1)
  have CR := Lib.hid (fun W => specNR_5 W)
  have CH := Lib.hid (fun W => l00In_yes n 0 65535 W h0 h2)
  clear h0 h1 h2
  go_enter Tryd.func5, Tryd.ntmps5
  go_wp2_with fail
  go_at_call 16
  refine (CM.out _).mono ?_
  rintro e wx0 ⟨rfl, rfl⟩
  go_wp2_with fail
  go_at_call 18
  refine (CR.out _).mono ?_
  rintro e wx1 ⟨rfl, hb1⟩
  have HB1 := Lib.hid hb1
  clear hb1
  go_wp2_with fail
  go_at_call 16
  refine (CH.out _).mono ?_
  rintro e wx2 ⟨rfl, rfl⟩
  go_wp2_with fail
  go_ret2
  exact ⟨rfl, HB1.out⟩

set_option maxHeartbeats 1000000 in
theorem implFS_5n (n : Int) (h0 : 0 ≤ n) (h1 : n ≤ 4294967295) (h2 : 65535 < n) (w : World) (hT : w.cell? ⟨0, 10, none⟩ = some (.int .i64 0)) (hU : w.cell? ⟨0, 11, none⟩ = some (.int .i64 65535)) :
    Calls Tryd.prog 6 #[.int .i64 5, .int .i64 n] w fun e w' => e = .returned (.tuple #[.int .i64 0, .bool false]) ∧ Below w.heap.size w w' := by
  have CM := Lib.hid (fun W => isSmall_yes n h0 h1 W)
  have CH := Lib.hid (fun W => has_no 0 65535 n (Or.inr h2) W)
  clear h0 h1 h2
  go_enter Tryd.func6, Tryd.ntmps6
  go_wp2_with fail
  go_at_call 19
  refine (CM.out _).mono ?_
  rintro e wx0 ⟨rfl, rfl⟩
  go_wp2_with fail
  go_at_call 20
  refine (CH.out _).mono ?_
  rintro e wx1 ⟨rfl, hb1⟩
  have HB1 := Lib.hid hb1
  clear hb1
  go_wp2_with fail
  go_ret2
  exact ⟨rfl, HB1.out⟩

set_option maxHeartbeats 1000000 in
theorem specFS_5n (n : Int) (h0 : 0 ≤ n) (h1 : n ≤ 4294967295) (h2 : 65535 < n) (w : World) :
    Calls Tryd.prog 5 #[.int .i64 5, .int .i64 n] w fun e w' => e = .returned (.tuple #[.int .i64 0, .bool false]) ∧ Below w.heap.size w w' := by
  have CM := Lib.hid (fun W => l00In_yes n 0 4294967295 W h0 h1)
  have CR := Lib.hid (fun W => specNR_5 W)
  have CH := Lib.hid (fun W => l00In_no n 0 65535 W (Or.inr h2))
  clear h0 h1 h2
  go_enter Tryd.func5, Tryd.ntmps5
  go_wp2_with fail
  go_at_call 16
  refine (CM.out _).mono ?_
  rintro e wx0 ⟨rfl, rfl⟩
  go_wp2_with fail
  go_at_call 18
  refine (CR.out _).mono ?_
  rintro e wx1 ⟨rfl, hb1⟩
  have HB1 := Lib.hid hb1
  clear hb1
  go_wp2_with fail
  go_at_call 16
  refine (CH.out _).mono ?_
  rintro e wx2 ⟨rfl, rfl⟩
  go_wp2_with fail
  go_ret2
  exact ⟨rfl, HB1.out⟩

set_option maxHeartbeats 1000000 in
theorem implFS_7y (n : Int) (h0 : 0 ≤ n) (h1 : n ≤ 4294967295) (h2 : n ≤ 4294967295) (w : World) (hT : w.cell? ⟨0, 14, none⟩ = some (.int .i64 0)) (hU : w.cell? ⟨0, 15, none⟩ = some (.int .i64 4294967295)) :
    Calls Tryd.prog 6 #[.int .i64 7, .int .i64 n] w fun e w' => e = .returned (.tuple #[.int .i64 n, .bool true]) ∧ Below w.heap.size w w' := by
  have CM := Lib.hid (fun W => isSmall_yes n h0 h1 W)
  have CH := Lib.hid (fun W => has_yes 0 4294967295 n h0 h2 W)
  clear h0 h1 h2
  go_enter Tryd.func6, Tryd.ntmps6
  go_wp2_with fail
  go_at_call 19
  refine (CM.out _).mono ?_
  rintro e wx0 ⟨rfl, rfl⟩
  go_wp2_with fail
  go_at_call 20
  refine (CH.out _).mono ?_
  rintro e wx1 ⟨rfl, hb1⟩
  have HB1 := Lib.hid hb1
  clear hb1
  go_wp2_with fail
  go_ret2
  exact ⟨rfl, HB1.out⟩

set_option maxHeartbeats 1000000 in
theorem specFS_7y (n : Int) (h0 : 0 ≤ n) (h1 : n ≤ 4294967295) (h2 : n ≤ 4294967295) (w : World) :
    Calls Tryd.prog 5 #[.int .i64 7, .int .i64 n] w fun e w' => e = .returned (.tuple #[.int .i64 n, .bool true]) ∧ Below w.heap.size w w' := by
  have CM := Lib.hid (fun W => l00In_yes n 0 4294967295 W h0 h1)
  have CR := Lib.hid (fun W => specNR_7 W)
  have CH := Lib.hid (fun W => l00In_yes n 0 4294967295 W h0 h2)
  clear h0 h1 h2
  go_enter Tryd.func5, Tryd.ntmps5
  go_wp2_with fail
  go_at_call 16
  refine (CM.out _).mono ?_
  rintro e wx0 ⟨rfl, rfl⟩
  go_wp2_with fail
  go_at_call 18
  refine (CR.out _).mono ?_
  rintro e wx1 ⟨rfl, hb1⟩
  have HB1 := Lib.hid hb1
  clear hb1
  go_wp2_with fail
  go_at_call 16
  refine (CH.out _).mono ?_
  rintro e wx2 ⟨rfl, rfl⟩
  go_wp2_with fail
  go_ret2
  exact ⟨rfl, HB1.out⟩

set_option maxHeartbeats 1000000 in
theorem implFS_4sy (n N : Int) (h0 : 0 ≤ n) (h1 : n ≤ 4294967295) (hN : N = n) (hb : n ≤ 2147483647) (h2 : (-128) ≤ N ∧ N ≤ 127) (w : World) (hT : w.cell? ⟨0, 8, none⟩ = some (.int .i64 (-128))) (hU : w.cell? ⟨0, 9, none⟩ = some (.int .i64 127)) :
    Calls Tryd.prog 6 #[.int .i64 4, .int .i64 n] w fun e w' => e = .returned (.tuple #[.int .i64 N, .bool true]) ∧ Below w.heap.size w w' := by
  have CM := Lib.hid (fun W => isSmall_yes n h0 h1 W)
  have e1 : IntKind.i32.wrap n = N := by rw [IntKind.wrap_i32]; omega
  have e2 : IntKind.i64.wrap N = N := by rw [IntKind.wrap_i64]; omega
  have CH := Lib.hid (fun W => has_yes (-128) 127 N h2.1 h2.2 W)
  clear h0 h1 h2 hb hN
  go_enter Tryd.func6, Tryd.ntmps6
  go_wp2_with fail
  go_at_call 19
  refine (CM.out _).mono ?_
  rintro e wx0 ⟨rfl, rfl⟩
  go_wp2_with fail
  go_at_call 20
  refine (CH.out _).mono ?_
  rintro e wx1 ⟨rfl, hb1⟩
  have HB1 := Lib.hid hb1
  clear hb1
  go_wp2_with fail
  go_ret2
  exact ⟨rfl, HB1.out⟩

set_option maxHeartbeats 1000000 in
theorem specFS_4sy (n N : Int) (h0 : 0 ≤ n) (h1 : n ≤ 4294967295) (hN : N = n) (hb : n ≤ 2147483647) (h2 : (-128) ≤ N ∧ N ≤ 127) (w : World) :
    Calls Tryd.prog 5 #[.int .i64 4, .int .i64 n] w fun e w' => e = .returned (.tuple #[.int .i64 N, .bool true]) ∧ Below w.heap.size w w' := by
  have CM := Lib.hid (fun W => l00In_yes n 0 4294967295 W h0 h1)
  have CR := Lib.hid (fun W => specNR_4 W)
  have CH := Lib.hid (fun W => l00In_yes N (-128) 127 W h2.1 h2.2)
  have e3 : ¬ 2147483647 < n := by omega
  subst hN
  clear h0 h1 h2 hb
  go_enter Tryd.func5, Tryd.ntmps5
  go_wp2_with fail
  go_at_call 16
  refine (CM.out _).mono ?_
  rintro e wx0 ⟨rfl, rfl⟩
  go_wp2_with fail
  go_at_call 18
  refine (CR.out _).mono ?_
  rintro e wx1 ⟨rfl, hb1⟩
  have HB1 := Lib.hid hb1
  clear hb1
  go_wp2_with fail
  go_at_call 16
  refine (CH.out _).mono ?_
  rintro e wx2 ⟨rfl, rfl⟩
  go_wp2_with fail
  go_ret2
  exact ⟨rfl, HB1.out⟩

set_option maxHeartbeats 1000000 in
theorem implFS_4sn (n N : Int) (h0 : 0 ≤ n) (h1 : n ≤ 4294967295) (hN : N = n) (hb : n ≤ 2147483647) (h2 : N < (-128) ∨ 127 < N) (w : World) (hT : w.cell? ⟨0, 8, none⟩ = some (.int .i64 (-128))) (hU : w.cell? ⟨0, 9, none⟩ = some (.int .i64 127)) :
    Calls Tryd.prog 6 #[.int .i64 4, .int .i64 n] w fun e w' => e = .returned (.tuple #[.int .i64 0, .bool false]) ∧ Below w.heap.size w w' := by
  have CM := Lib.hid (fun W => isSmall_yes n h0 h1 W)
  have e1 : IntKind.i32.wrap n = N := by rw [IntKind.wrap_i32]; omega
  have e2 : IntKind.i64.wrap N = N := by rw [IntKind.wrap_i64]; omega
  have CH := Lib.hid (fun W => has_no (-128) 127 N h2 W)
  clear h0 h1 h2 hb hN
  go_enter Tryd.func6, Tryd.ntmps6
  go_wp2_with fail
  go_at_call 19
  refine (CM.out _).mono ?_
  rintro e wx0 ⟨rfl, rfl⟩
  go_wp2_with fail
  go_at_call 20
  refine (CH.out _).mono ?_
  rintro e wx1 ⟨rfl, hb1⟩
  have HB1 := Lib.hid hb1
  clear hb1
  go_wp2_with fail
  go_ret2
  exact ⟨rfl, HB1.out⟩

set_option maxHeartbeats 1000000 in
theorem specFS_4sn (n N : Int) (h0 : 0 ≤ n) (h1 : n ≤ 4294967295) (hN : N = n) (hb : n ≤ 2147483647) (h2 : N < (-128) ∨ 127 < N) (w : World) :
    Calls Tryd.prog 5 #[.int .i64 4, .int .i64 n] w fun e w' => e = .returned (.tuple #[.int .i64 0, .bool false]) ∧ Below w.heap.size w w' := by
  have CM := Lib.hid (fun W => l00In_yes n 0 4294967295 W h0 h1)
  have CR := Lib.hid (fun W => specNR_4 W)
  have CH := Lib.hid (fun W => l00In_no N (-128) 127 W h2)
  have e3 : ¬ 2147483647 < n := by omega
  subst hN
  clear h0 h1 h2 hb
  go_enter Tryd.func5, Tryd.ntmps5
  go_wp2_with fail
  go_at_call 16
  refine (CM.out _).mono ?_
  rintro e wx0 ⟨rfl, rfl⟩
  go_wp2_with fail
  go_at_call 18
  refine (CR.out _).mono ?_
  rintro e wx1 ⟨rfl, hb1⟩
  have HB1 := Lib.hid hb1
  clear hb1
  go_wp2_with fail
  go_at_call 16
  refine (CH.out _).mono ?_
  rintro e wx2 ⟨rfl, rfl⟩
  go_wp2_with fail
  go_ret2
  exact ⟨rfl, HB1.out⟩

set_option maxHeartbeats 1000000 in
theorem implFS_4by (n N : Int) (h0 : 0 ≤ n) (h1 : n ≤ 4294967295) (hN : N = n - 4294967296) (hb : 2147483647 < n) (h2 : (-128) ≤ N ∧ N ≤ 127) (w : World) (hT : w.cell? ⟨0, 8, none⟩ = some (.int .i64 (-128))) (hU : w.cell? ⟨0, 9, none⟩ = some (.int .i64 127)) :
    Calls Tryd.prog 6 #[.int .i64 4, .int .i64 n] w fun e w' => e = .returned (.tuple #[.int .i64 N, .bool true]) ∧ Below w.heap.size w w' := by
  have CM := Lib.hid (fun W => isSmall_yes n h0 h1 W)
  have e1 : IntKind.i32.wrap n = N := by rw [IntKind.wrap_i32]; omega
  have e2 : IntKind.i64.wrap N = N := by rw [IntKind.wrap_i64]; omega
  have CH := Lib.hid (fun W => has_yes (-128) 127 N h2.1 h2.2 W)
  clear h0 h1 h2 hb hN
  go_enter Tryd.func6, Tryd.ntmps6
  go_wp2_with fail
  go_at_call 19
  refine (CM.out _).mono ?_
  rintro e wx0 ⟨rfl, rfl⟩
  go_wp2_with fail
  go_at_call 20
  refine (CH.out _).mono ?_
  rintro e wx1 ⟨rfl, hb1⟩
  have HB1 := Lib.hid hb1
  clear hb1
  go_wp2_with fail
  go_ret2
  exact ⟨rfl, HB1.out⟩

set_option maxHeartbeats 1000000 in
theorem specFS_4by (n N : Int) (h0 : 0 ≤ n) (h1 : n ≤ 4294967295) (hN : N = n - 4294967296) (hb : 2147483647 < n) (h2 : (-128) ≤ N ∧ N ≤ 127) (w : World) :
    Calls Tryd.prog 5 #[.int .i64 4, .int .i64 n] w fun e w' => e = .returned (.tuple #[.int .i64 N, .bool true]) ∧ Below w.heap.size w w' := by
  have CM := Lib.hid (fun W => l00In_yes n 0 4294967295 W h0 h1)
  have CR := Lib.hid (fun W => specNR_4 W)
  have CH := Lib.hid (fun W => l00In_yes N (-128) 127 W h2.1 h2.2)
  have e1 : n - 4294967296 = N := hN.symm
  have e3 : -9223372036854775808 ≤ n - 4294967296 ∧ n - 4294967296 ≤ 9223372036854775807 := by omega
  clear h0 h1 h2 hN
  go_enter Tryd.func5, Tryd.ntmps5
  go_wp2_with fail
  go_at_call 16
  refine (CM.out _).mono ?_
  rintro e wx0 ⟨rfl, rfl⟩
  go_wp2_with fail
  go_at_call 18
  refine (CR.out _).mono ?_
  rintro e wx1 ⟨rfl, hb1⟩
  have HB1 := Lib.hid hb1
  clear hb1
  go_wp2_with fail
  go_at_call 16
  refine (CH.out _).mono ?_
  rintro e wx2 ⟨rfl, rfl⟩
  go_wp2_with fail
  go_ret2
  exact ⟨rfl, HB1.out⟩

set_option maxHeartbeats 1000000 in
theorem implFS_4bn (n N : Int) (h0 : 0 ≤ n) (h1 : n ≤ 4294967295) (hN : N = n - 4294967296) (hb : 2147483647 < n) (h2 : N < (-128) ∨ 127 < N) (w : World) (hT : w.cell? ⟨0, 8, none⟩ = some (.int .i64 (-128))) (hU : w.cell? ⟨0, 9, none⟩ = some (.int .i64 127)) :
    Calls Tryd.prog 6 #[.int .i64 4, .int .i64 n] w fun e w' => e = .returned (.tuple #[.int .i64 0, .bool false]) ∧ Below w.heap.size w w' := by
  have CM := Lib.hid (fun W => isSmall_yes n h0 h1 W)
  have e1 : IntKind.i32.wrap n = N := by rw [IntKind.wrap_i32]; omega
  have e2 : IntKind.i64.wrap N = N := by rw [IntKind.wrap_i64]; omega
  have CH := Lib.hid (fun W => has_no (-128) 127 N h2 W)
  clear h0 h1 h2 hb hN
  go_enter Tryd.func6, Tryd.ntmps6
  go_wp2_with fail
  go_at_call 19
  refine (CM.out _).mono ?_
  rintro e wx0 ⟨rfl, rfl⟩
  go_wp2_with fail
  go_at_call 20
  refine (CH.out _).mono ?_
  rintro e wx1 ⟨rfl, hb1⟩
  have HB1 := Lib.hid hb1
  clear hb1
  go_wp2_with fail
  go_ret2
  exact ⟨rfl, HB1.out⟩

set_option maxHeartbeats 1000000 in
theorem specFS_4bn (n N : Int) (h0 : 0 ≤ n) (h1 : n ≤ 4294967295) (hN : N = n - 4294967296) (hb : 2147483647 < n) (h2 : N < (-128) ∨ 127 < N) (w : World) :
    Calls Tryd.prog 5 #[.int .i64 4, .int .i64 n] w fun e w' => e = .returned (.tuple #[.int .i64 0, .bool false]) ∧ Below w.heap.size w w' := by
  have CM := Lib.hid (fun W => l00In_yes n 0 4294967295 W h0 h1)
  have CR := Lib.hid (fun W => specNR_4 W)
  have CH := Lib.hid (fun W => l00In_no N (-128) 127 W h2)
  have e1 : n - 4294967296 = N := hN.symm
  have e3 : -9223372036854775808 ≤ n - 4294967296 ∧ n - 4294967296 ≤ 9223372036854775807 := by omega
  clear h0 h1 h2 hN
  go_enter Tryd.func5, Tryd.ntmps5
  go_wp2_with fail
  go_at_call 16
  refine (CM.out _).mono ?_
  rintro e wx0 ⟨rfl, rfl⟩
  go_wp2_with fail
  go_at_call 18
  refine (CR.out _).mono ?_
  rintro e wx1 ⟨rfl, hb1⟩
  have HB1 := Lib.hid hb1
  clear hb1
  go_wp2_with fail
  go_at_call 16
  refine (CH.out _).mono ?_
  rintro e wx2 ⟨rfl, rfl⟩
  go_wp2_with fail
  go_ret2
  exact ⟨rfl, HB1.out⟩

set_option maxHeartbeats 1000000 in
theorem implFS_6sy (n N : Int) (h0 : 0 ≤ n) (h1 : n ≤ 4294967295) (hN : N = n) (hb : n ≤ 2147483647) (h2 : (-32768) ≤ N ∧ N ≤ 32767) (w : World) (hT : w.cell? ⟨0, 12, none⟩ = some (.int .i64 (-32768))) (hU : w.cell? ⟨0, 13, none⟩ = some (.int .i64 32767)) :
    Calls Tryd.prog 6 #[.int .i64 6, .int .i64 n] w fun e w' => e = .returned (.tuple #[.int .i64 N, .bool true]) ∧ Below w.heap.size w w' := by
  have CM := Lib.hid (fun W => isSmall_yes n h0 h1 W)
  have e1 : IntKind.i32.wrap n = N := by rw [IntKind.wrap_i32]; omega
  have e2 : IntKind.i64.wrap N = N := by rw [IntKind.wrap_i64]; omega
  have CH := Lib.hid (fun W => has_yes (-32768) 32767 N h2.1 h2.2 W)
  clear h0 h1 h2 hb hN
  go_enter Tryd.func6, Tryd.ntmps6
  go_wp2_with fail
  go_at_call 19
  refine (CM.out _).mono ?_
  rintro e wx0 ⟨rfl, rfl⟩
  go_wp2_with fail
  go_at_call 20
  refine (CH.out _).mono ?_
  rintro e wx1 ⟨rfl, hb1⟩
  have HB1 := Lib.hid hb1
  clear hb1
  go_wp2_with fail
  go_ret2
  exact ⟨rfl, HB1.out⟩

set_option maxHeartbeats 1000000 in
theorem specFS_6sy (n N : Int) (h0 : 0 ≤ n) (h1 : n ≤ 4294967295) (hN : N = n) (hb : n ≤ 2147483647) (h2 : (-32768) ≤ N ∧ N ≤ 32767) (w : World) :
    Calls Tryd.prog 5 #[.int .i64 6, .int .i64 n] w fun e w' => e = .returned (.tuple #[.int .i64 N, .bool true]) ∧ Below w.heap.size w w' := by
  have CM := Lib.hid (fun W => l00In_yes n 0 4294967295 W h0 h1)
  have CR := Lib.hid (fun W => specNR_6 W)
  have CH := Lib.hid (fun W => l00In_yes N (-32768) 32767 W h2.1 h2.2)
  have e3 : ¬ 2147483647 < n := by omega
  subst hN
  clear h0 h1 h2 hb
  go_enter Tryd.func5, Tryd.ntmps5
  go_wp2_with fail
  go_at_call 16
  refine (CM.out _).mono ?_
  rintro e wx0 ⟨rfl, rfl⟩
  go_wp2_with fail
  go_at_call 18
  refine (CR.out _).mono ?_
  rintro e wx1 ⟨rfl, hb1⟩
  have HB1 := Lib.hid hb1
  clear hb1
  go_wp2_with fail
  go_at_call 16
  refine (CH.out _).mono ?_
  rintro e wx2 ⟨rfl, rfl⟩
  go_wp2_with fail
  go_ret2
  exact ⟨rfl, HB1.out⟩

set_option maxHeartbeats 1000000 in
theorem implFS_6sn (n N : Int) (h0 : 0 ≤ n) (h1 : n ≤ 4294967295) (hN : N = n) (hb : n ≤ 2147483647) (h2 : N < (-32768) ∨ 32767 < N) (w : World) (hT : w.cell? ⟨0, 12, none⟩ = some (.int .i64 (-32768))) (hU : w.cell? ⟨0, 13, none⟩ = some (.int .i64 32767)) :
    Calls Tryd.prog 6 #[.int .i64 6, .int .i64 n] w fun e w' => e = .returned (.tuple #[.int .i64 0, .bool false]) ∧ Below w.heap.size w w' := by
  have CM := Lib.hid (fun W => isSmall_yes n h0 h1 W)
  have e1 : IntKind.i32.wrap n = N := by rw [IntKind.wrap_i32]; omega
  have e2 : IntKind.i64.wrap N = N := by rw [IntKind.wrap_i64]; omega
  have CH := Lib.hid (fun W => has_no (-32768) 32767 N h2 W)
  clear h0 h1 h2 hb hN
  go_enter Tryd.func6, Tryd.ntmps6
  go_wp2_with fail
  go_at_call 19
  refine (CM.out _).mono ?_
  rintro e wx0 ⟨rfl, rfl⟩
  go_wp2_with fail
  go_at_call 20
  refine (CH.out _).mono ?_
  rintro e wx1 ⟨rfl, hb1⟩
  have HB1 := Lib.hid hb1
  clear hb1
  go_wp2_with fail
  go_ret2
  exact ⟨rfl, HB1.out⟩

set_option maxHeartbeats 1000000 in
theorem specFS_6sn (n N : Int) (h0 : 0 ≤ n) (h1 : n ≤ 4294967295) (hN : N = n) (hb : n ≤ 2147483647) (h2 : N < (-32768) ∨ 32767 < N) (w : World) :
    Calls Tryd.prog 5 #[.int .i64 6, .int .i64 n] w fun e w' => e = .returned (.tuple #[.int .i64 0, .bool false]) ∧ Below w.heap.size w w' := by
  have CM := Lib.hid (fun W => l00In_yes n 0 4294967295 W h0 h1)
  have CR := Lib.hid (fun W => specNR_6 W)
  have CH := Lib.hid (fun W => l00In_no N (-32768) 32767 W h2)
  have e3 : ¬ 2147483647 < n := by omega
  subst hN
  clear h0 h1 h2 hb
  go_enter Tryd.func5, Tryd.ntmps5
  go_wp2_with fail
  go_at_call 16
  refine (CM.out _).mono ?_
  rintro e wx0 ⟨rfl, rfl⟩
  go_wp2_with fail
  go_at_call 18
  refine (CR.out _).mono ?_
  rintro e wx1 ⟨rfl, hb1⟩
  have HB1 := Lib.hid hb1
  clear hb1
  go_wp2_with fail
  go_at_call 16
  refine (CH.out _).mono ?_
  rintro e wx2 ⟨rfl, rfl⟩
  go_wp2_with fail
  go_ret2
  exact ⟨rfl, HB1.out⟩

set_option maxHeartbeats 1000000 in
theorem implFS_6by (n N : Int) (h0 : 0 ≤ n) (h1 : n ≤ 4294967295) (hN : N = n - 4294967296) (hb : 2147483647 < n) (h2 : (-32768) ≤ N ∧ N ≤ 32767) (w : World) (hT : w.cell? ⟨0, 12, none⟩ = some (.int .i64 (-32768))) (hU : w.cell? ⟨0, 13, none⟩ = some (.int .i64 32767)) :
    Calls Tryd.prog 6 #[.int .i64 6, .int .i64 n] w fun e w' => e = .returned (.tuple #[.int .i64 N, .bool true]) ∧ Below w.heap.size w w' := by
  have CM := Lib.hid (fun W => isSmall_yes n h0 h1 W)
  have e1 : IntKind.i32.wrap n = N := by rw [IntKind.wrap_i32]; omega
  have e2 : IntKind.i64.wrap N = N := by rw [IntKind.wrap_i64]; omega
  have CH := Lib.hid (fun W => has_yes (-32768) 32767 N h2.1 h2.2 W)
  clear h0 h1 h2 hb hN
  go_enter Tryd.func6, Tryd.ntmps6
  go_wp2_with fail
  go_at_call 19
  refine (CM.out _).mono ?_
  rintro e wx0 ⟨rfl, rfl⟩
  go_wp2_with fail
  go_at_call 20
  refine (CH.out _).mono ?_
  rintro e wx1 ⟨rfl, hb1⟩
  have HB1 := Lib.hid hb1
  clear hb1
  go_wp2_with fail
  go_ret2
  exact ⟨rfl, HB1.out⟩

set_option maxHeartbeats 1000000 in
theorem specFS_6by (n N : Int) (h0 : 0 ≤ n) (h1 : n ≤ 4294967295) (hN : N = n - 4294967296) (hb : 2147483647 < n) (h2 : (-32768) ≤ N ∧ N ≤ 32767) (w : World) :
    Calls Tryd.prog 5 #[.int .i64 6, .int .i64 n] w fun e w' => e = .returned (.tuple #[.int .i64 N, .bool true]) ∧ Below w.heap.size w w' := by
  have CM := Lib.hid (fun W => l00In_yes n 0 4294967295 W h0 h1)
  have CR := Lib.hid (fun W => specNR_6 W)
  have CH := Lib.hid (fun W => l00In_yes N (-32768) 32767 W h2.1 h2.2)
  have e1 : n - 4294967296 = N := hN.symm
  have e3 : -9223372036854775808 ≤ n - 4294967296 ∧ n - 4294967296 ≤ 9223372036854775807 := by omega
  clear h0 h1 h2 hN
  go_enter Tryd.func5, Tryd.ntmps5
  go_wp2_with fail
  go_at_call 16
  refine (CM.out _).mono ?_
  rintro e wx0 ⟨rfl, rfl⟩
  go_wp2_with fail
  go_at_call 18
  refine (CR.out _).mono ?_
  rintro e wx1 ⟨rfl, hb1⟩
  have HB1 := Lib.hid hb1
  clear hb1
  go_wp2_with fail
  go_at_call 16
  refine (CH.out _).mono ?_
  rintro e wx2 ⟨rfl, rfl⟩
  go_wp2_with fail
  go_ret2
  exact ⟨rfl, HB1.out⟩

set_option maxHeartbeats 1000000 in
theorem implFS_6bn (n N : Int) (h0 : 0 ≤ n) (h1 : n ≤ 4294967295) (hN : N = n - 4294967296) (hb : 2147483647 < n) (h2 : N < (-32768) ∨ 32767 < N) (w : World) (hT : w.cell? ⟨0, 12, none⟩ = some (.int .i64 (-32768))) (hU : w.cell? ⟨0, 13, none⟩ = some (.int .i64 32767)) :
    Calls Tryd.prog 6 #[.int .i64 6, .int .i64 n] w fun e w' => e = .returned (.tuple #[.int .i64 0, .bool false]) ∧ Below w.heap.size w w' := by
  have CM := Lib.hid (fun W => isSmall_yes n h0 h1 W)
  have e1 : IntKind.i32.wrap n = N := by rw [IntKind.wrap_i32]; omega
  have e2 : IntKind.i64.wrap N = N := by rw [IntKind.wrap_i64]; omega
  have CH := Lib.hid (fun W => has_no (-32768) 32767 N h2 W)
  clear h0 h1 h2 hb hN
  go_enter Tryd.func6, Tryd.ntmps6
  go_wp2_with fail
  go_at_call 19
  refine (CM.out _).mono ?_
  rintro e wx0 ⟨rfl, rfl⟩
  go_wp2_with fail
  go_at_call 20
  refine (CH.out _).mono ?_
  rintro e wx1 ⟨rfl, hb1⟩
  have HB1 := Lib.hid hb1
  clear hb1
  go_wp2_with fail
  go_ret2
  exact ⟨rfl, HB1.out⟩

set_option maxHeartbeats 1000000 in
theorem specFS_6bn (n N : Int) (h0 : 0 ≤ n) (h1 : n ≤ 4294967295) (hN : N = n - 4294967296) (hb : 2147483647 < n) (h2 : N < (-32768) ∨ 32767 < N) (w : World) :
    Calls Tryd.prog 5 #[.int .i64 6, .int .i64 n] w fun e w' => e = .returned (.tuple #[.int .i64 0, .bool false]) ∧ Below w.heap.size w w' := by
  have CM := Lib.hid (fun W => l00In_yes n 0 4294967295 W h0 h1)
  have CR := Lib.hid (fun W => specNR_6 W)
  have CH := Lib.hid (fun W => l00In_no N (-32768) 32767 W h2)
  have e1 : n - 4294967296 = N := hN.symm
  have e3 : -9223372036854775808 ≤ n - 4294967296 ∧ n - 4294967296 ≤ 9223372036854775807 := by omega
  clear h0 h1 h2 hN
  go_enter Tryd.func5, Tryd.ntmps5
  go_wp2_with fail
  go_at_call 16
  refine (CM.out _).mono ?_
  rintro e wx0 ⟨rfl, rfl⟩
  go_wp2_with fail
  go_at_call 18
  refine (CR.out _).mono ?_
  rintro e wx1 ⟨rfl, hb1⟩
  have HB1 := Lib.hid hb1
  clear hb1
  go_wp2_with fail
  go_at_call 16
  refine (CH.out _).mono ?_
  rintro e wx2 ⟨rfl, rfl⟩
  go_wp2_with fail
  go_ret2
  exact ⟨rfl, HB1.out⟩

set_option maxHeartbeats 1000000 in
theorem implFS_8sy (n N : Int) (h0 : 0 ≤ n) (h1 : n ≤ 4294967295) (hN : N = n) (hb : n ≤ 2147483647) (h2 : (-2147483648) ≤ N ∧ N ≤ 2147483647) (w : World) (hT : w.cell? ⟨0, 16, none⟩ = some (.int .i64 (-2147483648))) (hU : w.cell? ⟨0, 17, none⟩ = some (.int .i64 2147483647)) :
    Calls Tryd.prog 6 #[.int .i64 8, .int .i64 n] w fun e w' => e = .returned (.tuple #[.int .i64 N, .bool true]) ∧ Below w.heap.size w w' := by
  have CM := Lib.hid (fun W => isSmall_yes n h0 h1 W)
  have e1 : IntKind.i32.wrap n = N := by rw [IntKind.wrap_i32]; omega
  have e2 : IntKind.i64.wrap N = N := by rw [IntKind.wrap_i64]; omega
  have CH := Lib.hid (fun W => has_yes (-2147483648) 2147483647 N h2.1 h2.2 W)
  clear h0 h1 h2 hb hN
  go_enter Tryd.func6, Tryd.ntmps6
  go_wp2_with fail
  go_at_call 19
  refine (CM.out _).mono ?_
  rintro e wx0 ⟨rfl, rfl⟩
  go_wp2_with fail
  go_at_call 20
  refine (CH.out _).mono ?_
  rintro e wx1 ⟨rfl, hb1⟩
  have HB1 := Lib.hid hb1
  clear hb1
  go_wp2_with fail
  go_ret2
  exact ⟨rfl, HB1.out⟩

set_option maxHeartbeats 1000000 in
theorem specFS_8sy (n N : Int) (h0 : 0 ≤ n) (h1 : n ≤ 4294967295) (hN : N = n) (hb : n ≤ 2147483647) (h2 : (-2147483648) ≤ N ∧ N ≤ 2147483647) (w : World) :
    Calls Tryd.prog 5 #[.int .i64 8, .int .i64 n] w fun e w' => e = .returned (.tuple #[.int .i64 N, .bool true]) ∧ Below w.heap.size w w' := by
  have CM := Lib.hid (fun W => l00In_yes n 0 4294967295 W h0 h1)
  have CR := Lib.hid (fun W => specNR_8 W)
  have CH := Lib.hid (fun W => l00In_yes N (-2147483648) 2147483647 W h2.1 h2.2)
  have e3 : ¬ 2147483647 < n := by omega
  subst hN
  clear h0 h1 h2 hb
  go_enter Tryd.func5, Tryd.ntmps5
  go_wp2_with fail
  go_at_call 16
  refine (CM.out _).mono ?_
  rintro e wx0 ⟨rfl, rfl⟩
  go_wp2_with fail
  go_at_call 18
  refine (CR.out _).mono ?_
  rintro e wx1 ⟨rfl, hb1⟩
  have HB1 := Lib.hid hb1
  clear hb1
  go_wp2_with fail
  go_at_call 16
  refine (CH.out _).mono ?_
  rintro e wx2 ⟨rfl, rfl⟩
  go_wp2_with fail
  go_ret2
  exact ⟨rfl, HB1.out⟩

set_option maxHeartbeats 1000000 in
theorem implFS_8by (n N : Int) (h0 : 0 ≤ n) (h1 : n ≤ 4294967295) (hN : N = n - 4294967296) (hb : 2147483647 < n) (h2 : (-2147483648) ≤ N ∧ N ≤ 2147483647) (w : World) (hT : w.cell? ⟨0, 16, none⟩ = some (.int .i64 (-2147483648))) (hU : w.cell? ⟨0, 17, none⟩ = some (.int .i64 2147483647)) :
    Calls Tryd.prog 6 #[.int .i64 8, .int .i64 n] w fun e w' => e = .returned (.tuple #[.int .i64 N, .bool true]) ∧ Below w.heap.size w w' := by
  have CM := Lib.hid (fun W => isSmall_yes n h0 h1 W)
  have e1 : IntKind.i32.wrap n = N := by rw [IntKind.wrap_i32]; omega
  have e2 : IntKind.i64.wrap N = N := by rw [IntKind.wrap_i64]; omega
  have CH := Lib.hid (fun W => has_yes (-2147483648) 2147483647 N h2.1 h2.2 W)
  clear h0 h1 h2 hb hN
  go_enter Tryd.func6, Tryd.ntmps6
  go_wp2_with fail
  go_at_call 19
  refine (CM.out _).mono ?_
  rintro e wx0 ⟨rfl, rfl⟩
  go_wp2_with fail
  go_at_call 20
  refine (CH.out _).mono ?_
  rintro e wx1 ⟨rfl, hb1⟩
  have HB1 := Lib.hid hb1
  clear hb1
  go_wp2_with fail
  go_ret2
  exact ⟨rfl, HB1.out⟩

set_option maxHeartbeats 1000000 in
theorem specFS_8by (n N : Int) (h0 : 0 ≤ n) (h1 : n ≤ 4294967295) (hN : N = n - 4294967296) (hb : 2147483647 < n) (h2 : (-2147483648) ≤ N ∧ N ≤ 2147483647) (w : World) :
    Calls Tryd.prog 5 #[.int .i64 8, .int .i64 n] w fun e w' => e = .returned (.tuple #[.int .i64 N, .bool true]) ∧ Below w.heap.size w w' := by
  have CM := Lib.hid (fun W => l00In_yes n 0 4294967295 W h0 h1)
  have CR := Lib.hid (fun W => specNR_8 W)
  have CH := Lib.hid (fun W => l00In_yes N (-2147483648) 2147483647 W h2.1 h2.2)
  have e1 : n - 4294967296 = N := hN.symm
  have e3 : -9223372036854775808 ≤ n - 4294967296 ∧ n - 4294967296 ≤ 9223372036854775807 := by omega
  clear h0 h1 h2 hN
  go_enter Tryd.func5, Tryd.ntmps5
  go_wp2_with fail
  go_at_call 16
  refine (CM.out _).mono ?_
  rintro e wx0 ⟨rfl, rfl⟩
  go_wp2_with fail
  go_at_call 18
  refine (CR.out _).mono ?_
  rintro e wx1 ⟨rfl, hb1⟩
  have HB1 := Lib.hid hb1
  clear hb1
  go_wp2_with fail
  go_at_call 16
  refine (CH.out _).mono ?_
  rintro e wx2 ⟨rfl, rfl⟩
  go_wp2_with fail
  go_ret2
  exact ⟨rfl, HB1.out⟩

set_option maxHeartbeats 1000000 in
theorem implFS_20 (w : World) :
    Calls Tryd.prog 6 #[.int .i64 2, .int .i64 0] w fun e w' => e = .returned (.tuple #[.int .i64 0, .bool true]) ∧ Below w.heap.size w w' := by
  have CM := Lib.hid (fun W => isSmall_yes 0 (by decide) (by decide) W)
  go_enter Tryd.func6, Tryd.ntmps6
  go_wp2_with fail
  go_at_call 19
  refine (CM.out _).mono ?_
  rintro e wx0 ⟨rfl, rfl⟩
  go_wp2_with fail
  go_ret2
  exact ⟨rfl, Below.refl _ _⟩

set_option maxHeartbeats 1000000 in
theorem specFS_20 (w : World) :
    Calls Tryd.prog 5 #[.int .i64 2, .int .i64 0] w fun e w' => e = .returned (.tuple #[.int .i64 0, .bool true]) ∧ Below w.heap.size w w' := by
  have CM := Lib.hid (fun W => l00In_yes 0 0 4294967295 W (by decide) (by decide))
  have CH := Lib.hid (fun W => l00In_yes 0 0 1 W (by decide) (by decide))
  go_enter Tryd.func5, Tryd.ntmps5
  go_wp2_with fail
  go_at_call 16
  refine (CM.out _).mono ?_
  rintro e wx0 ⟨rfl, rfl⟩
  go_wp2_with fail
  go_at_call 16
  refine (CH.out _).mono ?_
  rintro e wx1 ⟨rfl, rfl⟩
  go_wp2_with fail
  go_ret2
  exact ⟨rfl, Below.refl _ _⟩

set_option maxHeartbeats 1000000 in
theorem implFS_21 (w : World) :
    Calls Tryd.prog 6 #[.int .i64 2, .int .i64 1] w fun e w' => e = .returned (.tuple #[.int .i64 1, .bool true]) ∧ Below w.heap.size w w' := by
  have CM := Lib.hid (fun W => isSmall_yes 1 (by decide) (by decide) W)
  go_enter Tryd.func6, Tryd.ntmps6
  go_wp2_with fail
  go_at_call 19
  refine (CM.out _).mono ?_
  rintro e wx0 ⟨rfl, rfl⟩
  go_wp2_with fail
  go_ret2
  exact ⟨rfl, Below.refl _ _⟩

set_option maxHeartbeats 1000000 in
theorem specFS_21 (w : World) :
    Calls Tryd.prog 5 #[.int .i64 2, .int .i64 1] w fun e w' => e = .returned (.tuple #[.int .i64 1, .bool true]) ∧ Below w.heap.size w w' := by
  have CM := Lib.hid (fun W => l00In_yes 1 0 4294967295 W (by decide) (by decide))
  have CH := Lib.hid (fun W => l00In_yes 1 0 1 W (by decide) (by decide))
  go_enter Tryd.func5, Tryd.ntmps5
  go_wp2_with fail
  go_at_call 16
  refine (CM.out _).mono ?_
  rintro e wx0 ⟨rfl, rfl⟩
  go_wp2_with fail
  go_at_call 16
  refine (CH.out _).mono ?_
  rintro e wx1 ⟨rfl, rfl⟩
  go_wp2_with fail
  go_ret2
  exact ⟨rfl, Below.refl _ _⟩

set_option maxHeartbeats 1000000 in
theorem implFS_2n (n : Int) (h0 : 0 ≤ n) (h1 : n ≤ 4294967295) (h2 : 1 < n) (w : World) :
    Calls Tryd.prog 6 #[.int .i64 2, .int .i64 n] w fun e w' => e = .returned (.tuple #[.int .i64 0, .bool false]) ∧ Below w.heap.size w w' := by
  have CM := Lib.hid (fun W => isSmall_yes n h0 h1 W)
  have e0 : (n == 0) = false := by rw [beq_eq_false_iff_ne]; omega
  have e1 : (n == 1) = false := by rw [beq_eq_false_iff_ne]; omega
  clear h0 h1 h2
  go_enter Tryd.func6, Tryd.ntmps6
  go_wp2_with fail
  go_at_call 19
  refine (CM.out _).mono ?_
  rintro e wx0 ⟨rfl, rfl⟩
  go_wp2_with fail
  go_ret2
  exact ⟨rfl, Below.refl _ _⟩

set_option maxHeartbeats 1000000 in
theorem specFS_2n (n : Int) (h0 : 0 ≤ n) (h1 : n ≤ 4294967295) (h2 : 1 < n) (w : World) :
    Calls Tryd.prog 5 #[.int .i64 2, .int .i64 n] w fun e w' => e = .returned (.tuple #[.int .i64 0, .bool false]) ∧ Below w.heap.size w w' := by
  have CM := Lib.hid (fun W => l00In_yes n 0 4294967295 W h0 h1)
  have CH := Lib.hid (fun W => l00In_no n 0 1 W (Or.inr h2))
  clear h0 h1 h2
  go_enter Tryd.func5, Tryd.ntmps5
  go_wp2_with fail
  go_at_call 16
  refine (CM.out _).mono ?_
  rintro e wx0 ⟨rfl, rfl⟩
  go_wp2_with fail
  go_at_call 16
  refine (CH.out _).mono ?_
  rintro e wx1 ⟨rfl, rfl⟩
  go_wp2_with fail
  go_ret2
  exact ⟨rfl, Below.refl _ _⟩

set_option maxHeartbeats 1000000 in
theorem implFS_10y (n : Int) (h0 : 0 ≤ n) (h1 : n ≤ 4294967295) (h2 : (0 ≤ n ∧ n ≤ 55295) ∨ (57344 ≤ n ∧ n ≤ 1114111)) (w : World) :
    Calls Tryd.prog 6 #[.int .i64 10, .int .i64 n] w fun e w' => e = .returned (.tuple #[.int .i64 n, .bool true]) ∧ Below w.heap.size w w' := by
  have CM := Lib.hid (fun W => isSmall_yes n h0 h1 W)
  have CH := Lib.hid (fun W => implCharOk_yes n h2 W)
  clear h0 h1 h2
  go_enter Tryd.func6, Tryd.ntmps6
  go_wp2_with fail
  go_at_call 19
  refine (CM.out _).mono ?_
  rintro e wx0 ⟨rfl, rfl⟩
  go_wp2_with fail
  go_at_call 21
  refine (CH.out _).mono ?_
  rintro e wx1 ⟨rfl, rfl⟩
  go_wp2_with fail
  go_ret2
  exact ⟨rfl, Below.refl _ _⟩

set_option maxHeartbeats 1000000 in
theorem implFS_10n (n : Int) (h0 : 0 ≤ n) (h1 : n ≤ 4294967295) (h2 : ¬ ((0 ≤ n ∧ n ≤ 55295) ∨ (57344 ≤ n ∧ n ≤ 1114111))) (w : World) :
    Calls Tryd.prog 6 #[.int .i64 10, .int .i64 n] w fun e w' => e = .returned (.tuple #[.int .i64 0, .bool false]) ∧ Below w.heap.size w w' := by
  have CM := Lib.hid (fun W => isSmall_yes n h0 h1 W)
  have CH := Lib.hid (fun W => implCharOk_no n h2 W)
  clear h0 h1 h2
  go_enter Tryd.func6, Tryd.ntmps6
  go_wp2_with fail
  go_at_call 19
  refine (CM.out _).mono ?_
  rintro e wx0 ⟨rfl, rfl⟩
  go_wp2_with fail
  go_at_call 21
  refine (CH.out _).mono ?_
  rintro e wx1 ⟨rfl, rfl⟩
  go_wp2_with fail
  go_ret2
  exact ⟨rfl, Below.refl _ _⟩

set_option maxHeartbeats 1000000 in
theorem specFS_10y (n : Int) (h0 : 0 ≤ n) (h1 : n ≤ 4294967295) (h2 : (0 ≤ n ∧ n ≤ 55295) ∨ (57344 ≤ n ∧ n ≤ 1114111)) (w : World) :
    Calls Tryd.prog 5 #[.int .i64 10, .int .i64 n] w fun e w' => e = .returned (.tuple #[.int .i64 n, .bool true]) ∧ Below w.heap.size w w' := by
  have CM := Lib.hid (fun W => l00In_yes n 0 4294967295 W h0 h1)
  have CH := Lib.hid (fun W => specCharOk_yes n h2 W)
  clear h0 h1 h2
  go_enter Tryd.func5, Tryd.ntmps5
  go_wp2_with fail
  go_at_call 16
  refine (CM.out _).mono ?_
  rintro e wx0 ⟨rfl, rfl⟩
  go_wp2_with fail
  go_at_call 17
  refine (CH.out _).mono ?_
  rintro e wx1 ⟨rfl, rfl⟩
  go_wp2_with fail
  go_ret2
  exact ⟨rfl, Below.refl _ _⟩

set_option maxHeartbeats 1000000 in
theorem specFS_10n (n : Int) (h0 : 0 ≤ n) (h1 : n ≤ 4294967295) (h2 : ¬ ((0 ≤ n ∧ n ≤ 55295) ∨ (57344 ≤ n ∧ n ≤ 1114111))) (w : World) :
    Calls Tryd.prog 5 #[.int .i64 10, .int .i64 n] w fun e w' => e = .returned (.tuple #[.int .i64 0, .bool false]) ∧ Below w.heap.size w w' := by
  have CM := Lib.hid (fun W => l00In_yes n 0 4294967295 W h0 h1)
  have CH := Lib.hid (fun W => specCharOk_no n h2 W)
  have CE := Lib.hid (fun W => l00In_no n 0 (-1) W (by omega))
  clear h0 h1 h2
  go_enter Tryd.func5, Tryd.ntmps5
  go_wp2_with fail
  go_at_call 16
  refine (CM.out _).mono ?_
  rintro e wx0 ⟨rfl, rfl⟩
  go_wp2_with fail
  go_at_call 17
  refine (CH.out _).mono ?_
  rintro e wx1 ⟨rfl, rfl⟩
  go_wp2_with fail
  go_at_call 16
  refine (CE.out _).mono ?_
  rintro e wx2 ⟨rfl, rfl⟩
  go_wp2_with fail
  go_ret2
  exact ⟨rfl, Below.refl _ _⟩

set_option maxHeartbeats 1000000 in
theorem implFS_20y (n : Int) (h0 : 0 ≤ n) (h1 : n ≤ 4294967295) (h2 : n ≤ 2147483647) (w : World) :
    Calls Tryd.prog 6 #[.int .i64 20, .int .i64 n] w fun e w' => e = .returned (.tuple #[.int .i64 n, .bool true]) ∧ Below w.heap.size w w' := by
  have CM := Lib.hid (fun W => isSmall_yes n h0 h1 W)
  have CH := Lib.hid (fun W => notHandle_no n h0 h2 W)
  clear h0 h1 h2
  go_enter Tryd.func6, Tryd.ntmps6
  go_wp2_with fail
  go_at_call 19
  refine (CM.out _).mono ?_
  rintro e wx0 ⟨rfl, rfl⟩
  go_wp2_with fail
  go_at_call 22
  refine (CH.out _).mono ?_
  rintro e wx1 ⟨rfl, rfl⟩
  go_wp2_with fail
  go_ret2
  exact ⟨rfl, Below.refl _ _⟩

set_option maxHeartbeats 1000000 in
theorem implFS_20n (n : Int) (h0 : 0 ≤ n) (h1 : n ≤ 4294967295) (h2 : 2147483647 < n) (w : World) :
    Calls Tryd.prog 6 #[.int .i64 20, .int .i64 n] w fun e w' => e = .returned (.tuple #[.int .i64 0, .bool false]) ∧ Below w.heap.size w w' := by
  have CM := Lib.hid (fun W => isSmall_yes n h0 h1 W)
  have CH := Lib.hid (fun W => notHandle_yes n h0 h2 W)
  clear h0 h1 h2
  go_enter Tryd.func6, Tryd.ntmps6
  go_wp2_with fail
  go_at_call 19
  refine (CM.out _).mono ?_
  rintro e wx0 ⟨rfl, rfl⟩
  go_wp2_with fail
  go_at_call 22
  refine (CH.out _).mono ?_
  rintro e wx1 ⟨rfl, rfl⟩
  go_wp2_with fail
  go_ret2
  exact ⟨rfl, Below.refl _ _⟩

set_option maxHeartbeats 1000000 in
theorem specFS_20y (n : Int) (h0 : 0 ≤ n) (h1 : n ≤ 4294967295) (h2 : n ≤ 2147483647) (w : World) :
    Calls Tryd.prog 5 #[.int .i64 20, .int .i64 n] w fun e w' => e = .returned (.tuple #[.int .i64 n, .bool true]) ∧ Below w.heap.size w w' := by
  have CM := Lib.hid (fun W => l00In_yes n 0 4294967295 W h0 h1)
  have CH := Lib.hid (fun W => l00In_yes n 0 2147483647 W h0 h2)
  clear h0 h1 h2
  go_enter Tryd.func5, Tryd.ntmps5
  go_wp2_with fail
  go_at_call 16
  refine (CM.out _).mono ?_
  rintro e wx0 ⟨rfl, rfl⟩
  go_wp2_with fail
  go_at_call 16
  refine (CH.out _).mono ?_
  rintro e wx1 ⟨rfl, rfl⟩
  go_wp2_with fail
  go_ret2
  exact ⟨rfl, Below.refl _ _⟩

set_option maxHeartbeats 1000000 in
theorem specFS_20n (n : Int) (h0 : 0 ≤ n) (h1 : n ≤ 4294967295) (h2 : 2147483647 < n) (w : World) :
    Calls Tryd.prog 5 #[.int .i64 20, .int .i64 n] w fun e w' => e = .returned (.tuple #[.int .i64 0, .bool false]) ∧ Below w.heap.size w w' := by
  have CM := Lib.hid (fun W => l00In_yes n 0 4294967295 W h0 h1)
  have CH := Lib.hid (fun W => l00In_no n 0 2147483647 W (Or.inr h2))
  clear h0 h1 h2
  go_enter Tryd.func5, Tryd.ntmps5
  go_wp2_with fail
  go_at_call 16
  refine (CM.out _).mono ?_
  rintro e wx0 ⟨rfl, rfl⟩
  go_wp2_with fail
  go_at_call 16
  refine (CH.out _).mono ?_
  rintro e wx1 ⟨rfl, rfl⟩
  go_wp2_with fail
  go_ret2
  exact ⟨rfl, Below.refl _ _⟩

set_option maxHeartbeats 1000000 in
theorem implFS_21y (n : Int) (h0 : 0 ≤ n) (h1 : n ≤ 4294967295) (h2 : n ≤ 2147483647) (w : World) :
    Calls Tryd.prog 6 #[.int .i64 21, .int .i64 n] w fun e w' => e = .returned (.tuple #[.int .i64 n, .bool true]) ∧ Below w.heap.size w w' := by
  have CM := Lib.hid (fun W => isSmall_yes n h0 h1 W)
  have CH := Lib.hid (fun W => notHandle_no n h0 h2 W)
  clear h0 h1 h2
  go_enter Tryd.func6, Tryd.ntmps6
  go_wp2_with fail
  go_at_call 19
  refine (CM.out _).mono ?_
  rintro e wx0 ⟨rfl, rfl⟩
  go_wp2_with fail
  go_at_call 22
  refine (CH.out _).mono ?_
  rintro e wx1 ⟨rfl, rfl⟩
  go_wp2_with fail
  go_ret2
  exact ⟨rfl, Below.refl _ _⟩

set_option maxHeartbeats 1000000 in
theorem implFS_21n (n : Int) (h0 : 0 ≤ n) (h1 : n ≤ 4294967295) (h2 : 2147483647 < n) (w : World) :
    Calls Tryd.prog 6 #[.int .i64 21, .int .i64 n] w fun e w' => e = .returned (.tuple #[.int .i64 0, .bool false]) ∧ Below w.heap.size w w' := by
  have CM := Lib.hid (fun W => isSmall_yes n h0 h1 W)
  have CH := Lib.hid (fun W => notHandle_yes n h0 h2 W)
  clear h0 h1 h2
  go_enter Tryd.func6, Tryd.ntmps6
  go_wp2_with fail
  go_at_call 19
  refine (CM.out _).mono ?_
  rintro e wx0 ⟨rfl, rfl⟩
  go_wp2_with fail
  go_at_call 22
  refine (CH.out _).mono ?_
  rintro e wx1 ⟨rfl, rfl⟩
  go_wp2_with fail
  go_ret2
  exact ⟨rfl, Below.refl _ _⟩

set_option maxHeartbeats 1000000 in
theorem specFS_21y (n : Int) (h0 : 0 ≤ n) (h1 : n ≤ 4294967295) (h2 : n ≤ 2147483647) (w : World) :
    Calls Tryd.prog 5 #[.int .i64 21, .int .i64 n] w fun e w' => e = .returned (.tuple #[.int .i64 n, .bool true]) ∧ Below w.heap.size w w' := by
  have CM := Lib.hid (fun W => l00In_yes n 0 4294967295 W h0 h1)
  have CH := Lib.hid (fun W => l00In_yes n 0 2147483647 W h0 h2)
  clear h0 h1 h2
  go_enter Tryd.func5, Tryd.ntmps5
  go_wp2_with fail
  go_at_call 16
  refine (CM.out _).mono ?_
  rintro e wx0 ⟨rfl, rfl⟩
  go_wp2_with fail
  go_at_call 16
  refine (CH.out _).mono ?_
  rintro e wx1 ⟨rfl, rfl⟩
  go_wp2_with fail
  go_ret2
  exact ⟨rfl, Below.refl _ _⟩

set_option maxHeartbeats 1000000 in
theorem specFS_21n (n : Int) (h0 : 0 ≤ n) (h1 : n ≤ 4294967295) (h2 : 2147483647 < n) (w : World) :
    Calls Tryd.prog 5 #[.int .i64 21, .int .i64 n] w fun e w' => e = .returned (.tuple #[.int .i64 0, .bool false]) ∧ Below w.heap.size w w' := by
  have CM := Lib.hid (fun W => l00In_yes n 0 4294967295 W h0 h1)
  have CH := Lib.hid (fun W => l00In_no n 0 2147483647 W (Or.inr h2))
  clear h0 h1 h2
  go_enter Tryd.func5, Tryd.ntmps5
  go_wp2_with fail
  go_at_call 16
  refine (CM.out _).mono ?_
  rintro e wx0 ⟨rfl, rfl⟩
  go_wp2_with fail
  go_at_call 16
  refine (CH.out _).mono ?_
  rintro e wx1 ⟨rfl, rfl⟩
  go_wp2_with fail
  go_ret2
  exact ⟨rfl, Below.refl _ _⟩

set_option maxHeartbeats 1000000 in
theorem implFS_22y (n : Int) (h0 : 0 ≤ n) (h1 : n ≤ 4294967295) (h2 : n ≤ 2147483647) (w : World) :
    Calls Tryd.prog 6 #[.int .i64 22, .int .i64 n] w fun e w' => e = .returned (.tuple #[.int .i64 n, .bool true]) ∧ Below w.heap.size w w' := by
  have CM := Lib.hid (fun W => isSmall_yes n h0 h1 W)
  have CH := Lib.hid (fun W => notHandle_no n h0 h2 W)
  clear h0 h1 h2
  go_enter Tryd.func6, Tryd.ntmps6
  go_wp2_with fail
  go_at_call 19
  refine (CM.out _).mono ?_
  rintro e wx0 ⟨rfl, rfl⟩
  go_wp2_with fail
  go_at_call 22
  refine (CH.out _).mono ?_
  rintro e wx1 ⟨rfl, rfl⟩
  go_wp2_with fail
  go_ret2
  exact ⟨rfl, Below.refl _ _⟩

set_option maxHeartbeats 1000000 in
theorem implFS_22n (n : Int) (h0 : 0 ≤ n) (h1 : n ≤ 4294967295) (h2 : 2147483647 < n) (w : World) :
    Calls Tryd.prog 6 #[.int .i64 22, .int .i64 n] w fun e w' => e = .returned (.tuple #[.int .i64 0, .bool false]) ∧ Below w.heap.size w w' := by
  have CM := Lib.hid (fun W => isSmall_yes n h0 h1 W)
  have CH := Lib.hid (fun W => notHandle_yes n h0 h2 W)
  clear h0 h1 h2
  go_enter Tryd.func6, Tryd.ntmps6
  go_wp2_with fail
  go_at_call 19
  refine (CM.out _).mono ?_
  rintro e wx0 ⟨rfl, rfl⟩
  go_wp2_with fail
  go_at_call 22
  refine (CH.out _).mono ?_
  rintro e wx1 ⟨rfl, rfl⟩
  go_wp2_with fail
  go_ret2
  exact ⟨rfl, Below.refl _ _⟩

set_option maxHeartbeats 1000000 in
theorem specFS_22y (n : Int) (h0 : 0 ≤ n) (h1 : n ≤ 4294967295) (h2 : n ≤ 2147483647) (w : World) :
    Calls Tryd.prog 5 #[.int .i64 22, .int .i64 n] w fun e w' => e = .returned (.tuple #[.int .i64 n, .bool true]) ∧ Below w.heap.size w w' := by
  have CM := Lib.hid (fun W => l00In_yes n 0 4294967295 W h0 h1)
  have CH := Lib.hid (fun W => l00In_yes n 0 2147483647 W h0 h2)
  clear h0 h1 h2
  go_enter Tryd.func5, Tryd.ntmps5
  go_wp2_with fail
  go_at_call 16
  refine (CM.out _).mono ?_
  rintro e wx0 ⟨rfl, rfl⟩
  go_wp2_with fail
  go_at_call 16
  refine (CH.out _).mono ?_
  rintro e wx1 ⟨rfl, rfl⟩
  go_wp2_with fail
  go_ret2
  exact ⟨rfl, Below.refl _ _⟩

set_option maxHeartbeats 1000000 in
theorem specFS_22n (n : Int) (h0 : 0 ≤ n) (h1 : n ≤ 4294967295) (h2 : 2147483647 < n) (w : World) :
    Calls Tryd.prog 5 #[.int .i64 22, .int .i64 n] w fun e w' => e = .returned (.tuple #[.int .i64 0, .bool false]) ∧ Below w.heap.size w w' := by
  have CM := Lib.hid (fun W => l00In_yes n 0 4294967295 W h0 h1)
  have CH := Lib.hid (fun W => l00In_no n 0 2147483647 W (Or.inr h2))
  clear h0 h1 h2
  go_enter Tryd.func5, Tryd.ntmps5
  go_wp2_with fail
  go_at_call 16
  refine (CM.out _).mono ?_
  rintro e wx0 ⟨rfl, rfl⟩
  go_wp2_with fail
  go_at_call 16
  refine (CH.out _).mono ?_
  rintro e wx1 ⟨rfl, rfl⟩
  go_wp2_with fail
  go_ret2
  exact ⟨rfl, Below.refl _ _⟩

set_option maxHeartbeats 1000000 in
theorem implFS_23y (n : Int) (h0 : 0 ≤ n) (h1 : n ≤ 4294967295) (h2 : n ≤ 2147483647) (w : World) :
    Calls Tryd.prog 6 #[.int .i64 23, .int .i64 n] w fun e w' => e = .returned (.tuple #[.int .i64 n, .bool true]) ∧ Below w.heap.size w w' := by
  have CM := Lib.hid (fun W => isSmall_yes n h0 h1 W)
  have CH := Lib.hid (fun W => notHandle_no n h0 h2 W)
  clear h0 h1 h2
  go_enter Tryd.func6, Tryd.ntmps6
  go_wp2_with fail
  go_at_call 19
  refine (CM.out _).mono ?_
  rintro e wx0 ⟨rfl, rfl⟩
  go_wp2_with fail
  go_at_call 22
  refine (CH.out _).mono ?_
  rintro e wx1 ⟨rfl, rfl⟩
  go_wp2_with fail
  go_ret2
  exact ⟨rfl, Below.refl _ _⟩

set_option maxHeartbeats 1000000 in
theorem implFS_23n (n : Int) (h0 : 0 ≤ n) (h1 : n ≤ 4294967295) (h2 : 2147483647 < n) (w : World) :
    Calls Tryd.prog 6 #[.int .i64 23, .int .i64 n] w fun e w' => e = .returned (.tuple #[.int .i64 0, .bool false]) ∧ Below w.heap.size w w' := by
  have CM := Lib.hid (fun W => isSmall_yes n h0 h1 W)
  have CH := Lib.hid (fun W => notHandle_yes n h0 h2 W)
  clear h0 h1 h2
  go_enter Tryd.func6, Tryd.ntmps6
  go_wp2_with fail
  go_at_call 19
  refine (CM.out _).mono ?_
  rintro e wx0 ⟨rfl, rfl⟩
  go_wp2_with fail
  go_at_call 22
  refine (CH.out _).mono ?_
  rintro e wx1 ⟨rfl, rfl⟩
  go_wp2_with fail
  go_ret2
  exact ⟨rfl, Below.refl _ _⟩

set_option maxHeartbeats 1000000 in
theorem specFS_23y (n : Int) (h0 : 0 ≤ n) (h1 : n ≤ 4294967295) (h2 : n ≤ 2147483647) (w : World) :
    Calls Tryd.prog 5 #[.int .i64 23, .int .i64 n] w fun e w' => e = .returned (.tuple #[.int .i64 n, .bool true]) ∧ Below w.heap.size w w' := by
  have CM := Lib.hid (fun W => l00In_yes n 0 4294967295 W h0 h1)
  have CH := Lib.hid (fun W => l00In_yes n 0 2147483647 W h0 h2)
  clear h0 h1 h2
  go_enter Tryd.func5, Tryd.ntmps5
  go_wp2_with fail
  go_at_call 16
  refine (CM.out _).mono ?_
  rintro e wx0 ⟨rfl, rfl⟩
  go_wp2_with fail
  go_at_call 16
  refine (CH.out _).mono ?_
  rintro e wx1 ⟨rfl, rfl⟩
  go_wp2_with fail
  go_ret2
  exact ⟨rfl, Below.refl _ _⟩

set_option maxHeartbeats 1000000 in
theorem specFS_23n (n : Int) (h0 : 0 ≤ n) (h1 : n ≤ 4294967295) (h2 : 2147483647 < n) (w : World) :
    Calls Tryd.prog 5 #[.int .i64 23, .int .i64 n] w fun e w' => e = .returned (.tuple #[.int .i64 0, .bool false]) ∧ Below w.heap.size w w' := by
  have CM := Lib.hid (fun W => l00In_yes n 0 4294967295 W h0 h1)
  have CH := Lib.hid (fun W => l00In_no n 0 2147483647 W (Or.inr h2))
  clear h0 h1 h2
  go_enter Tryd.func5, Tryd.ntmps5
  go_wp2_with fail
  go_at_call 16
  refine (CM.out _).mono ?_
  rintro e wx0 ⟨rfl, rfl⟩
  go_wp2_with fail
  go_at_call 16
  refine (CH.out _).mono ?_
  rintro e wx1 ⟨rfl, rfl⟩
  go_wp2_with fail
  go_ret2
  exact ⟨rfl, Below.refl _ _⟩

set_option maxHeartbeats 1000000 in
theorem implFS_o (k n : Int) (h0 : 0 ≤ n) (h1 : n ≤ 4294967295) (hk : k ≠ 2 ∧ k ≠ 3 ∧ k ≠ 4 ∧ k ≠ 5 ∧ k ≠ 6 ∧ k ≠ 7 ∧ k ≠ 8 ∧ k ≠ 10 ∧ k ≠ 20 ∧ k ≠ 21 ∧ k ≠ 22 ∧ k ≠ 23) (w : World) :
    Calls Tryd.prog 6 #[.int .i64 k, .int .i64 n] w fun e w' => e = .returned (.tuple #[.int .i64 0, .bool false]) ∧ Below w.heap.size w w' := by
  have CM := Lib.hid (fun W => isSmall_yes n h0 h1 W)
  have b2 : (k == 2) = false := by rw [beq_eq_false_iff_ne]; omega
  have b3 : (k == 3) = false := by rw [beq_eq_false_iff_ne]; omega
  have b4 : (k == 4) = false := by rw [beq_eq_false_iff_ne]; omega
  have b5 : (k == 5) = false := by rw [beq_eq_false_iff_ne]; omega
  have b6 : (k == 6) = false := by rw [beq_eq_false_iff_ne]; omega
  have b7 : (k == 7) = false := by rw [beq_eq_false_iff_ne]; omega
  have b8 : (k == 8) = false := by rw [beq_eq_false_iff_ne]; omega
  have b10 : (k == 10) = false := by rw [beq_eq_false_iff_ne]; omega
  have b20 : (k == 20) = false := by rw [beq_eq_false_iff_ne]; omega
  have b21 : (k == 21) = false := by rw [beq_eq_false_iff_ne]; omega
  have b22 : (k == 22) = false := by rw [beq_eq_false_iff_ne]; omega
  have b23 : (k == 23) = false := by rw [beq_eq_false_iff_ne]; omega
  clear h0 h1 hk
  go_enter Tryd.func6, Tryd.ntmps6
  go_wp2_with fail
  go_at_call 19
  refine (CM.out _).mono ?_
  rintro e wx0 ⟨rfl, rfl⟩
  go_wp2_with fail
  go_ret2
  exact ⟨rfl, Below.refl _ _⟩

set_option maxHeartbeats 1000000 in
theorem specFS_o (k n : Int) (h0 : 0 ≤ n) (h1 : n ≤ 4294967295) (hk : k ≠ 2 ∧ k ≠ 3 ∧ k ≠ 4 ∧ k ≠ 5 ∧ k ≠ 6 ∧ k ≠ 7 ∧ k ≠ 8 ∧ k ≠ 10 ∧ k ≠ 20 ∧ k ≠ 21 ∧ k ≠ 22 ∧ k ≠ 23) (w : World) :
    Calls Tryd.prog 5 #[.int .i64 k, .int .i64 n] w fun e w' => e = .returned (.tuple #[.int .i64 0, .bool false]) ∧ Below w.heap.size w w' := by
  have CM := Lib.hid (fun W => l00In_yes n 0 4294967295 W h0 h1)
  have b2 : (k == 2) = false := by rw [beq_eq_false_iff_ne]; omega
  have b3 : (k == 3) = false := by rw [beq_eq_false_iff_ne]; omega
  have b4 : (k == 4) = false := by rw [beq_eq_false_iff_ne]; omega
  have b5 : (k == 5) = false := by rw [beq_eq_false_iff_ne]; omega
  have b6 : (k == 6) = false := by rw [beq_eq_false_iff_ne]; omega
  have b7 : (k == 7) = false := by rw [beq_eq_false_iff_ne]; omega
  have b8 : (k == 8) = false := by rw [beq_eq_false_iff_ne]; omega
  have b10 : (k == 10) = false := by rw [beq_eq_false_iff_ne]; omega
  have b20 : (k == 20) = false := by rw [beq_eq_false_iff_ne]; omega
  have b21 : (k == 21) = false := by rw [beq_eq_false_iff_ne]; omega
  have b22 : (k == 22) = false := by rw [beq_eq_false_iff_ne]; omega
  have b23 : (k == 23) = false := by rw [beq_eq_false_iff_ne]; omega
  have CE := Lib.hid (fun W => l00In_no n 0 (-1) W (by omega))
  clear h0 h1 hk
  go_enter Tryd.func5, Tryd.ntmps5
  go_wp2_with fail
  go_at_call 16
  refine (CM.out _).mono ?_
  rintro e wx0 ⟨rfl, rfl⟩
  go_wp2_with fail
  go_at_call 16
  refine (CE.out _).mono ?_
  rintro e wx1 ⟨rfl, rfl⟩
  go_wp2_with fail
  go_ret2
  exact ⟨rfl, Below.refl _ _⟩

theorem implFS_out (k n : Int) (h : n < 0 ∨ 4294967295 < n) (w : World) :
    Calls Tryd.prog 6 #[.int .i64 k, .int .i64 n] w fun e w' => e = .returned (.tuple #[.int .i64 0, .bool false]) ∧ Below w.heap.size w w' := by
  have CM := Lib.hid (fun W => isSmall_no n h W)
  clear h
  go_enter Tryd.func6, Tryd.ntmps6
  go_wp2_with fail
  go_at_call 19
  refine (CM.out _).mono ?_
  rintro e wx0 ⟨rfl, rfl⟩
  go_wp2_with fail
  go_ret2
  exact ⟨rfl, Below.refl _ _⟩

theorem specFS_out (k n : Int) (h : n < 0 ∨ 4294967295 < n) (w : World) :
    Calls Tryd.prog 5 #[.int .i64 k, .int .i64 n] w fun e w' => e = .returned (.tuple #[.int .i64 0, .bool false]) ∧ Below w.heap.size w w' := by
  have CM := Lib.hid (fun W => l00In_no n 0 4294967295 W h)
  clear h
  go_enter Tryd.func5, Tryd.ntmps5
  go_wp2_with fail
  go_at_call 16
  refine (CM.out _).mono ?_
  rintro e wx0 ⟨rfl, rfl⟩
  go_wp2_with fail
  go_ret2
  exact ⟨rfl, Below.refl _ _⟩

theorem fs_both (k n : Int) : ∃ (r : Int) (v : Bool), (∀ w : World, Calls Tryd.prog 5 #[.int .i64 k, .int .i64 n] w fun e w' => e = .returned (.tuple #[.int .i64 r, .bool v]) ∧ Below w.heap.size w w') ∧
    (∀ w : World, RTable w → Calls Tryd.prog 6 #[.int .i64 k, .int .i64 n] w fun e w' => e = .returned (.tuple #[.int .i64 r, .bool v]) ∧ Below w.heap.size w w') := by
  by_cases h : n < 0 ∨ 4294967295 < n
  · exact ⟨0, false, fun w => specFS_out k n h w, fun w _ => implFS_out k n h w⟩
  have h0 : 0 ≤ n := by omega
  have h1 : n ≤ 4294967295 := by omega
  by_cases hk : k ≠ 2 ∧ k ≠ 3 ∧ k ≠ 4 ∧ k ≠ 5 ∧ k ≠ 6 ∧ k ≠ 7 ∧ k ≠ 8 ∧ k ≠ 10 ∧ k ≠ 20 ∧ k ≠ 21 ∧ k ≠ 22 ∧ k ≠ 23
  · exact ⟨0, false, fun w => specFS_o k n h0 h1 hk w, fun w _ => implFS_o k n h0 h1 hk w⟩
  have hk2 : k = 2 ∨ k = 3 ∨ k = 4 ∨ k = 5 ∨ k = 6 ∨ k = 7 ∨ k = 8 ∨ k = 10 ∨ k = 20 ∨ k = 21 ∨ k = 22 ∨ k = 23 := by omega
  rcases hk2 with rfl | rfl | rfl | rfl | rfl | rfl | rfl | rfl | rfl | rfl | rfl | rfl
  · by_cases h2 : 1 < n
    · exact ⟨0, false, fun w => specFS_2n n h0 h1 h2 w, fun w _ => implFS_2n n h0 h1 h2 w⟩
    · have h3 : n = 0 ∨ n = 1 := by omega
      rcases h3 with rfl | rfl
      · exact ⟨0, true, fun w => specFS_20 w, fun w _ => implFS_20 w⟩
      · exact ⟨1, true, fun w => specFS_21 w, fun w _ => implFS_21 w⟩
  · by_cases h2 : n ≤ 255
    · exact ⟨n, true, fun w => specFS_3y n h0 h1 h2 w, fun w ht => implFS_3y n h0 h1 h2 w (ht 3 _ _ rfl).1 (ht 3 _ _ rfl).2⟩
    · exact ⟨0, false, fun w => specFS_3n n h0 h1 (by omega) w, fun w ht => implFS_3n n h0 h1 (by omega) w (ht 3 _ _ rfl).1 (ht 3 _ _ rfl).2⟩
  · by_cases hb : n ≤ 2147483647
    · by_cases h2 : (-128) ≤ n ∧ n ≤ 127
      · exact ⟨n, true, fun w => specFS_4sy n _ h0 h1 rfl hb h2 w, fun w ht => implFS_4sy n _ h0 h1 rfl hb h2 w (ht 4 _ _ rfl).1 (ht 4 _ _ rfl).2⟩
      · exact ⟨0, false, fun w => specFS_4sn n _ h0 h1 rfl hb (by omega) w, fun w ht => implFS_4sn n _ h0 h1 rfl hb (by omega) w (ht 4 _ _ rfl).1 (ht 4 _ _ rfl).2⟩
    · by_cases h2 : (-128) ≤ (n - 4294967296) ∧ (n - 4294967296) ≤ 127
      · exact ⟨(n - 4294967296), true, fun w => specFS_4by n _ h0 h1 rfl (by omega) h2 w, fun w ht => implFS_4by n _ h0 h1 rfl (by omega) h2 w (ht 4 _ _ rfl).1 (ht 4 _ _ rfl).2⟩
      · exact ⟨0, false, fun w => specFS_4bn n _ h0 h1 rfl (by omega) (by omega) w, fun w ht => implFS_4bn n _ h0 h1 rfl (by omega) (by omega) w (ht 4 _ _ rfl).1 (ht 4 _ _ rfl).2⟩
  · by_cases h2 : n ≤ 65535
    · exact ⟨n, true, fun w => specFS_5y n h0 h1 h2 w, fun w ht => implFS_5y n h0 h1 h2 w (ht 5 _ _ rfl).1 (ht 5 _ _ rfl).2⟩
    · exact ⟨0, false, fun w => specFS_5n n h0 h1 (by omega) w, fun w ht => implFS_5n n h0 h1 (by omega) w (ht 5 _ _ rfl).1 (ht 5 _ _ rfl).2⟩
  · by_cases hb : n ≤ 2147483647
    · by_cases h2 : (-32768) ≤ n ∧ n ≤ 32767
      · exact ⟨n, true, fun w => specFS_6sy n _ h0 h1 rfl hb h2 w, fun w ht => implFS_6sy n _ h0 h1 rfl hb h2 w (ht 6 _ _ rfl).1 (ht 6 _ _ rfl).2⟩
      · exact ⟨0, false, fun w => specFS_6sn n _ h0 h1 rfl hb (by omega) w, fun w ht => implFS_6sn n _ h0 h1 rfl hb (by omega) w (ht 6 _ _ rfl).1 (ht 6 _ _ rfl).2⟩
    · by_cases h2 : (-32768) ≤ (n - 4294967296) ∧ (n - 4294967296) ≤ 32767
      · exact ⟨(n - 4294967296), true, fun w => specFS_6by n _ h0 h1 rfl (by omega) h2 w, fun w ht => implFS_6by n _ h0 h1 rfl (by omega) h2 w (ht 6 _ _ rfl).1 (ht 6 _ _ rfl).2⟩
      · exact ⟨0, false, fun w => specFS_6bn n _ h0 h1 rfl (by omega) (by omega) w, fun w ht => implFS_6bn n _ h0 h1 rfl (by omega) (by omega) w (ht 6 _ _ rfl).1 (ht 6 _ _ rfl).2⟩
  · exact ⟨n, true, fun w => specFS_7y n h0 h1 h1 w, fun w ht => implFS_7y n h0 h1 h1 w (ht 7 _ _ rfl).1 (ht 7 _ _ rfl).2⟩
  · by_cases hb : n ≤ 2147483647
    · exact ⟨n, true, fun w => specFS_8sy n _ h0 h1 rfl hb (by omega) w, fun w ht => implFS_8sy n _ h0 h1 rfl hb (by omega) w (ht 8 _ _ rfl).1 (ht 8 _ _ rfl).2⟩
    · exact ⟨(n - 4294967296), true, fun w => specFS_8by n _ h0 h1 rfl (by omega) (by omega) w, fun w ht => implFS_8by n _ h0 h1 rfl (by omega) (by omega) w (ht 8 _ _ rfl).1 (ht 8 _ _ rfl).2⟩
  · by_cases h2 : (0 ≤ n ∧ n ≤ 55295) ∨ (57344 ≤ n ∧ n ≤ 1114111)
    · exact ⟨n, true, fun w => specFS_10y n h0 h1 h2 w, fun w _ => implFS_10y n h0 h1 h2 w⟩
    · exact ⟨0, false, fun w => specFS_10n n h0 h1 h2 w, fun w _ => implFS_10n n h0 h1 h2 w⟩
  · by_cases h2 : n ≤ 2147483647
    · exact ⟨n, true, fun w => specFS_20y n h0 h1 h2 w, fun w _ => implFS_20y n h0 h1 h2 w⟩
    · exact ⟨0, false, fun w => specFS_20n n h0 h1 (by omega) w, fun w _ => implFS_20n n h0 h1 (by omega) w⟩
  · by_cases h2 : n ≤ 2147483647
    · exact ⟨n, true, fun w => specFS_21y n h0 h1 h2 w, fun w _ => implFS_21y n h0 h1 h2 w⟩
    · exact ⟨0, false, fun w => specFS_21n n h0 h1 (by omega) w, fun w _ => implFS_21n n h0 h1 (by omega) w⟩
  · by_cases h2 : n ≤ 2147483647
    · exact ⟨n, true, fun w => specFS_22y n h0 h1 h2 w, fun w _ => implFS_22y n h0 h1 h2 w⟩
    · exact ⟨0, false, fun w => specFS_22n n h0 h1 (by omega) w, fun w _ => implFS_22n n h0 h1 (by omega) w⟩
  · by_cases h2 : n ≤ 2147483647
    · exact ⟨n, true, fun w => specFS_23y n h0 h1 h2 w, fun w _ => implFS_23y n h0 h1 h2 w⟩
    · exact ⟨0, false, fun w => specFS_23n n h0 h1 (by omega) w, fun w _ => implFS_23n n h0 h1 (by omega) w⟩
end Go.Proofs.YtmnkkpahbmcekabDoor
