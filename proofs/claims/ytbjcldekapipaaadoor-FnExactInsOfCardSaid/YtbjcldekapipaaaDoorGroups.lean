/-
  The walk of groupsIn.
-/
import Derived.Test.YtbjcldekapipaaaDoorLebVal
import Derived.Test.YtbjcldekapipaaaDoorArrEq
import Derived.Test.YtbjcldekapipaaaDoorLebOfS
namespace Go.Proofs.YtbjcldekapipaaaDoor
open Go.ChangeShapes Go.WideShapes Go.ChangeAt Go.RowKit

set_option maxRecDepth 100000 in
set_option maxHeartbeats 1000000 in
theorem groupsIn_any (x0 x1 x2 x3 x4 x5 x6 x7 x8 x9 : Int) (k : Nat) (w : World) (hk : k ≤ 10) (hb : ∀ x ∈ [x0, x1, x2, x3, x4, x5, x6, x7, x8, x9], 0 ≤ x ∧ x < 256) :
    Calls Tryd.prog 81 #[.agg #[.int .u8 x0, .int .u8 x1, .int .u8 x2, .int .u8 x3, .int .u8 x4, .int .u8 x5, .int .u8 x6, .int .u8 x7, .int .u8 x8, .int .u8 x9], .int .i64 k] w fun e w' => e = .returned (.int .u64 ((gv ([x0, x1, x2, x3, x4, x5, x6, x7, x8, x9].take k) % 18446744073709551616 : Nat) : Int)) ∧ Below w.heap.size w w' := by
  obtain ⟨l, hl⟩ : ∃ l, [x0, x1, x2, x3, x4, x5, x6, x7, x8, x9] = l := ⟨_, rfl⟩
  have hlen : l.length = 10 := by rw [← hl]; rfl
  have hcell : Hid (∀ j, j < 10 → (w.alloc (.cells #[.int .u8 x0, .int .u8 x1, .int .u8 x2, .int .u8 x3, .int .u8 x4, .int .u8 x5, .int .u8 x6, .int .u8 x7, .int .u8 x8, .int .u8 x9] 88)).cell? ⟨w.heap.size, j, none⟩ = some (.int .u8 (l.getD j 0))) := by
    intro j hj
    rw [World.cell?_alloc_new, ← hl]
    have h : j = 0 ∨ j = 1 ∨ j = 2 ∨ j = 3 ∨ j = 4 ∨ j = 5 ∨ j = 6 ∨ j = 7 ∨ j = 8 ∨ j = 9 := by omega
    rcases h with rfl | rfl | rfl | rfl | rfl | rfl | rfl | rfl | rfl | rfl <;> rfl
  rw [hl] at hb ⊢
  have HB := Lib.hid hb
  have HLEN := Lib.hid hlen
  clear hb hlen hl
  obtain ⟨r, hr⟩ : ∃ r : Int, ((gv (l.take k) % 18446744073709551616 : Nat) : Int) = r := ⟨_, rfl⟩
  rw [hr]
  have HR := Lib.hid hr
  clear hr
  go_enter Tryd.func81, Tryd.ntmps81
  go_wp2_with fail
  go_loop [5, 8] (fun v i => ∃ (j : Nat) (x : Int), j ≤ k ∧ v = .int .u64 x ∧ i = .int .i64 j ∧ x = ((gv (l.take j) % 18446744073709551616 : Nat) : Int)) (fun _ i => k - (intOf i).toNat)
  case atStart => exact ⟨0, 0, by omega, rfl, rfl, by simp [gv]⟩
  case round =>
    obtain ⟨j, x, hj, rfl, rfl, hx⟩ := hrel
    have HX := Lib.hid hx
    clear hx
    by_cases hlt : j < k
    · have hjk : (j : Int) < (k : Int) := by omega
      have hj10 : (j : Int) < 10 := by omega
      have hk10 : (k : Int) ≤ 10 := by omega
      have hc := hcell.out j (by omega)
      obtain ⟨b, hb⟩ : ∃ b, l.getD j 0 = b := ⟨_, rfl⟩
      rw [hb] at hc
      have hbm : 0 ≤ b ∧ b < 256 := by
        rw [← hb, List.getD_eq_getElem?_getD, List.getElem?_eq_getElem (by rw [HLEN.out]; omega)]
        exact HB.out _ (List.getElem_mem _)
      obtain ⟨hb0, hb1⟩ := hbm
      have hand := u8_and127 b hb0 hb1
      have hstep : Hid (bits .or .u64 x ((b % 128) * 2 ^ (7 * j) % 18446744073709551616) = ((gv (l.take (j + 1)) % 18446744073709551616 : Nat) : Int)) := by
        have h1 := gv_lt (l.take j)
        rw [List.length_take, Nat.min_eq_left (by rw [HLEN.out]; omega)] at h1
        have h2 : (2 : Nat) ^ (7 * j) ≤ 2 ^ 63 := Nat.pow_le_pow_right (by decide) (by omega)
        have h3 : (2 : Nat) ^ 63 = 9223372036854775808 := by decide
        have hx2 : x = (gv (l.take j) : Int) := by rw [HX.out, Nat.mod_eq_of_lt (by omega)]
        rw [hx2]
        exact u64_group l j (by rw [HLEN.out]; omega) (by omega) b hb
      have HBB := Lib.hid hb
      clear hb
      go_wp2_with fail
      go_round
      case rel => exact ⟨j + 1, _, by omega, rfl, by go_num, by rw [IntKind.wrap_u64]; exact hstep.out⟩
      case measure => simp [intOf]; omega
    · obtain rfl : j = k := by omega
      go_wp2_with fail
      go_ret
      exact ⟨ret_int (by rw [HX.out, HR.out]), below1 _ _⟩

set_option maxRecDepth 100000 in
set_option maxHeartbeats 2000000 in
theorem isShortU_yes (n : Nat) (x0 x1 x2 x3 x4 x5 x6 x7 x8 x9 : Int) (w : World) (hn : n < 128 ^ 10) (hn2 : (n : Int) < 18446744073709551616) (hx0 : pd (lebU n) 0 = x0) (hx1 : pd (lebU n) 1 = x1) (hx2 : pd (lebU n) 2 = x2) (hx3 : pd (lebU n) 3 = x3) (hx4 : pd (lebU n) 4 = x4) (hx5 : pd (lebU n) 5 = x5) (hx6 : pd (lebU n) 6 = x6) (hx7 : pd (lebU n) 7 = x7) (hx8 : pd (lebU n) 8 = x8) (hx9 : pd (lebU n) 9 = x9) :
    Calls Tryd.prog 85 #[.agg #[.int .u8 x0, .int .u8 x1, .int .u8 x2, .int .u8 x3, .int .u8 x4, .int .u8 x5, .int .u8 x6, .int .u8 x7, .int .u8 x8, .int .u8 x9], .int .u64 n, .func (.func 65) #[] #[]] w fun e w' => e = .returned (.bool true) ∧ Below w.heap.size w w' := by
  obtain ⟨y0, hy0⟩ : ∃ y, pd (lebU n) 0 = y := ⟨_, rfl⟩
  obtain ⟨y1, hy1⟩ : ∃ y, pd (lebU n) 1 = y := ⟨_, rfl⟩
  obtain ⟨y2, hy2⟩ : ∃ y, pd (lebU n) 2 = y := ⟨_, rfl⟩
  obtain ⟨y3, hy3⟩ : ∃ y, pd (lebU n) 3 = y := ⟨_, rfl⟩
  obtain ⟨y4, hy4⟩ : ∃ y, pd (lebU n) 4 = y := ⟨_, rfl⟩
  obtain ⟨y5, hy5⟩ : ∃ y, pd (lebU n) 5 = y := ⟨_, rfl⟩
  obtain ⟨y6, hy6⟩ : ∃ y, pd (lebU n) 6 = y := ⟨_, rfl⟩
  obtain ⟨y7, hy7⟩ : ∃ y, pd (lebU n) 7 = y := ⟨_, rfl⟩
  obtain ⟨y8, hy8⟩ : ∃ y, pd (lebU n) 8 = y := ⟨_, rfl⟩
  obtain ⟨y9, hy9⟩ : ∃ y, pd (lebU n) 9 = y := ⟨_, rfl⟩
  have C : Hid (∀ W, Calls Tryd.prog 64 #[.int .u64 n, .func (.func 65) #[] #[]] W fun e w' => e = .returned (.tuple #[.agg #[.int .u8 y0, .int .u8 y1, .int .u8 y2, .int .u8 y3, .int .u8 y4, .int .u8 y5, .int .u8 y6, .int .u8 y7, .int .u8 y8, .int .u8 y9], .int .i64 ((lebU n).length : Nat)]) ∧ Below W.heap.size W w') :=
    fun W => lebOfU_any n y0 y1 y2 y3 y4 y5 y6 y7 y8 y9 _ W hn hn2 hy0 hy1 hy2 hy3 hy4 hy5 hy6 hy7 hy8 hy9 rfl
  generalize ((lebU n).length : Nat) = q at *
  obtain rfl : x0 = y0 := hx0.symm.trans hy0
  obtain rfl : x1 = y1 := hx1.symm.trans hy1
  obtain rfl : x2 = y2 := hx2.symm.trans hy2
  obtain rfl : x3 = y3 := hx3.symm.trans hy3
  obtain rfl : x4 = y4 := hx4.symm.trans hy4
  obtain rfl : x5 = y5 := hx5.symm.trans hy5
  obtain rfl : x6 = y6 := hx6.symm.trans hy6
  obtain rfl : x7 = y7 := hx7.symm.trans hy7
  obtain rfl : x8 = y8 := hx8.symm.trans hy8
  obtain rfl : x9 = y9 := hx9.symm.trans hy9
  clear hx0 hy0 hx1 hy1 hx2 hy2 hx3 hy3 hx4 hy4 hx5 hy5 hx6 hy6 hx7 hy7 hx8 hy8 hx9 hy9 hn hn2
  go_enter Tryd.func85, Tryd.ntmps85
  go_wp2_with fail
  go_at_call 64
  refine (C.out _).mono ?_
  rintro e w1 ⟨rfl, hb⟩
  obtain ⟨hc, hf⟩ := bcell hb
  have hz : w.heap.size < w1.heap.size := by have := hb.size; simp at this; omega
  have hq := run_equal_ten_at x0 x1 x2 x3 x4 x5 x6 x7 x8 x9 x0 x1 x2 x3 x4 x5 x6 x7 x8 x9
  have hg := guard_ten
  go_wp2_with fail
  go_ret
  exact ⟨ret_bool (by simp), (bchain (below1 _ _) hb (by simp)).alloc (by omega) _⟩

set_option maxRecDepth 100000 in
set_option maxHeartbeats 2000000 in
theorem isShortU_no (n : Nat) (x0 x1 x2 x3 x4 x5 x6 x7 x8 x9 : Int) (w : World) (hn : n < 128 ^ 10) (hn2 : (n : Int) < 18446744073709551616) (hno : ¬ (pd (lebU n) 0 = x0 ∧ pd (lebU n) 1 = x1 ∧ pd (lebU n) 2 = x2 ∧ pd (lebU n) 3 = x3 ∧ pd (lebU n) 4 = x4 ∧ pd (lebU n) 5 = x5 ∧ pd (lebU n) 6 = x6 ∧ pd (lebU n) 7 = x7 ∧ pd (lebU n) 8 = x8 ∧ pd (lebU n) 9 = x9)) :
    Calls Tryd.prog 85 #[.agg #[.int .u8 x0, .int .u8 x1, .int .u8 x2, .int .u8 x3, .int .u8 x4, .int .u8 x5, .int .u8 x6, .int .u8 x7, .int .u8 x8, .int .u8 x9], .int .u64 n, .func (.func 65) #[] #[]] w fun e w' => e = .returned (.bool false) ∧ Below w.heap.size w w' := by
  obtain ⟨y0, hy0⟩ : ∃ y, pd (lebU n) 0 = y := ⟨_, rfl⟩
  obtain ⟨y1, hy1⟩ : ∃ y, pd (lebU n) 1 = y := ⟨_, rfl⟩
  obtain ⟨y2, hy2⟩ : ∃ y, pd (lebU n) 2 = y := ⟨_, rfl⟩
  obtain ⟨y3, hy3⟩ : ∃ y, pd (lebU n) 3 = y := ⟨_, rfl⟩
  obtain ⟨y4, hy4⟩ : ∃ y, pd (lebU n) 4 = y := ⟨_, rfl⟩
  obtain ⟨y5, hy5⟩ : ∃ y, pd (lebU n) 5 = y := ⟨_, rfl⟩
  obtain ⟨y6, hy6⟩ : ∃ y, pd (lebU n) 6 = y := ⟨_, rfl⟩
  obtain ⟨y7, hy7⟩ : ∃ y, pd (lebU n) 7 = y := ⟨_, rfl⟩
  obtain ⟨y8, hy8⟩ : ∃ y, pd (lebU n) 8 = y := ⟨_, rfl⟩
  obtain ⟨y9, hy9⟩ : ∃ y, pd (lebU n) 9 = y := ⟨_, rfl⟩
  have C : Hid (∀ W, Calls Tryd.prog 64 #[.int .u64 n, .func (.func 65) #[] #[]] W fun e w' => e = .returned (.tuple #[.agg #[.int .u8 y0, .int .u8 y1, .int .u8 y2, .int .u8 y3, .int .u8 y4, .int .u8 y5, .int .u8 y6, .int .u8 y7, .int .u8 y8, .int .u8 y9], .int .i64 ((lebU n).length : Nat)]) ∧ Below W.heap.size W w') :=
    fun W => lebOfU_any n y0 y1 y2 y3 y4 y5 y6 y7 y8 y9 _ W hn hn2 hy0 hy1 hy2 hy3 hy4 hy5 hy6 hy7 hy8 hy9 rfl
  generalize ((lebU n).length : Nat) = q at *
  rw [hy0, hy1, hy2, hy3, hy4, hy5, hy6, hy7, hy8, hy9] at hno
  have HNO := Lib.hid hno
  clear hno hy0 hy1 hy2 hy3 hy4 hy5 hy6 hy7 hy8 hy9 hn hn2
  go_enter Tryd.func85, Tryd.ntmps85
  go_wp2_with fail
  go_at_call 64
  refine (C.out _).mono ?_
  rintro e w1 ⟨rfl, hb⟩
  obtain ⟨hc, hf⟩ := bcell hb
  have hz : w.heap.size < w1.heap.size := by have := hb.size; simp at this; omega
  have hq := run_equal_ten_at x0 x1 x2 x3 x4 x5 x6 x7 x8 x9 y0 y1 y2 y3 y4 y5 y6 y7 y8 y9
  have hg := guard_ten
  go_wp2_with fail
  go_ret
  exact ⟨ret_bool (by rw [Bool.eq_false_iff]; intro hc; exact HNO.out (by simp at hc; omega)), (bchain (below1 _ _) hb (by simp)).alloc (by omega) _⟩

set_option maxRecDepth 100000 in
set_option maxHeartbeats 2000000 in
theorem isShortS_yes (n : Int) (x0 x1 x2 x3 x4 x5 x6 x7 x8 x9 : Int) (w : World) (hn : -(64 * 128 ^ 9 : Int) ≤ n ∧ n < (64 * 128 ^ 9 : Int)) (hn2 : -9223372036854775808 ≤ n ∧ n < 9223372036854775808) (hx0 : pd (lebS n) 0 = x0) (hx1 : pd (lebS n) 1 = x1) (hx2 : pd (lebS n) 2 = x2) (hx3 : pd (lebS n) 3 = x3) (hx4 : pd (lebS n) 4 = x4) (hx5 : pd (lebS n) 5 = x5) (hx6 : pd (lebS n) 6 = x6) (hx7 : pd (lebS n) 7 = x7) (hx8 : pd (lebS n) 8 = x8) (hx9 : pd (lebS n) 9 = x9) :
    Calls Tryd.prog 82 #[.agg #[.int .u8 x0, .int .u8 x1, .int .u8 x2, .int .u8 x3, .int .u8 x4, .int .u8 x5, .int .u8 x6, .int .u8 x7, .int .u8 x8, .int .u8 x9], .int .i64 n, .func (.func 63) #[] #[]] w fun e w' => e = .returned (.bool true) ∧ Below w.heap.size w w' := by
  obtain ⟨y0, hy0⟩ : ∃ y, pd (lebS n) 0 = y := ⟨_, rfl⟩
  obtain ⟨y1, hy1⟩ : ∃ y, pd (lebS n) 1 = y := ⟨_, rfl⟩
  obtain ⟨y2, hy2⟩ : ∃ y, pd (lebS n) 2 = y := ⟨_, rfl⟩
  obtain ⟨y3, hy3⟩ : ∃ y, pd (lebS n) 3 = y := ⟨_, rfl⟩
  obtain ⟨y4, hy4⟩ : ∃ y, pd (lebS n) 4 = y := ⟨_, rfl⟩
  obtain ⟨y5, hy5⟩ : ∃ y, pd (lebS n) 5 = y := ⟨_, rfl⟩
  obtain ⟨y6, hy6⟩ : ∃ y, pd (lebS n) 6 = y := ⟨_, rfl⟩
  obtain ⟨y7, hy7⟩ : ∃ y, pd (lebS n) 7 = y := ⟨_, rfl⟩
  obtain ⟨y8, hy8⟩ : ∃ y, pd (lebS n) 8 = y := ⟨_, rfl⟩
  obtain ⟨y9, hy9⟩ : ∃ y, pd (lebS n) 9 = y := ⟨_, rfl⟩
  have C : Hid (∀ W, Calls Tryd.prog 62 #[.int .i64 n, .func (.func 63) #[] #[]] W fun e w' => e = .returned (.tuple #[.agg #[.int .u8 y0, .int .u8 y1, .int .u8 y2, .int .u8 y3, .int .u8 y4, .int .u8 y5, .int .u8 y6, .int .u8 y7, .int .u8 y8, .int .u8 y9], .int .i64 ((lebS n).length : Nat)]) ∧ Below W.heap.size W w') :=
    fun W => lebOfS_any n y0 y1 y2 y3 y4 y5 y6 y7 y8 y9 _ W hn hn2 hy0 hy1 hy2 hy3 hy4 hy5 hy6 hy7 hy8 hy9 rfl
  generalize ((lebS n).length : Nat) = q at *
  obtain rfl : x0 = y0 := hx0.symm.trans hy0
  obtain rfl : x1 = y1 := hx1.symm.trans hy1
  obtain rfl : x2 = y2 := hx2.symm.trans hy2
  obtain rfl : x3 = y3 := hx3.symm.trans hy3
  obtain rfl : x4 = y4 := hx4.symm.trans hy4
  obtain rfl : x5 = y5 := hx5.symm.trans hy5
  obtain rfl : x6 = y6 := hx6.symm.trans hy6
  obtain rfl : x7 = y7 := hx7.symm.trans hy7
  obtain rfl : x8 = y8 := hx8.symm.trans hy8
  obtain rfl : x9 = y9 := hx9.symm.trans hy9
  clear hx0 hy0 hx1 hy1 hx2 hy2 hx3 hy3 hx4 hy4 hx5 hy5 hx6 hy6 hx7 hy7 hx8 hy8 hx9 hy9 hn hn2
  go_enter Tryd.func82, Tryd.ntmps82
  go_wp2_with fail
  go_at_call 62
  refine (C.out _).mono ?_
  rintro e w1 ⟨rfl, hb⟩
  obtain ⟨hc, hf⟩ := bcell hb
  have hz : w.heap.size < w1.heap.size := by have := hb.size; simp at this; omega
  have hq := run_equal_ten_at x0 x1 x2 x3 x4 x5 x6 x7 x8 x9 x0 x1 x2 x3 x4 x5 x6 x7 x8 x9
  have hg := guard_ten
  go_wp2_with fail
  go_ret
  exact ⟨ret_bool (by simp), (bchain (below1 _ _) hb (by simp)).alloc (by omega) _⟩

set_option maxRecDepth 100000 in
set_option maxHeartbeats 2000000 in
theorem isShortS_no (n : Int) (x0 x1 x2 x3 x4 x5 x6 x7 x8 x9 : Int) (w : World) (hn : -(64 * 128 ^ 9 : Int) ≤ n ∧ n < (64 * 128 ^ 9 : Int)) (hn2 : -9223372036854775808 ≤ n ∧ n < 9223372036854775808) (hno : ¬ (pd (lebS n) 0 = x0 ∧ pd (lebS n) 1 = x1 ∧ pd (lebS n) 2 = x2 ∧ pd (lebS n) 3 = x3 ∧ pd (lebS n) 4 = x4 ∧ pd (lebS n) 5 = x5 ∧ pd (lebS n) 6 = x6 ∧ pd (lebS n) 7 = x7 ∧ pd (lebS n) 8 = x8 ∧ pd (lebS n) 9 = x9)) :
    Calls Tryd.prog 82 #[.agg #[.int .u8 x0, .int .u8 x1, .int .u8 x2, .int .u8 x3, .int .u8 x4, .int .u8 x5, .int .u8 x6, .int .u8 x7, .int .u8 x8, .int .u8 x9], .int .i64 n, .func (.func 63) #[] #[]] w fun e w' => e = .returned (.bool false) ∧ Below w.heap.size w w' := by
  obtain ⟨y0, hy0⟩ : ∃ y, pd (lebS n) 0 = y := ⟨_, rfl⟩
  obtain ⟨y1, hy1⟩ : ∃ y, pd (lebS n) 1 = y := ⟨_, rfl⟩
  obtain ⟨y2, hy2⟩ : ∃ y, pd (lebS n) 2 = y := ⟨_, rfl⟩
  obtain ⟨y3, hy3⟩ : ∃ y, pd (lebS n) 3 = y := ⟨_, rfl⟩
  obtain ⟨y4, hy4⟩ : ∃ y, pd (lebS n) 4 = y := ⟨_, rfl⟩
  obtain ⟨y5, hy5⟩ : ∃ y, pd (lebS n) 5 = y := ⟨_, rfl⟩
  obtain ⟨y6, hy6⟩ : ∃ y, pd (lebS n) 6 = y := ⟨_, rfl⟩
  obtain ⟨y7, hy7⟩ : ∃ y, pd (lebS n) 7 = y := ⟨_, rfl⟩
  obtain ⟨y8, hy8⟩ : ∃ y, pd (lebS n) 8 = y := ⟨_, rfl⟩
  obtain ⟨y9, hy9⟩ : ∃ y, pd (lebS n) 9 = y := ⟨_, rfl⟩
  have C : Hid (∀ W, Calls Tryd.prog 62 #[.int .i64 n, .func (.func 63) #[] #[]] W fun e w' => e = .returned (.tuple #[.agg #[.int .u8 y0, .int .u8 y1, .int .u8 y2, .int .u8 y3, .int .u8 y4, .int .u8 y5, .int .u8 y6, .int .u8 y7, .int .u8 y8, .int .u8 y9], .int .i64 ((lebS n).length : Nat)]) ∧ Below W.heap.size W w') :=
    fun W => lebOfS_any n y0 y1 y2 y3 y4 y5 y6 y7 y8 y9 _ W hn hn2 hy0 hy1 hy2 hy3 hy4 hy5 hy6 hy7 hy8 hy9 rfl
  generalize ((lebS n).length : Nat) = q at *
  rw [hy0, hy1, hy2, hy3, hy4, hy5, hy6, hy7, hy8, hy9] at hno
  have HNO := Lib.hid hno
  clear hno hy0 hy1 hy2 hy3 hy4 hy5 hy6 hy7 hy8 hy9 hn hn2
  go_enter Tryd.func82, Tryd.ntmps82
  go_wp2_with fail
  go_at_call 62
  refine (C.out _).mono ?_
  rintro e w1 ⟨rfl, hb⟩
  obtain ⟨hc, hf⟩ := bcell hb
  have hz : w.heap.size < w1.heap.size := by have := hb.size; simp at this; omega
  have hq := run_equal_ten_at x0 x1 x2 x3 x4 x5 x6 x7 x8 x9 y0 y1 y2 y3 y4 y5 y6 y7 y8 y9
  have hg := guard_ten
  go_wp2_with fail
  go_ret
  exact ⟨ret_bool (by rw [Bool.eq_false_iff]; intro hc; exact HNO.out (by simp at hc; omega)), (bchain (below1 _ _) hb (by simp)).alloc (by omega) _⟩
end Go.Proofs.YtbjcldekapipaaaDoor
