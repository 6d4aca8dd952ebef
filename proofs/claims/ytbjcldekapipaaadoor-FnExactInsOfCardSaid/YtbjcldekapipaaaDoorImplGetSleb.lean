/-
  Walks of impl's GetSleb.
-/
import Derived.Test.YtbjcldekapipaaaDoorSpecGetSleb
import Derived.Test.YtbjcldekapipaaaDoorImplGetLeb
namespace Go.Proofs.YtbjcldekapipaaaDoor
open Go.ChangeShapes Go.WideShapes Go.ChangeAt Go.RowKit
set_option linter.unusedVariables false

theorem ten_cell (w : World) (t : TypeId) (l : List Int) (k : Nat) (hk : k < 10) (x0 x1 x2 x3 x4 x5 x6 x7 x8 x9 : Int) (hx0 : pd l 0 = x0) (hx1 : pd l 1 = x1) (hx2 : pd l 2 = x2) (hx3 : pd l 3 = x3) (hx4 : pd l 4 = x4) (hx5 : pd l 5 = x5) (hx6 : pd l 6 = x6) (hx7 : pd l 7 = x7) (hx8 : pd l 8 = x8) (hx9 : pd l 9 = x9) : (w.alloc (.cells #[.int .u8 x0, .int .u8 x1, .int .u8 x2, .int .u8 x3, .int .u8 x4, .int .u8 x5, .int .u8 x6, .int .u8 x7, .int .u8 x8, .int .u8 x9] t)).cell? ⟨w.heap.size, k, none⟩ = some (.int .u8 (pd l k)) := by
  rw [World.cell?_alloc_new]
  have h3 : k = 0 ∨ k = 1 ∨ k = 2 ∨ k = 3 ∨ k = 4 ∨ k = 5 ∨ k = 6 ∨ k = 7 ∨ k = 8 ∨ k = 9 := by omega
  rcases h3 with rfl | rfl | rfl | rfl | rfl | rfl | rfl | rfl | rfl | rfl
  · rw [hx0]; rfl
  · rw [hx1]; rfl
  · rw [hx2]; rfl
  · rw [hx3]; rfl
  · rw [hx4]; rfl
  · rw [hx5]; rfl
  · rw [hx6]; rfl
  · rw [hx7]; rfl
  · rw [hx8]; rfl
  · rw [hx9]; rfl

set_option maxRecDepth 100000 in
set_option maxHeartbeats 2000000 in
theorem implGetSleb_pos_yes (s : ByteArray) (k : Nat) (w : World) (hk : k < s.size) (hk10 : k < 10) (hpre : ∀ j, (h : j < k) → 128 ≤ ((s[j]'(by omega)).toNat : Int)) (hlast : (s[k].toNat : Int) < 128) (hsz : (s.size : Int) ≤ 4294967296) (r : Nat) (hgv : gv ((nums s).take (k + 1)) % 18446744073709551616 = r) (v : Int) (hv0 : -9223372036854775808 ≤ v) (hv1 : v ≤ 9223372036854775807) (hb64 : (s[k].toNat : Int) < 64) (hfin : wrap64 (r : Int) = v) (heq : lebS v = (nums s).take (k + 1)) :
    Calls Tryd.prog 68 #[.string s] w fun e w' => e = .returned (.tuple #[.int .i64 v, .int .i64 ((k : Int) + 1), .bool true]) ∧ Below w.heap.size w w' := by
  have hll : ((nums s).take (k + 1)).length = k + 1 := by rw [List.length_take, nums_length]; omega
  have hv128 : -(64 * 128 ^ 9 : Int) ≤ v ∧ v < (64 * 128 ^ 9 : Int) := by omega
  obtain ⟨x0, hx0⟩ : ∃ x, pd ((nums s).take (k + 1)) 0 = x := ⟨_, rfl⟩
  obtain ⟨x1, hx1⟩ : ∃ x, pd ((nums s).take (k + 1)) 1 = x := ⟨_, rfl⟩
  obtain ⟨x2, hx2⟩ : ∃ x, pd ((nums s).take (k + 1)) 2 = x := ⟨_, rfl⟩
  obtain ⟨x3, hx3⟩ : ∃ x, pd ((nums s).take (k + 1)) 3 = x := ⟨_, rfl⟩
  obtain ⟨x4, hx4⟩ : ∃ x, pd ((nums s).take (k + 1)) 4 = x := ⟨_, rfl⟩
  obtain ⟨x5, hx5⟩ : ∃ x, pd ((nums s).take (k + 1)) 5 = x := ⟨_, rfl⟩
  obtain ⟨x6, hx6⟩ : ∃ x, pd ((nums s).take (k + 1)) 6 = x := ⟨_, rfl⟩
  obtain ⟨x7, hx7⟩ : ∃ x, pd ((nums s).take (k + 1)) 7 = x := ⟨_, rfl⟩
  obtain ⟨x8, hx8⟩ : ∃ x, pd ((nums s).take (k + 1)) 8 = x := ⟨_, rfl⟩
  obtain ⟨x9, hx9⟩ : ∃ x, pd ((nums s).take (k + 1)) 9 = x := ⟨_, rfl⟩
  have C1 : Hid (∀ W, Calls Tryd.prog 80 #[.string s] W fun e w' => e = .returned (.tuple #[.agg #[.int .u8 x0, .int .u8 x1, .int .u8 x2, .int .u8 x3, .int .u8 x4, .int .u8 x5, .int .u8 x6, .int .u8 x7, .int .u8 x8, .int .u8 x9], .int .i64 ((k : Int) + 1)]) ∧ Below W.heap.size W w') := fun W => lebAt_yes s k x0 x1 x2 x3 x4 x5 x6 x7 x8 x9 W hk hk10 hpre hlast hsz hx0 hx1 hx2 hx3 hx4 hx5 hx6 hx7 hx8 hx9
  have C2 : Hid (∀ W, Calls Tryd.prog 81 #[.agg #[.int .u8 x0, .int .u8 x1, .int .u8 x2, .int .u8 x3, .int .u8 x4, .int .u8 x5, .int .u8 x6, .int .u8 x7, .int .u8 x8, .int .u8 x9], .int .i64 ((k : Int) + 1)] W fun e w' => e = .returned (.int .u64 (r : Nat)) ∧ Below W.heap.size W w') := by
    intro W
    have h := groupsIn_any x0 x1 x2 x3 x4 x5 x6 x7 x8 x9 (k + 1) W (by omega) (by
      intro x hx
      simp only [List.mem_cons, List.not_mem_nil, or_false] at hx
      rcases hx with rfl | rfl | rfl | rfl | rfl | rfl | rfl | rfl | rfl | rfl
      · rw [← hx0]; exact pd_byte s _ _
      · rw [← hx1]; exact pd_byte s _ _
      · rw [← hx2]; exact pd_byte s _ _
      · rw [← hx3]; exact pd_byte s _ _
      · rw [← hx4]; exact pd_byte s _ _
      · rw [← hx5]; exact pd_byte s _ _
      · rw [← hx6]; exact pd_byte s _ _
      · rw [← hx7]; exact pd_byte s _ _
      · rw [← hx8]; exact pd_byte s _ _
      · rw [← hx9]; exact pd_byte s _ _)
    rw [ten_take ((nums s).take (k + 1)) (k + 1) hll (by omega) x0 x1 x2 x3 x4 x5 x6 x7 x8 x9 hx0 hx1 hx2 hx3 hx4 hx5 hx6 hx7 hx8 hx9, hgv] at h
    simpa using h
  have C3 : Hid (∀ W, Calls Tryd.prog 82 #[.agg #[.int .u8 x0, .int .u8 x1, .int .u8 x2, .int .u8 x3, .int .u8 x4, .int .u8 x5, .int .u8 x6, .int .u8 x7, .int .u8 x8, .int .u8 x9], .int .i64 v, .func (.func 63) #[] #[]] W fun e w' => e = .returned (.bool true) ∧ Below W.heap.size W w') := fun W => isShortS_yes v x0 x1 x2 x3 x4 x5 x6 x7 x8 x9 W hv128 ⟨hv0, by omega⟩ (by rw [heq]; exact hx0) (by rw [heq]; exact hx1) (by rw [heq]; exact hx2) (by rw [heq]; exact hx3) (by rw [heq]; exact hx4) (by rw [heq]; exact hx5) (by rw [heq]; exact hx6) (by rw [heq]; exact hx7) (by rw [heq]; exact hx8) (by rw [heq]; exact hx9)
  have hlastpd : pd ((nums s).take (k + 1)) k = (s[k].toNat : Int) := by
    rw [nums_take_snoc s k hk, pd_at, if_pos (by rw [List.length_take, nums_length]; omega)]
  have hcl := fun W => ten_cell W 88 ((nums s).take (k + 1)) k hk10 x0 x1 x2 x3 x4 x5 x6 x7 x8 x9 hx0 hx1 hx2 hx3 hx4 hx5 hx6 hx7 hx8 hx9
  rw [hlastpd] at hcl
  have hb0 : 0 ≤ ((s[k].toNat : Nat) : Int) := by omega
  have hand6 : bits .and .u8 ((s[k].toNat : Nat) : Int) 64 = 0 := by rw [u8_and64 _ hb0 (by omega), if_neg (by omega)]
  generalize ((s[k].toNat : Nat) : Int) = b at *
  have hkz : (((k : Int) + 1) == 0) = false := by rw [beq_eq_false_iff_ne]; omega
  have hki : (k : Int) < 10 := by omega
  have hr64 : (r : Int) < 18446744073709551616 := by omega
  have HR := Lib.hid hr64
  clear hpre hlast hgv hll hlastpd hv128 heq hr64 hx0 hx1 hx2 hx3 hx4 hx5 hx6 hx7 hx8 hx9
  go_enter Tryd.func68, Tryd.ntmps68
  go_wp2_with fail
  go_at_call 80
  refine (C1.out _).mono ?_
  rintro e w1 ⟨rfl, hb1⟩
  have hcl1 := hcl w1
  clear hcl
  go_wp2_with fail
  go_at_call 81
  refine (C2.out _).mono ?_
  rintro e w2 ⟨rfl, hb2⟩
  have hz : w1.heap.size < w2.heap.size := by have := hb2.size; simp at this; omega
  have hbb : Below w.heap.size w w2 := bchain (hb1.alloc hb1.size _) hb2 (by have := hb1.size; simp; omega)
  obtain ⟨hc, hf⟩ := bcell hb2
  have hcl2 : w2.cell? ⟨w1.heap.size, k, none⟩ = some (.int .u8 b) := (hc _ _ (by simp)).trans hcl1
  have e0 : w2.cell? ⟨w1.heap.size, 0, none⟩ = some (.int .u8 x0) := (hc _ _ (by simp)).trans (by simp)
  have e1 : w2.cell? ⟨w1.heap.size, 1, none⟩ = some (.int .u8 x1) := (hc _ _ (by simp)).trans (by simp)
  have e2 : w2.cell? ⟨w1.heap.size, 2, none⟩ = some (.int .u8 x2) := (hc _ _ (by simp)).trans (by simp)
  have e3 : w2.cell? ⟨w1.heap.size, 3, none⟩ = some (.int .u8 x3) := (hc _ _ (by simp)).trans (by simp)
  have e4 : w2.cell? ⟨w1.heap.size, 4, none⟩ = some (.int .u8 x4) := (hc _ _ (by simp)).trans (by simp)
  have e5 : w2.cell? ⟨w1.heap.size, 5, none⟩ = some (.int .u8 x5) := (hc _ _ (by simp)).trans (by simp)
  have e6 : w2.cell? ⟨w1.heap.size, 6, none⟩ = some (.int .u8 x6) := (hc _ _ (by simp)).trans (by simp)
  have e7 : w2.cell? ⟨w1.heap.size, 7, none⟩ = some (.int .u8 x7) := (hc _ _ (by simp)).trans (by simp)
  have e8 : w2.cell? ⟨w1.heap.size, 8, none⟩ = some (.int .u8 x8) := (hc _ _ (by simp)).trans (by simp)
  have e9 : w2.cell? ⟨w1.heap.size, 9, none⟩ = some (.int .u8 x9) := (hc _ _ (by simp)).trans (by simp)
  clear hcl1 hc hf
  go_wp2_with fail

  go_at_call 82
  refine (C3.out _).mono ?_
  rintro e w3 ⟨rfl, hb3⟩
  have hbc := bchain hbb hb3 hbb.size
  clear hb2 hb3 hb1 hbb hcl2
  go_wp2_with fail
  go_ret3
  exact ⟨rfl, hbc⟩

set_option maxRecDepth 100000 in
set_option maxHeartbeats 2000000 in
theorem implGetSleb_neg_yes (s : ByteArray) (k : Nat) (w : World) (hk : k < s.size) (hk10 : k < 10) (hpre : ∀ j, (h : j < k) → 128 ≤ ((s[j]'(by omega)).toNat : Int)) (hlast : (s[k].toNat : Int) < 128) (hsz : (s.size : Int) ≤ 4294967296) (r : Nat) (hgv : gv ((nums s).take (k + 1)) % 18446744073709551616 = r) (v : Int) (hv0 : -9223372036854775808 ≤ v) (hv1 : v ≤ 9223372036854775807) (hb64 : 64 ≤ (s[k].toNat : Int)) (q : Int) (hq : IntKind.u64.wrap (18446744073709551615 * 2 ^ min (7 * ((k : Int) + 1)).toNat 64) = q) (hfin : wrap64 (bits .or .u64 (r : Int) q) = v) (heq : lebS v = (nums s).take (k + 1)) :
    Calls Tryd.prog 68 #[.string s] w fun e w' => e = .returned (.tuple #[.int .i64 v, .int .i64 ((k : Int) + 1), .bool true]) ∧ Below w.heap.size w w' := by
  have hll : ((nums s).take (k + 1)).length = k + 1 := by rw [List.length_take, nums_length]; omega
  have hv128 : -(64 * 128 ^ 9 : Int) ≤ v ∧ v < (64 * 128 ^ 9 : Int) := by omega
  obtain ⟨x0, hx0⟩ : ∃ x, pd ((nums s).take (k + 1)) 0 = x := ⟨_, rfl⟩
  obtain ⟨x1, hx1⟩ : ∃ x, pd ((nums s).take (k + 1)) 1 = x := ⟨_, rfl⟩
  obtain ⟨x2, hx2⟩ : ∃ x, pd ((nums s).take (k + 1)) 2 = x := ⟨_, rfl⟩
  obtain ⟨x3, hx3⟩ : ∃ x, pd ((nums s).take (k + 1)) 3 = x := ⟨_, rfl⟩
  obtain ⟨x4, hx4⟩ : ∃ x, pd ((nums s).take (k + 1)) 4 = x := ⟨_, rfl⟩
  obtain ⟨x5, hx5⟩ : ∃ x, pd ((nums s).take (k + 1)) 5 = x := ⟨_, rfl⟩
  obtain ⟨x6, hx6⟩ : ∃ x, pd ((nums s).take (k + 1)) 6 = x := ⟨_, rfl⟩
  obtain ⟨x7, hx7⟩ : ∃ x, pd ((nums s).take (k + 1)) 7 = x := ⟨_, rfl⟩
  obtain ⟨x8, hx8⟩ : ∃ x, pd ((nums s).take (k + 1)) 8 = x := ⟨_, rfl⟩
  obtain ⟨x9, hx9⟩ : ∃ x, pd ((nums s).take (k + 1)) 9 = x := ⟨_, rfl⟩
  have C1 : Hid (∀ W, Calls Tryd.prog 80 #[.string s] W fun e w' => e = .returned (.tuple #[.agg #[.int .u8 x0, .int .u8 x1, .int .u8 x2, .int .u8 x3, .int .u8 x4, .int .u8 x5, .int .u8 x6, .int .u8 x7, .int .u8 x8, .int .u8 x9], .int .i64 ((k : Int) + 1)]) ∧ Below W.heap.size W w') := fun W => lebAt_yes s k x0 x1 x2 x3 x4 x5 x6 x7 x8 x9 W hk hk10 hpre hlast hsz hx0 hx1 hx2 hx3 hx4 hx5 hx6 hx7 hx8 hx9
  have C2 : Hid (∀ W, Calls Tryd.prog 81 #[.agg #[.int .u8 x0, .int .u8 x1, .int .u8 x2, .int .u8 x3, .int .u8 x4, .int .u8 x5, .int .u8 x6, .int .u8 x7, .int .u8 x8, .int .u8 x9], .int .i64 ((k : Int) + 1)] W fun e w' => e = .returned (.int .u64 (r : Nat)) ∧ Below W.heap.size W w') := by
    intro W
    have h := groupsIn_any x0 x1 x2 x3 x4 x5 x6 x7 x8 x9 (k + 1) W (by omega) (by
      intro x hx
      simp only [List.mem_cons, List.not_mem_nil, or_false] at hx
      rcases hx with rfl | rfl | rfl | rfl | rfl | rfl | rfl | rfl | rfl | rfl
      · rw [← hx0]; exact pd_byte s _ _
      · rw [← hx1]; exact pd_byte s _ _
      · rw [← hx2]; exact pd_byte s _ _
      · rw [← hx3]; exact pd_byte s _ _
      · rw [← hx4]; exact pd_byte s _ _
      · rw [← hx5]; exact pd_byte s _ _
      · rw [← hx6]; exact pd_byte s _ _
      · rw [← hx7]; exact pd_byte s _ _
      · rw [← hx8]; exact pd_byte s _ _
      · rw [← hx9]; exact pd_byte s _ _)
    rw [ten_take ((nums s).take (k + 1)) (k + 1) hll (by omega) x0 x1 x2 x3 x4 x5 x6 x7 x8 x9 hx0 hx1 hx2 hx3 hx4 hx5 hx6 hx7 hx8 hx9, hgv] at h
    simpa using h
  have C3 : Hid (∀ W, Calls Tryd.prog 82 #[.agg #[.int .u8 x0, .int .u8 x1, .int .u8 x2, .int .u8 x3, .int .u8 x4, .int .u8 x5, .int .u8 x6, .int .u8 x7, .int .u8 x8, .int .u8 x9], .int .i64 v, .func (.func 63) #[] #[]] W fun e w' => e = .returned (.bool true) ∧ Below W.heap.size W w') := fun W => isShortS_yes v x0 x1 x2 x3 x4 x5 x6 x7 x8 x9 W hv128 ⟨hv0, by omega⟩ (by rw [heq]; exact hx0) (by rw [heq]; exact hx1) (by rw [heq]; exact hx2) (by rw [heq]; exact hx3) (by rw [heq]; exact hx4) (by rw [heq]; exact hx5) (by rw [heq]; exact hx6) (by rw [heq]; exact hx7) (by rw [heq]; exact hx8) (by rw [heq]; exact hx9)
  have hlastpd : pd ((nums s).take (k + 1)) k = (s[k].toNat : Int) := by
    rw [nums_take_snoc s k hk, pd_at, if_pos (by rw [List.length_take, nums_length]; omega)]
  have hcl := fun W => ten_cell W 88 ((nums s).take (k + 1)) k hk10 x0 x1 x2 x3 x4 x5 x6 x7 x8 x9 hx0 hx1 hx2 hx3 hx4 hx5 hx6 hx7 hx8 hx9
  rw [hlastpd] at hcl
  have hb0 : 0 ≤ ((s[k].toNat : Nat) : Int) := by omega
  have hand6 : bits .and .u8 ((s[k].toNat : Nat) : Int) 64 = 64 := by rw [u8_and64 _ hb0 (by omega), if_pos (by omega)]
  have hsh : ∀ W, (Op.shift .shl .u64 18446744073709551615 .i64 (7 * ((k : Int) + 1))).run Tryd.prog W = .ok (.int .u64 q) W := by
    intro W
    rw [shift_shl_any _ _ _ _ (by omega), ← hq]
    rfl
  clear hq
  generalize ((s[k].toNat : Nat) : Int) = b at *
  have hkz : (((k : Int) + 1) == 0) = false := by rw [beq_eq_false_iff_ne]; omega
  have hki : (k : Int) < 10 := by omega
  have hr64 : (r : Int) < 18446744073709551616 := by omega
  have HR := Lib.hid hr64
  clear hpre hlast hgv hll hlastpd hv128 heq hr64 hx0 hx1 hx2 hx3 hx4 hx5 hx6 hx7 hx8 hx9
  go_enter Tryd.func68, Tryd.ntmps68
  go_wp2_with fail
  go_at_call 80
  refine (C1.out _).mono ?_
  rintro e w1 ⟨rfl, hb1⟩
  have hcl1 := hcl w1
  clear hcl
  go_wp2_with fail
  go_at_call 81
  refine (C2.out _).mono ?_
  rintro e w2 ⟨rfl, hb2⟩
  have hz : w1.heap.size < w2.heap.size := by have := hb2.size; simp at this; omega
  have hbb : Below w.heap.size w w2 := bchain (hb1.alloc hb1.size _) hb2 (by have := hb1.size; simp; omega)
  obtain ⟨hc, hf⟩ := bcell hb2
  have hcl2 : w2.cell? ⟨w1.heap.size, k, none⟩ = some (.int .u8 b) := (hc _ _ (by simp)).trans hcl1
  have e0 : w2.cell? ⟨w1.heap.size, 0, none⟩ = some (.int .u8 x0) := (hc _ _ (by simp)).trans (by simp)
  have e1 : w2.cell? ⟨w1.heap.size, 1, none⟩ = some (.int .u8 x1) := (hc _ _ (by simp)).trans (by simp)
  have e2 : w2.cell? ⟨w1.heap.size, 2, none⟩ = some (.int .u8 x2) := (hc _ _ (by simp)).trans (by simp)
  have e3 : w2.cell? ⟨w1.heap.size, 3, none⟩ = some (.int .u8 x3) := (hc _ _ (by simp)).trans (by simp)
  have e4 : w2.cell? ⟨w1.heap.size, 4, none⟩ = some (.int .u8 x4) := (hc _ _ (by simp)).trans (by simp)
  have e5 : w2.cell? ⟨w1.heap.size, 5, none⟩ = some (.int .u8 x5) := (hc _ _ (by simp)).trans (by simp)
  have e6 : w2.cell? ⟨w1.heap.size, 6, none⟩ = some (.int .u8 x6) := (hc _ _ (by simp)).trans (by simp)
  have e7 : w2.cell? ⟨w1.heap.size, 7, none⟩ = some (.int .u8 x7) := (hc _ _ (by simp)).trans (by simp)
  have e8 : w2.cell? ⟨w1.heap.size, 8, none⟩ = some (.int .u8 x8) := (hc _ _ (by simp)).trans (by simp)
  have e9 : w2.cell? ⟨w1.heap.size, 9, none⟩ = some (.int .u8 x9) := (hc _ _ (by simp)).trans (by simp)
  clear hcl1 hc hf
  go_wp2_with fail

  go_at_call 82
  refine (C3.out _).mono ?_
  rintro e w3 ⟨rfl, hb3⟩
  have hbc := bchain hbb hb3 hbb.size
  clear hb2 hb3 hb1 hbb hcl2
  go_wp2_with fail
  go_ret3
  exact ⟨rfl, hbc⟩

set_option maxRecDepth 100000 in
set_option maxHeartbeats 2000000 in
theorem implGetSleb_pos_no (s : ByteArray) (k : Nat) (w : World) (hk : k < s.size) (hk10 : k < 10) (hpre : ∀ j, (h : j < k) → 128 ≤ ((s[j]'(by omega)).toNat : Int)) (hlast : (s[k].toNat : Int) < 128) (hsz : (s.size : Int) ≤ 4294967296) (r : Nat) (hgv : gv ((nums s).take (k + 1)) % 18446744073709551616 = r) (v : Int) (hv0 : -9223372036854775808 ≤ v) (hv1 : v ≤ 9223372036854775807) (hb64 : (s[k].toNat : Int) < 64) (hfin : wrap64 (r : Int) = v) (heq : ¬ lebS v = (nums s).take (k + 1)) :
    Calls Tryd.prog 68 #[.string s] w fun e w' => e = .returned (.tuple #[.int .i64 0, .int .i64 0, .bool false]) ∧ Below w.heap.size w w' := by
  have hll : ((nums s).take (k + 1)).length = k + 1 := by rw [List.length_take, nums_length]; omega
  have hv128 : -(64 * 128 ^ 9 : Int) ≤ v ∧ v < (64 * 128 ^ 9 : Int) := by omega
  obtain ⟨x0, hx0⟩ : ∃ x, pd ((nums s).take (k + 1)) 0 = x := ⟨_, rfl⟩
  obtain ⟨x1, hx1⟩ : ∃ x, pd ((nums s).take (k + 1)) 1 = x := ⟨_, rfl⟩
  obtain ⟨x2, hx2⟩ : ∃ x, pd ((nums s).take (k + 1)) 2 = x := ⟨_, rfl⟩
  obtain ⟨x3, hx3⟩ : ∃ x, pd ((nums s).take (k + 1)) 3 = x := ⟨_, rfl⟩
  obtain ⟨x4, hx4⟩ : ∃ x, pd ((nums s).take (k + 1)) 4 = x := ⟨_, rfl⟩
  obtain ⟨x5, hx5⟩ : ∃ x, pd ((nums s).take (k + 1)) 5 = x := ⟨_, rfl⟩
  obtain ⟨x6, hx6⟩ : ∃ x, pd ((nums s).take (k + 1)) 6 = x := ⟨_, rfl⟩
  obtain ⟨x7, hx7⟩ : ∃ x, pd ((nums s).take (k + 1)) 7 = x := ⟨_, rfl⟩
  obtain ⟨x8, hx8⟩ : ∃ x, pd ((nums s).take (k + 1)) 8 = x := ⟨_, rfl⟩
  obtain ⟨x9, hx9⟩ : ∃ x, pd ((nums s).take (k + 1)) 9 = x := ⟨_, rfl⟩
  have C1 : Hid (∀ W, Calls Tryd.prog 80 #[.string s] W fun e w' => e = .returned (.tuple #[.agg #[.int .u8 x0, .int .u8 x1, .int .u8 x2, .int .u8 x3, .int .u8 x4, .int .u8 x5, .int .u8 x6, .int .u8 x7, .int .u8 x8, .int .u8 x9], .int .i64 ((k : Int) + 1)]) ∧ Below W.heap.size W w') := fun W => lebAt_yes s k x0 x1 x2 x3 x4 x5 x6 x7 x8 x9 W hk hk10 hpre hlast hsz hx0 hx1 hx2 hx3 hx4 hx5 hx6 hx7 hx8 hx9
  have C2 : Hid (∀ W, Calls Tryd.prog 81 #[.agg #[.int .u8 x0, .int .u8 x1, .int .u8 x2, .int .u8 x3, .int .u8 x4, .int .u8 x5, .int .u8 x6, .int .u8 x7, .int .u8 x8, .int .u8 x9], .int .i64 ((k : Int) + 1)] W fun e w' => e = .returned (.int .u64 (r : Nat)) ∧ Below W.heap.size W w') := by
    intro W
    have h := groupsIn_any x0 x1 x2 x3 x4 x5 x6 x7 x8 x9 (k + 1) W (by omega) (by
      intro x hx
      simp only [List.mem_cons, List.not_mem_nil, or_false] at hx
      rcases hx with rfl | rfl | rfl | rfl | rfl | rfl | rfl | rfl | rfl | rfl
      · rw [← hx0]; exact pd_byte s _ _
      · rw [← hx1]; exact pd_byte s _ _
      · rw [← hx2]; exact pd_byte s _ _
      · rw [← hx3]; exact pd_byte s _ _
      · rw [← hx4]; exact pd_byte s _ _
      · rw [← hx5]; exact pd_byte s _ _
      · rw [← hx6]; exact pd_byte s _ _
      · rw [← hx7]; exact pd_byte s _ _
      · rw [← hx8]; exact pd_byte s _ _
      · rw [← hx9]; exact pd_byte s _ _)
    rw [ten_take ((nums s).take (k + 1)) (k + 1) hll (by omega) x0 x1 x2 x3 x4 x5 x6 x7 x8 x9 hx0 hx1 hx2 hx3 hx4 hx5 hx6 hx7 hx8 hx9, hgv] at h
    simpa using h
  have C3 : Hid (∀ W, Calls Tryd.prog 82 #[.agg #[.int .u8 x0, .int .u8 x1, .int .u8 x2, .int .u8 x3, .int .u8 x4, .int .u8 x5, .int .u8 x6, .int .u8 x7, .int .u8 x8, .int .u8 x9], .int .i64 v, .func (.func 63) #[] #[]] W fun e w' => e = .returned (.bool false) ∧ Below W.heap.size W w') := by
    intro W
    have hlen : (lebS v).length ≤ 10 := lebS_length 9 v hv128.1 hv128.2
    exact isShortS_no v x0 x1 x2 x3 x4 x5 x6 x7 x8 x9 W hv128 ⟨hv0, by omega⟩ (fun hall => heq (shape_eq (shape_lebS v) (shape_take s k hk hpre hlast) hlen (by omega) (by
      obtain ⟨a0, a1, a2, a3, a4, a5, a6, a7, a8, a9⟩ := hall
      intro j hj
      have h3 : j = 0 ∨ j = 1 ∨ j = 2 ∨ j = 3 ∨ j = 4 ∨ j = 5 ∨ j = 6 ∨ j = 7 ∨ j = 8 ∨ j = 9 := by omega
      rcases h3 with rfl | rfl | rfl | rfl | rfl | rfl | rfl | rfl | rfl | rfl
      · rw [a0, hx0]
      · rw [a1, hx1]
      · rw [a2, hx2]
      · rw [a3, hx3]
      · rw [a4, hx4]
      · rw [a5, hx5]
      · rw [a6, hx6]
      · rw [a7, hx7]
      · rw [a8, hx8]
      · rw [a9, hx9])))
  have hlastpd : pd ((nums s).take (k + 1)) k = (s[k].toNat : Int) := by
    rw [nums_take_snoc s k hk, pd_at, if_pos (by rw [List.length_take, nums_length]; omega)]
  have hcl := fun W => ten_cell W 88 ((nums s).take (k + 1)) k hk10 x0 x1 x2 x3 x4 x5 x6 x7 x8 x9 hx0 hx1 hx2 hx3 hx4 hx5 hx6 hx7 hx8 hx9
  rw [hlastpd] at hcl
  have hb0 : 0 ≤ ((s[k].toNat : Nat) : Int) := by omega
  have hand6 : bits .and .u8 ((s[k].toNat : Nat) : Int) 64 = 0 := by rw [u8_and64 _ hb0 (by omega), if_neg (by omega)]
  generalize ((s[k].toNat : Nat) : Int) = b at *
  have hkz : (((k : Int) + 1) == 0) = false := by rw [beq_eq_false_iff_ne]; omega
  have hki : (k : Int) < 10 := by omega
  have hr64 : (r : Int) < 18446744073709551616 := by omega
  have HR := Lib.hid hr64
  clear hpre hlast hgv hll hlastpd hv128 heq hr64 hx0 hx1 hx2 hx3 hx4 hx5 hx6 hx7 hx8 hx9
  go_enter Tryd.func68, Tryd.ntmps68
  go_wp2_with fail
  go_at_call 80
  refine (C1.out _).mono ?_
  rintro e w1 ⟨rfl, hb1⟩
  have hcl1 := hcl w1
  clear hcl
  go_wp2_with fail
  go_at_call 81
  refine (C2.out _).mono ?_
  rintro e w2 ⟨rfl, hb2⟩
  have hz : w1.heap.size < w2.heap.size := by have := hb2.size; simp at this; omega
  have hbb : Below w.heap.size w w2 := bchain (hb1.alloc hb1.size _) hb2 (by have := hb1.size; simp; omega)
  obtain ⟨hc, hf⟩ := bcell hb2
  have hcl2 : w2.cell? ⟨w1.heap.size, k, none⟩ = some (.int .u8 b) := (hc _ _ (by simp)).trans hcl1
  have e0 : w2.cell? ⟨w1.heap.size, 0, none⟩ = some (.int .u8 x0) := (hc _ _ (by simp)).trans (by simp)
  have e1 : w2.cell? ⟨w1.heap.size, 1, none⟩ = some (.int .u8 x1) := (hc _ _ (by simp)).trans (by simp)
  have e2 : w2.cell? ⟨w1.heap.size, 2, none⟩ = some (.int .u8 x2) := (hc _ _ (by simp)).trans (by simp)
  have e3 : w2.cell? ⟨w1.heap.size, 3, none⟩ = some (.int .u8 x3) := (hc _ _ (by simp)).trans (by simp)
  have e4 : w2.cell? ⟨w1.heap.size, 4, none⟩ = some (.int .u8 x4) := (hc _ _ (by simp)).trans (by simp)
  have e5 : w2.cell? ⟨w1.heap.size, 5, none⟩ = some (.int .u8 x5) := (hc _ _ (by simp)).trans (by simp)
  have e6 : w2.cell? ⟨w1.heap.size, 6, none⟩ = some (.int .u8 x6) := (hc _ _ (by simp)).trans (by simp)
  have e7 : w2.cell? ⟨w1.heap.size, 7, none⟩ = some (.int .u8 x7) := (hc _ _ (by simp)).trans (by simp)
  have e8 : w2.cell? ⟨w1.heap.size, 8, none⟩ = some (.int .u8 x8) := (hc _ _ (by simp)).trans (by simp)
  have e9 : w2.cell? ⟨w1.heap.size, 9, none⟩ = some (.int .u8 x9) := (hc _ _ (by simp)).trans (by simp)
  clear hcl1 hc hf
  go_wp2_with fail

  go_at_call 82
  refine (C3.out _).mono ?_
  rintro e w3 ⟨rfl, hb3⟩
  have hbc := bchain hbb hb3 hbb.size
  clear hb2 hb3 hb1 hbb hcl2
  go_wp2_with fail
  go_ret3
  exact ⟨rfl, hbc⟩

set_option maxRecDepth 100000 in
set_option maxHeartbeats 2000000 in
theorem implGetSleb_neg_no (s : ByteArray) (k : Nat) (w : World) (hk : k < s.size) (hk10 : k < 10) (hpre : ∀ j, (h : j < k) → 128 ≤ ((s[j]'(by omega)).toNat : Int)) (hlast : (s[k].toNat : Int) < 128) (hsz : (s.size : Int) ≤ 4294967296) (r : Nat) (hgv : gv ((nums s).take (k + 1)) % 18446744073709551616 = r) (v : Int) (hv0 : -9223372036854775808 ≤ v) (hv1 : v ≤ 9223372036854775807) (hb64 : 64 ≤ (s[k].toNat : Int)) (q : Int) (hq : IntKind.u64.wrap (18446744073709551615 * 2 ^ min (7 * ((k : Int) + 1)).toNat 64) = q) (hfin : wrap64 (bits .or .u64 (r : Int) q) = v) (heq : ¬ lebS v = (nums s).take (k + 1)) :
    Calls Tryd.prog 68 #[.string s] w fun e w' => e = .returned (.tuple #[.int .i64 0, .int .i64 0, .bool false]) ∧ Below w.heap.size w w' := by
  have hll : ((nums s).take (k + 1)).length = k + 1 := by rw [List.length_take, nums_length]; omega
  have hv128 : -(64 * 128 ^ 9 : Int) ≤ v ∧ v < (64 * 128 ^ 9 : Int) := by omega
  obtain ⟨x0, hx0⟩ : ∃ x, pd ((nums s).take (k + 1)) 0 = x := ⟨_, rfl⟩
  obtain ⟨x1, hx1⟩ : ∃ x, pd ((nums s).take (k + 1)) 1 = x := ⟨_, rfl⟩
  obtain ⟨x2, hx2⟩ : ∃ x, pd ((nums s).take (k + 1)) 2 = x := ⟨_, rfl⟩
  obtain ⟨x3, hx3⟩ : ∃ x, pd ((nums s).take (k + 1)) 3 = x := ⟨_, rfl⟩
  obtain ⟨x4, hx4⟩ : ∃ x, pd ((nums s).take (k + 1)) 4 = x := ⟨_, rfl⟩
  obtain ⟨x5, hx5⟩ : ∃ x, pd ((nums s).take (k + 1)) 5 = x := ⟨_, rfl⟩
  obtain ⟨x6, hx6⟩ : ∃ x, pd ((nums s).take (k + 1)) 6 = x := ⟨_, rfl⟩
  obtain ⟨x7, hx7⟩ : ∃ x, pd ((nums s).take (k + 1)) 7 = x := ⟨_, rfl⟩
  obtain ⟨x8, hx8⟩ : ∃ x, pd ((nums s).take (k + 1)) 8 = x := ⟨_, rfl⟩
  obtain ⟨x9, hx9⟩ : ∃ x, pd ((nums s).take (k + 1)) 9 = x := ⟨_, rfl⟩
  have C1 : Hid (∀ W, Calls Tryd.prog 80 #[.string s] W fun e w' => e = .returned (.tuple #[.agg #[.int .u8 x0, .int .u8 x1, .int .u8 x2, .int .u8 x3, .int .u8 x4, .int .u8 x5, .int .u8 x6, .int .u8 x7, .int .u8 x8, .int .u8 x9], .int .i64 ((k : Int) + 1)]) ∧ Below W.heap.size W w') := fun W => lebAt_yes s k x0 x1 x2 x3 x4 x5 x6 x7 x8 x9 W hk hk10 hpre hlast hsz hx0 hx1 hx2 hx3 hx4 hx5 hx6 hx7 hx8 hx9
  have C2 : Hid (∀ W, Calls Tryd.prog 81 #[.agg #[.int .u8 x0, .int .u8 x1, .int .u8 x2, .int .u8 x3, .int .u8 x4, .int .u8 x5, .int .u8 x6, .int .u8 x7, .int .u8 x8, .int .u8 x9], .int .i64 ((k : Int) + 1)] W fun e w' => e = .returned (.int .u64 (r : Nat)) ∧ Below W.heap.size W w') := by
    intro W
    have h := groupsIn_any x0 x1 x2 x3 x4 x5 x6 x7 x8 x9 (k + 1) W (by omega) (by
      intro x hx
      simp only [List.mem_cons, List.not_mem_nil, or_false] at hx
      rcases hx with rfl | rfl | rfl | rfl | rfl | rfl | rfl | rfl | rfl | rfl
      · rw [← hx0]; exact pd_byte s _ _
      · rw [← hx1]; exact pd_byte s _ _
      · rw [← hx2]; exact pd_byte s _ _
      · rw [← hx3]; exact pd_byte s _ _
      · rw [← hx4]; exact pd_byte s _ _
      · rw [← hx5]; exact pd_byte s _ _
      · rw [← hx6]; exact pd_byte s _ _
      · rw [← hx7]; exact pd_byte s _ _
      · rw [← hx8]; exact pd_byte s _ _
      · rw [← hx9]; exact pd_byte s _ _)
    rw [ten_take ((nums s).take (k + 1)) (k + 1) hll (by omega) x0 x1 x2 x3 x4 x5 x6 x7 x8 x9 hx0 hx1 hx2 hx3 hx4 hx5 hx6 hx7 hx8 hx9, hgv] at h
    simpa using h
  have C3 : Hid (∀ W, Calls Tryd.prog 82 #[.agg #[.int .u8 x0, .int .u8 x1, .int .u8 x2, .int .u8 x3, .int .u8 x4, .int .u8 x5, .int .u8 x6, .int .u8 x7, .int .u8 x8, .int .u8 x9], .int .i64 v, .func (.func 63) #[] #[]] W fun e w' => e = .returned (.bool false) ∧ Below W.heap.size W w') := by
    intro W
    have hlen : (lebS v).length ≤ 10 := lebS_length 9 v hv128.1 hv128.2
    exact isShortS_no v x0 x1 x2 x3 x4 x5 x6 x7 x8 x9 W hv128 ⟨hv0, by omega⟩ (fun hall => heq (shape_eq (shape_lebS v) (shape_take s k hk hpre hlast) hlen (by omega) (by
      obtain ⟨a0, a1, a2, a3, a4, a5, a6, a7, a8, a9⟩ := hall
      intro j hj
      have h3 : j = 0 ∨ j = 1 ∨ j = 2 ∨ j = 3 ∨ j = 4 ∨ j = 5 ∨ j = 6 ∨ j = 7 ∨ j = 8 ∨ j = 9 := by omega
      rcases h3 with rfl | rfl | rfl | rfl | rfl | rfl | rfl | rfl | rfl | rfl
      · rw [a0, hx0]
      · rw [a1, hx1]
      · rw [a2, hx2]
      · rw [a3, hx3]
      · rw [a4, hx4]
      · rw [a5, hx5]
      · rw [a6, hx6]
      · rw [a7, hx7]
      · rw [a8, hx8]
      · rw [a9, hx9])))
  have hlastpd : pd ((nums s).take (k + 1)) k = (s[k].toNat : Int) := by
    rw [nums_take_snoc s k hk, pd_at, if_pos (by rw [List.length_take, nums_length]; omega)]
  have hcl := fun W => ten_cell W 88 ((nums s).take (k + 1)) k hk10 x0 x1 x2 x3 x4 x5 x6 x7 x8 x9 hx0 hx1 hx2 hx3 hx4 hx5 hx6 hx7 hx8 hx9
  rw [hlastpd] at hcl
  have hb0 : 0 ≤ ((s[k].toNat : Nat) : Int) := by omega
  have hand6 : bits .and .u8 ((s[k].toNat : Nat) : Int) 64 = 64 := by rw [u8_and64 _ hb0 (by omega), if_pos (by omega)]
  have hsh : ∀ W, (Op.shift .shl .u64 18446744073709551615 .i64 (7 * ((k : Int) + 1))).run Tryd.prog W = .ok (.int .u64 q) W := by
    intro W
    rw [shift_shl_any _ _ _ _ (by omega), ← hq]
    rfl
  clear hq
  generalize ((s[k].toNat : Nat) : Int) = b at *
  have hkz : (((k : Int) + 1) == 0) = false := by rw [beq_eq_false_iff_ne]; omega
  have hki : (k : Int) < 10 := by omega
  have hr64 : (r : Int) < 18446744073709551616 := by omega
  have HR := Lib.hid hr64
  clear hpre hlast hgv hll hlastpd hv128 heq hr64 hx0 hx1 hx2 hx3 hx4 hx5 hx6 hx7 hx8 hx9
  go_enter Tryd.func68, Tryd.ntmps68
  go_wp2_with fail
  go_at_call 80
  refine (C1.out _).mono ?_
  rintro e w1 ⟨rfl, hb1⟩
  have hcl1 := hcl w1
  clear hcl
  go_wp2_with fail
  go_at_call 81
  refine (C2.out _).mono ?_
  rintro e w2 ⟨rfl, hb2⟩
  have hz : w1.heap.size < w2.heap.size := by have := hb2.size; simp at this; omega
  have hbb : Below w.heap.size w w2 := bchain (hb1.alloc hb1.size _) hb2 (by have := hb1.size; simp; omega)
  obtain ⟨hc, hf⟩ := bcell hb2
  have hcl2 : w2.cell? ⟨w1.heap.size, k, none⟩ = some (.int .u8 b) := (hc _ _ (by simp)).trans hcl1
  have e0 : w2.cell? ⟨w1.heap.size, 0, none⟩ = some (.int .u8 x0) := (hc _ _ (by simp)).trans (by simp)
  have e1 : w2.cell? ⟨w1.heap.size, 1, none⟩ = some (.int .u8 x1) := (hc _ _ (by simp)).trans (by simp)
  have e2 : w2.cell? ⟨w1.heap.size, 2, none⟩ = some (.int .u8 x2) := (hc _ _ (by simp)).trans (by simp)
  have e3 : w2.cell? ⟨w1.heap.size, 3, none⟩ = some (.int .u8 x3) := (hc _ _ (by simp)).trans (by simp)
  have e4 : w2.cell? ⟨w1.heap.size, 4, none⟩ = some (.int .u8 x4) := (hc _ _ (by simp)).trans (by simp)
  have e5 : w2.cell? ⟨w1.heap.size, 5, none⟩ = some (.int .u8 x5) := (hc _ _ (by simp)).trans (by simp)
  have e6 : w2.cell? ⟨w1.heap.size, 6, none⟩ = some (.int .u8 x6) := (hc _ _ (by simp)).trans (by simp)
  have e7 : w2.cell? ⟨w1.heap.size, 7, none⟩ = some (.int .u8 x7) := (hc _ _ (by simp)).trans (by simp)
  have e8 : w2.cell? ⟨w1.heap.size, 8, none⟩ = some (.int .u8 x8) := (hc _ _ (by simp)).trans (by simp)
  have e9 : w2.cell? ⟨w1.heap.size, 9, none⟩ = some (.int .u8 x9) := (hc _ _ (by simp)).trans (by simp)
  clear hcl1 hc hf
  go_wp2_with fail

  go_at_call 82
  refine (C3.out _).mono ?_
  rintro e w3 ⟨rfl, hb3⟩
  have hbc := bchain hbb hb3 hbb.size
  clear hb2 hb3 hb1 hbb hcl2
  go_wp2_with fail
  go_ret3
  exact ⟨rfl, hbc⟩

set_option maxRecDepth 100000 in
set_option maxHeartbeats 2000000 in
theorem implGetSleb_none (s : ByteArray) (w : World) (hpre : ∀ j, (h : j < s.size) → j < 10 → 128 ≤ ((s[j]'h).toNat : Int)) (hsz : (s.size : Int) ≤ 4294967296) :
    Calls Tryd.prog 68 #[.string s] w fun e w' => e = .returned (.tuple #[.int .i64 0, .int .i64 0, .bool false]) ∧ Below w.heap.size w w' := by
  have C1 : Hid (∀ W, Calls Tryd.prog 80 #[.string s] W fun e w' => e = .returned (.tuple #[.agg #[.int .u8 0, .int .u8 0, .int .u8 0, .int .u8 0, .int .u8 0, .int .u8 0, .int .u8 0, .int .u8 0, .int .u8 0, .int .u8 0], .int .i64 0]) ∧ Below W.heap.size W w') := fun W => lebAt_no s W hpre hsz
  clear hpre
  go_enter Tryd.func68, Tryd.ntmps68
  go_wp2_with fail
  go_at_call 80
  refine (C1.out _).mono ?_
  rintro e w1 ⟨rfl, hb1⟩
  have hbb := hb1.alloc hb1.size (.cells #[.int .u8 0, .int .u8 0, .int .u8 0, .int .u8 0, .int .u8 0, .int .u8 0, .int .u8 0, .int .u8 0, .int .u8 0, .int .u8 0] 88)
  go_wp2_with fail
  go_ret3
  exact ⟨rfl, hbb⟩
end Go.Proofs.YtbjcldekapipaaaDoor
