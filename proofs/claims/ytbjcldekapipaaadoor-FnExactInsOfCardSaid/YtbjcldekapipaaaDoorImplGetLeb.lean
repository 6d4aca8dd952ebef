/-
  Walks of impl's GetLeb.
-/
import Derived.Test.YtbjcldekapipaaaDoorSpecGetLeb
namespace Go.Proofs.YtbjcldekapipaaaDoor
open Go.ChangeShapes Go.WideShapes Go.ChangeAt Go.RowKit

theorem pd_byte (s : ByteArray) (m j : Nat) : 0 ≤ pd ((nums s).take m) j ∧ pd ((nums s).take m) j < 256 := by
  by_cases h : j < ((nums s).take m).length
  · rw [pd_of_lt _ j h]; exact nums_byte s _ (List.mem_of_mem_take (List.getElem_mem h))
  · simp only [pd, List.getD_eq_getElem?_getD]
    rw [List.getElem?_eq_none (by omega)]; simp
/-- The ten numbers of a form, cut at its length, are the bytes. -/
theorem ten_take (l : List Int) (m : Nat) (hm : l.length = m) (h10 : m ≤ 10) (x0 x1 x2 x3 x4 x5 x6 x7 x8 x9 : Int) (hx0 : pd l 0 = x0) (hx1 : pd l 1 = x1) (hx2 : pd l 2 = x2) (hx3 : pd l 3 = x3) (hx4 : pd l 4 = x4) (hx5 : pd l 5 = x5) (hx6 : pd l 6 = x6) (hx7 : pd l 7 = x7) (hx8 : pd l 8 = x8) (hx9 : pd l 9 = x9) : [x0, x1, x2, x3, x4, x5, x6, x7, x8, x9].take m = l := by
  apply List.ext_getElem
  · rw [List.length_take]; simp; omega
  · intro j h1 h2
    rw [List.getElem_take]
    have h3 : j = 0 ∨ j = 1 ∨ j = 2 ∨ j = 3 ∨ j = 4 ∨ j = 5 ∨ j = 6 ∨ j = 7 ∨ j = 8 ∨ j = 9 := by omega
    rcases h3 with rfl | rfl | rfl | rfl | rfl | rfl | rfl | rfl | rfl | rfl
    · rw [← pd_of_lt l 0 h2, hx0]; rfl
    · rw [← pd_of_lt l 1 h2, hx1]; rfl
    · rw [← pd_of_lt l 2 h2, hx2]; rfl
    · rw [← pd_of_lt l 3 h2, hx3]; rfl
    · rw [← pd_of_lt l 4 h2, hx4]; rfl
    · rw [← pd_of_lt l 5 h2, hx5]; rfl
    · rw [← pd_of_lt l 6 h2, hx6]; rfl
    · rw [← pd_of_lt l 7 h2, hx7]; rfl
    · rw [← pd_of_lt l 8 h2, hx8]; rfl
    · rw [← pd_of_lt l 9 h2, hx9]; rfl
theorem shape_take (s : ByteArray) (k : Nat) (hk : k < s.size) (hpre : ∀ j, (h : j < k) → 128 ≤ ((s[j]'(by omega)).toNat : Int)) (hlast : (s[k].toNat : Int) < 128) : Shape ((nums s).take (k + 1)) := by
  refine ⟨(nums s).take k, _, nums_take_snoc s k hk, hlast, ?_⟩
  intro x hx
  obtain ⟨j, hj, rfl⟩ := List.getElem_of_mem hx
  rw [List.length_take, nums_length] at hj
  have h2 := nums_getD s j (by omega)
  rw [List.getElem_take]
  rw [List.getD_eq_getElem?_getD, List.getElem?_eq_getElem (by rw [nums_length]; omega)] at h2
  simp only [Option.getD_some] at h2
  rw [h2]
  exact hpre j (by omega)

set_option maxRecDepth 100000 in
set_option maxHeartbeats 2000000 in
theorem implGetLeb_yes (s : ByteArray) (k : Nat) (w : World) (hk : k < s.size) (hk10 : k < 10) (hpre : ∀ j, (h : j < k) → 128 ≤ ((s[j]'(by omega)).toNat : Int)) (hlast : (s[k].toNat : Int) < 128) (hsz : (s.size : Int) ≤ 4294967296) (v : Nat) (hgv : gv ((nums s).take (k + 1)) % 18446744073709551616 = v) (hv : (v : Int) ≤ 9223372036854775807) (heq : lebU v = (nums s).take (k + 1)) :
    Calls Tryd.prog 83 #[.string s] w fun e w' => e = .returned (.tuple #[.int .i64 (v : Nat), .int .i64 ((k : Int) + 1), .bool true]) ∧ Below w.heap.size w w' := by
  have hll : ((nums s).take (k + 1)).length = k + 1 := by rw [List.length_take, nums_length]; omega
  obtain ⟨x0, hx0⟩ : ∃ x, pd ((nums s).take (k + 1)) 0 = x := ⟨_, rfl⟩
  obtain ⟨x1, hx1⟩ : ∃ x, pd ((nums s).take (k + 1)) 1 = x := ⟨_, rfl⟩
  obtain ⟨x2, hx2⟩ : ∃ x, pd ((nums s).take (k + 1)) 2 = x := ⟨_, rfl⟩
  obtain ⟨x3, hx3⟩ : ∃ x, pd ((nums s).take (k + 1)) 3 = x := ⟨_, rfl⟩
  obtain ⟨x4, hx4⟩ : ∃ x, pd ((nums s).take (k + 1)) 4 = x := ⟨_, rfl⟩
  obtain ⟨x5, hx5⟩ : ∃ x, pd ((nums s).take (k + 1)) 5 = x := ⟨_, rfl⟩
  obtain ⟨x6, hx6⟩ : ∃ x, pd ((nums s).take (k + 1)) 6 = x := ⟨_, rfl⟩
  obtain ⟨x7, hx7⟩ : ∃ x, pd ((nums s).take (k + 1)) 7 = x := ⟨_, rfl⟩
  obtain ⟨x8, hx8⟩ : ∃ x, pd ((nums s).take (k + 1)) 8 = x := ⟨_, rfl⟩
  obtain ⟨x9, hx9⟩ : ∃ x, pd ((nums s).take (k + 1)) 9 = x := ⟨_, rfl⟩
  have C1 : Hid (∀ W, Calls Tryd.prog 80 #[.string s] W fun e w' => e = .returned (.tuple #[.agg #[.int .u8 x0, .int .u8 x1, .int .u8 x2, .int .u8 x3, .int .u8 x4, .int .u8 x5, .int .u8 x6, .int .u8 x7, .int .u8 x8, .int .u8 x9], .int .i64 ((k : Int) + 1)]) ∧ Below W.heap.size W w') := fun W => lebAt_yes s k x0 x1 x2 x3 x4 x5 x6 x7 x8 x9 W hk hk10 hpre hlast hsz hx0 hx1 hx2 hx3 hx4 hx5 hx6 hx7 hx8 hx9
  have C2 : Hid (∀ W, Calls Tryd.prog 81 #[.agg #[.int .u8 x0, .int .u8 x1, .int .u8 x2, .int .u8 x3, .int .u8 x4, .int .u8 x5, .int .u8 x6, .int .u8 x7, .int .u8 x8, .int .u8 x9], .int .i64 ((k : Int) + 1)] W fun e w' => e = .returned (.int .u64 (v : Nat)) ∧ Below W.heap.size W w') := by
    intro W
    have h := groupsIn_any x0 x1 x2 x3 x4 x5 x6 x7 x8 x9 (k + 1) W (by omega) (by
      intro x hx
      simp only [List.mem_cons, List.not_mem_nil, or_false] at hx
      rcases hx with rfl | rfl | rfl | rfl | rfl | rfl | rfl | rfl | rfl | rfl
      · rw [← hx0]; exact pd_byte s _ _
      · rw [← hx1]; exact pd_byte s _ _
      · rw [← hx2]; exact pd_byte s _ _
      · rw [← hx3]; exact pd_byte s _ _
      · rw [← hx4]; exact pd_byte s _ _
      · rw [← hx5]; exact pd_byte s _ _
      · rw [← hx6]; exact pd_byte s _ _
      · rw [← hx7]; exact pd_byte s _ _
      · rw [← hx8]; exact pd_byte s _ _
      · rw [← hx9]; exact pd_byte s _ _)
    rw [ten_take ((nums s).take (k + 1)) (k + 1) hll (by omega) x0 x1 x2 x3 x4 x5 x6 x7 x8 x9 hx0 hx1 hx2 hx3 hx4 hx5 hx6 hx7 hx8 hx9, hgv] at h
    simpa using h
  have hng : ¬ (9223372036854775807 : Int) < (v : Int) := by omega
  have C3 : Hid (∀ W, Calls Tryd.prog 85 #[.agg #[.int .u8 x0, .int .u8 x1, .int .u8 x2, .int .u8 x3, .int .u8 x4, .int .u8 x5, .int .u8 x6, .int .u8 x7, .int .u8 x8, .int .u8 x9], .int .u64 (v : Nat), .func (.func 65) #[] #[]] W fun e w' => e = .returned (.bool true) ∧ Below W.heap.size W w') := by
    intro W
    have hv2 : v < 128 ^ 10 := by
      have h1 : (9223372036854775808 : Nat) < 128 ^ 10 := by decide
      omega
    exact isShortU_yes v x0 x1 x2 x3 x4 x5 x6 x7 x8 x9 W hv2 (by omega) (by rw [heq]; exact hx0) (by rw [heq]; exact hx1) (by rw [heq]; exact hx2) (by rw [heq]; exact hx3) (by rw [heq]; exact hx4) (by rw [heq]; exact hx5) (by rw [heq]; exact hx6) (by rw [heq]; exact hx7) (by rw [heq]; exact hx8) (by rw [heq]; exact hx9)
  clear heq
  have hkz : (((k : Int) + 1) == 0) = false := by rw [beq_eq_false_iff_ne]; omega
  have hki : (k : Int) < 10 := by omega
  clear hpre hlast hgv hll hx0 hx1 hx2 hx3 hx4 hx5 hx6 hx7 hx8 hx9
  go_enter Tryd.func83, Tryd.ntmps83
  go_wp2_with fail
  go_at_call 80
  refine (C1.out _).mono ?_
  rintro e w1 ⟨rfl, hb1⟩
  go_wp2_with fail
  go_at_call 81
  refine (C2.out _).mono ?_
  rintro e w2 ⟨rfl, hb2⟩
  have hz : w1.heap.size < w2.heap.size := by have := hb2.size; simp at this; omega
  have hbb : Below w.heap.size w w2 := bchain (hb1.alloc hb1.size _) hb2 (by have := hb1.size; simp; omega)
  obtain ⟨hc, hf⟩ := bcell hb2
  go_wp2_with fail
  go_at_call 85
  refine (C3.out _).mono ?_
  rintro e w3 ⟨rfl, hb3⟩
  have hbc := bchain hbb hb3 hbb.size
  clear hc hf hb2 hb3 hb1 hbb
  go_wp2_with fail
  go_ret3
  exact ⟨rfl, hbc⟩

set_option maxRecDepth 100000 in
set_option maxHeartbeats 2000000 in
theorem implGetLeb_no (s : ByteArray) (k : Nat) (w : World) (hk : k < s.size) (hk10 : k < 10) (hpre : ∀ j, (h : j < k) → 128 ≤ ((s[j]'(by omega)).toNat : Int)) (hlast : (s[k].toNat : Int) < 128) (hsz : (s.size : Int) ≤ 4294967296) (v : Nat) (hgv : gv ((nums s).take (k + 1)) % 18446744073709551616 = v) (hv : (v : Int) ≤ 9223372036854775807) (hne : ¬ lebU v = (nums s).take (k + 1)) :
    Calls Tryd.prog 83 #[.string s] w fun e w' => e = .returned (.tuple #[.int .i64 0, .int .i64 0, .bool false]) ∧ Below w.heap.size w w' := by
  have hll : ((nums s).take (k + 1)).length = k + 1 := by rw [List.length_take, nums_length]; omega
  obtain ⟨x0, hx0⟩ : ∃ x, pd ((nums s).take (k + 1)) 0 = x := ⟨_, rfl⟩
  obtain ⟨x1, hx1⟩ : ∃ x, pd ((nums s).take (k + 1)) 1 = x := ⟨_, rfl⟩
  obtain ⟨x2, hx2⟩ : ∃ x, pd ((nums s).take (k + 1)) 2 = x := ⟨_, rfl⟩
  obtain ⟨x3, hx3⟩ : ∃ x, pd ((nums s).take (k + 1)) 3 = x := ⟨_, rfl⟩
  obtain ⟨x4, hx4⟩ : ∃ x, pd ((nums s).take (k + 1)) 4 = x := ⟨_, rfl⟩
  obtain ⟨x5, hx5⟩ : ∃ x, pd ((nums s).take (k + 1)) 5 = x := ⟨_, rfl⟩
  obtain ⟨x6, hx6⟩ : ∃ x, pd ((nums s).take (k + 1)) 6 = x := ⟨_, rfl⟩
  obtain ⟨x7, hx7⟩ : ∃ x, pd ((nums s).take (k + 1)) 7 = x := ⟨_, rfl⟩
  obtain ⟨x8, hx8⟩ : ∃ x, pd ((nums s).take (k + 1)) 8 = x := ⟨_, rfl⟩
  obtain ⟨x9, hx9⟩ : ∃ x, pd ((nums s).take (k + 1)) 9 = x := ⟨_, rfl⟩
  have C1 : Hid (∀ W, Calls Tryd.prog 80 #[.string s] W fun e w' => e = .returned (.tuple #[.agg #[.int .u8 x0, .int .u8 x1, .int .u8 x2, .int .u8 x3, .int .u8 x4, .int .u8 x5, .int .u8 x6, .int .u8 x7, .int .u8 x8, .int .u8 x9], .int .i64 ((k : Int) + 1)]) ∧ Below W.heap.size W w') := fun W => lebAt_yes s k x0 x1 x2 x3 x4 x5 x6 x7 x8 x9 W hk hk10 hpre hlast hsz hx0 hx1 hx2 hx3 hx4 hx5 hx6 hx7 hx8 hx9
  have C2 : Hid (∀ W, Calls Tryd.prog 81 #[.agg #[.int .u8 x0, .int .u8 x1, .int .u8 x2, .int .u8 x3, .int .u8 x4, .int .u8 x5, .int .u8 x6, .int .u8 x7, .int .u8 x8, .int .u8 x9], .int .i64 ((k : Int) + 1)] W fun e w' => e = .returned (.int .u64 (v : Nat)) ∧ Below W.heap.size W w') := by
    intro W
    have h := groupsIn_any x0 x1 x2 x3 x4 x5 x6 x7 x8 x9 (k + 1) W (by omega) (by
      intro x hx
      simp only [List.mem_cons, List.not_mem_nil, or_false] at hx
      rcases hx with rfl | rfl | rfl | rfl | rfl | rfl | rfl | rfl | rfl | rfl
      · rw [← hx0]; exact pd_byte s _ _
      · rw [← hx1]; exact pd_byte s _ _
      · rw [← hx2]; exact pd_byte s _ _
      · rw [← hx3]; exact pd_byte s _ _
      · rw [← hx4]; exact pd_byte s _ _
      · rw [← hx5]; exact pd_byte s _ _
      · rw [← hx6]; exact pd_byte s _ _
      · rw [← hx7]; exact pd_byte s _ _
      · rw [← hx8]; exact pd_byte s _ _
      · rw [← hx9]; exact pd_byte s _ _)
    rw [ten_take ((nums s).take (k + 1)) (k + 1) hll (by omega) x0 x1 x2 x3 x4 x5 x6 x7 x8 x9 hx0 hx1 hx2 hx3 hx4 hx5 hx6 hx7 hx8 hx9, hgv] at h
    simpa using h
  have hng : ¬ (9223372036854775807 : Int) < (v : Int) := by omega
  have C3 : Hid (∀ W, Calls Tryd.prog 85 #[.agg #[.int .u8 x0, .int .u8 x1, .int .u8 x2, .int .u8 x3, .int .u8 x4, .int .u8 x5, .int .u8 x6, .int .u8 x7, .int .u8 x8, .int .u8 x9], .int .u64 (v : Nat), .func (.func 65) #[] #[]] W fun e w' => e = .returned (.bool false) ∧ Below W.heap.size W w') := by
    intro W
    have hv2 : v < 128 ^ 10 := by
      have h1 : (9223372036854775808 : Nat) < 128 ^ 10 := by decide
      omega
    have hlen : (lebU v).length ≤ 10 := lebU_length 9 v hv2
    exact isShortU_no v x0 x1 x2 x3 x4 x5 x6 x7 x8 x9 W hv2 (by omega) (fun hall => hne (shape_eq (shape_lebU v) (shape_take s k hk hpre hlast) hlen (by omega) (by
      obtain ⟨a0, a1, a2, a3, a4, a5, a6, a7, a8, a9⟩ := hall
      intro j hj
      have h3 : j = 0 ∨ j = 1 ∨ j = 2 ∨ j = 3 ∨ j = 4 ∨ j = 5 ∨ j = 6 ∨ j = 7 ∨ j = 8 ∨ j = 9 := by omega
      rcases h3 with rfl | rfl | rfl | rfl | rfl | rfl | rfl | rfl | rfl | rfl
      · rw [a0, hx0]
      · rw [a1, hx1]
      · rw [a2, hx2]
      · rw [a3, hx3]
      · rw [a4, hx4]
      · rw [a5, hx5]
      · rw [a6, hx6]
      · rw [a7, hx7]
      · rw [a8, hx8]
      · rw [a9, hx9])))
  clear hne
  have hkz : (((k : Int) + 1) == 0) = false := by rw [beq_eq_false_iff_ne]; omega
  have hki : (k : Int) < 10 := by omega
  clear hpre hlast hgv hll hx0 hx1 hx2 hx3 hx4 hx5 hx6 hx7 hx8 hx9
  go_enter Tryd.func83, Tryd.ntmps83
  go_wp2_with fail
  go_at_call 80
  refine (C1.out _).mono ?_
  rintro e w1 ⟨rfl, hb1⟩
  go_wp2_with fail
  go_at_call 81
  refine (C2.out _).mono ?_
  rintro e w2 ⟨rfl, hb2⟩
  have hz : w1.heap.size < w2.heap.size := by have := hb2.size; simp at this; omega
  have hbb : Below w.heap.size w w2 := bchain (hb1.alloc hb1.size _) hb2 (by have := hb1.size; simp; omega)
  obtain ⟨hc, hf⟩ := bcell hb2
  go_wp2_with fail
  go_at_call 85
  refine (C3.out _).mono ?_
  rintro e w3 ⟨rfl, hb3⟩
  have hbc := bchain hbb hb3 hbb.size
  clear hc hf hb2 hb3 hb1 hbb
  go_wp2_with fail
  go_ret3
  exact ⟨rfl, hbc⟩

set_option maxRecDepth 100000 in
set_option maxHeartbeats 2000000 in
theorem implGetLeb_great (s : ByteArray) (k : Nat) (w : World) (hk : k < s.size) (hk10 : k < 10) (hpre : ∀ j, (h : j < k) → 128 ≤ ((s[j]'(by omega)).toNat : Int)) (hlast : (s[k].toNat : Int) < 128) (hsz : (s.size : Int) ≤ 4294967296) (v : Nat) (hgv : gv ((nums s).take (k + 1)) % 18446744073709551616 = v) (hv : (9223372036854775807 : Int) < (v : Int)) :
    Calls Tryd.prog 83 #[.string s] w fun e w' => e = .returned (.tuple #[.int .i64 0, .int .i64 0, .bool false]) ∧ Below w.heap.size w w' := by
  have hll : ((nums s).take (k + 1)).length = k + 1 := by rw [List.length_take, nums_length]; omega
  obtain ⟨x0, hx0⟩ : ∃ x, pd ((nums s).take (k + 1)) 0 = x := ⟨_, rfl⟩
  obtain ⟨x1, hx1⟩ : ∃ x, pd ((nums s).take (k + 1)) 1 = x := ⟨_, rfl⟩
  obtain ⟨x2, hx2⟩ : ∃ x, pd ((nums s).take (k + 1)) 2 = x := ⟨_, rfl⟩
  obtain ⟨x3, hx3⟩ : ∃ x, pd ((nums s).take (k + 1)) 3 = x := ⟨_, rfl⟩
  obtain ⟨x4, hx4⟩ : ∃ x, pd ((nums s).take (k + 1)) 4 = x := ⟨_, rfl⟩
  obtain ⟨x5, hx5⟩ : ∃ x, pd ((nums s).take (k + 1)) 5 = x := ⟨_, rfl⟩
  obtain ⟨x6, hx6⟩ : ∃ x, pd ((nums s).take (k + 1)) 6 = x := ⟨_, rfl⟩
  obtain ⟨x7, hx7⟩ : ∃ x, pd ((nums s).take (k + 1)) 7 = x := ⟨_, rfl⟩
  obtain ⟨x8, hx8⟩ : ∃ x, pd ((nums s).take (k + 1)) 8 = x := ⟨_, rfl⟩
  obtain ⟨x9, hx9⟩ : ∃ x, pd ((nums s).take (k + 1)) 9 = x := ⟨_, rfl⟩
  have C1 : Hid (∀ W, Calls Tryd.prog 80 #[.string s] W fun e w' => e = .returned (.tuple #[.agg #[.int .u8 x0, .int .u8 x1, .int .u8 x2, .int .u8 x3, .int .u8 x4, .int .u8 x5, .int .u8 x6, .int .u8 x7, .int .u8 x8, .int .u8 x9], .int .i64 ((k : Int) + 1)]) ∧ Below W.heap.size W w') := fun W => lebAt_yes s k x0 x1 x2 x3 x4 x5 x6 x7 x8 x9 W hk hk10 hpre hlast hsz hx0 hx1 hx2 hx3 hx4 hx5 hx6 hx7 hx8 hx9
  have C2 : Hid (∀ W, Calls Tryd.prog 81 #[.agg #[.int .u8 x0, .int .u8 x1, .int .u8 x2, .int .u8 x3, .int .u8 x4, .int .u8 x5, .int .u8 x6, .int .u8 x7, .int .u8 x8, .int .u8 x9], .int .i64 ((k : Int) + 1)] W fun e w' => e = .returned (.int .u64 (v : Nat)) ∧ Below W.heap.size W w') := by
    intro W
    have h := groupsIn_any x0 x1 x2 x3 x4 x5 x6 x7 x8 x9 (k + 1) W (by omega) (by
      intro x hx
      simp only [List.mem_cons, List.not_mem_nil, or_false] at hx
      rcases hx with rfl | rfl | rfl | rfl | rfl | rfl | rfl | rfl | rfl | rfl
      · rw [← hx0]; exact pd_byte s _ _
      · rw [← hx1]; exact pd_byte s _ _
      · rw [← hx2]; exact pd_byte s _ _
      · rw [← hx3]; exact pd_byte s _ _
      · rw [← hx4]; exact pd_byte s _ _
      · rw [← hx5]; exact pd_byte s _ _
      · rw [← hx6]; exact pd_byte s _ _
      · rw [← hx7]; exact pd_byte s _ _
      · rw [← hx8]; exact pd_byte s _ _
      · rw [← hx9]; exact pd_byte s _ _)
    rw [ten_take ((nums s).take (k + 1)) (k + 1) hll (by omega) x0 x1 x2 x3 x4 x5 x6 x7 x8 x9 hx0 hx1 hx2 hx3 hx4 hx5 hx6 hx7 hx8 hx9, hgv] at h
    simpa using h
  have hkz : (((k : Int) + 1) == 0) = false := by rw [beq_eq_false_iff_ne]; omega
  have hki : (k : Int) < 10 := by omega
  clear hpre hlast hgv hll hx0 hx1 hx2 hx3 hx4 hx5 hx6 hx7 hx8 hx9
  go_enter Tryd.func83, Tryd.ntmps83
  go_wp2_with fail
  go_at_call 80
  refine (C1.out _).mono ?_
  rintro e w1 ⟨rfl, hb1⟩
  go_wp2_with fail
  go_at_call 81
  refine (C2.out _).mono ?_
  rintro e w2 ⟨rfl, hb2⟩
  have hz : w1.heap.size < w2.heap.size := by have := hb2.size; simp at this; omega
  have hbb : Below w.heap.size w w2 := bchain (hb1.alloc hb1.size _) hb2 (by have := hb1.size; simp; omega)
  obtain ⟨hc, hf⟩ := bcell hb2
  go_wp2_with fail
  go_ret3
  exact ⟨rfl, hbb⟩

set_option maxRecDepth 100000 in
set_option maxHeartbeats 2000000 in
theorem implGetLeb_none (s : ByteArray) (w : World) (hpre : ∀ j, (h : j < s.size) → j < 10 → 128 ≤ ((s[j]'h).toNat : Int)) (hsz : (s.size : Int) ≤ 4294967296) :
    Calls Tryd.prog 83 #[.string s] w fun e w' => e = .returned (.tuple #[.int .i64 0, .int .i64 0, .bool false]) ∧ Below w.heap.size w w' := by
  have C1 : Hid (∀ W, Calls Tryd.prog 80 #[.string s] W fun e w' => e = .returned (.tuple #[.agg #[.int .u8 0, .int .u8 0, .int .u8 0, .int .u8 0, .int .u8 0, .int .u8 0, .int .u8 0, .int .u8 0, .int .u8 0, .int .u8 0], .int .i64 0]) ∧ Below W.heap.size W w') := fun W => lebAt_no s W hpre hsz
  have C2 : Hid (∀ W, Calls Tryd.prog 81 #[.agg #[.int .u8 0, .int .u8 0, .int .u8 0, .int .u8 0, .int .u8 0, .int .u8 0, .int .u8 0, .int .u8 0, .int .u8 0, .int .u8 0], .int .i64 0] W fun e w' => e = .returned (.int .u64 0) ∧ Below W.heap.size W w') := by
    intro W
    have h := groupsIn_any 0 0 0 0 0 0 0 0 0 0 0 W (by omega) (by simp)
    simpa [gv] using h
  clear hpre
  go_enter Tryd.func83, Tryd.ntmps83
  go_wp2_with fail
  go_at_call 80
  refine (C1.out _).mono ?_
  rintro e w1 ⟨rfl, hb1⟩
  go_wp2_with fail
  go_at_call 81
  refine (C2.out _).mono ?_
  rintro e w2 ⟨rfl, hb2⟩
  have hbb : Below w.heap.size w w2 := bchain (hb1.alloc hb1.size _) hb2 (by have := hb1.size; simp; omega)
  clear hb1 hb2
  go_wp2_with fail
  go_ret3
  exact ⟨rfl, hbb⟩
end Go.Proofs.YtbjcldekapipaaaDoor
