/-
  The walk of lebAt: the bytes up to the first below 128, within ten.
-/
import Derived.Test.YtbjcldekapipaaaDoorLebOfU
import Derived.Test.YtbjcldekapipaaaDoorGetFix
namespace Go.Proofs.YtbjcldekapipaaaDoor
open Go.ChangeShapes Go.WideShapes Go.ChangeAt Go.RowKit

theorem Ten.put {w : World} {b : Nat} {xs : List Int} (h : Ten w b (pd xs)) (k : Nat) (hk : xs.length = k) (hl : k < 10) (v : Int) : Ten (w.setCell ⟨b, k, none⟩ (.int .u8 v)) b (pd (xs ++ [v])) := by
  subst hk; exact h.set hl v

set_option maxRecDepth 100000 in
set_option maxHeartbeats 4000000 in
theorem lebAt_yes (s : ByteArray) (k : Nat) (x0 x1 x2 x3 x4 x5 x6 x7 x8 x9 : Int) (w : World) (hk : k < s.size) (hk10 : k < 10) (hpre : ∀ j, (h : j < k) → 128 ≤ ((s[j]'(by omega)).toNat : Int)) (hlast : (s[k].toNat : Int) < 128) (hsz : (s.size : Int) ≤ 4294967296) (hx0 : pd ((nums s).take (k + 1)) 0 = x0) (hx1 : pd ((nums s).take (k + 1)) 1 = x1) (hx2 : pd ((nums s).take (k + 1)) 2 = x2) (hx3 : pd ((nums s).take (k + 1)) 3 = x3) (hx4 : pd ((nums s).take (k + 1)) 4 = x4) (hx5 : pd ((nums s).take (k + 1)) 5 = x5) (hx6 : pd ((nums s).take (k + 1)) 6 = x6) (hx7 : pd ((nums s).take (k + 1)) 7 = x7) (hx8 : pd ((nums s).take (k + 1)) 8 = x8) (hx9 : pd ((nums s).take (k + 1)) 9 = x9) :
    Calls Tryd.prog 80 #[.string s] w fun e w' => e = .returned (.tuple #[.agg #[.int .u8 x0, .int .u8 x1, .int .u8 x2, .int .u8 x3, .int .u8 x4, .int .u8 x5, .int .u8 x6, .int .u8 x7, .int .u8 x8, .int .u8 x9], .int .i64 ((k : Int) + 1)]) ∧ Below w.heap.size w w' := by
  have X0 := Lib.hid hx0
  have X1 := Lib.hid hx1
  have X2 := Lib.hid hx2
  have X3 := Lib.hid hx3
  have X4 := Lib.hid hx4
  have X5 := Lib.hid hx5
  have X6 := Lib.hid hx6
  have X7 := Lib.hid hx7
  have X8 := Lib.hid hx8
  have X9 := Lib.hid hx9
  clear hx0 hx1 hx2 hx3 hx4 hx5 hx6 hx7 hx8 hx9
  have HP := Lib.hid hpre
  have HL := Lib.hid hlast
  clear hpre hlast
  have hsp : (s.size : Int) < 10 ∨ 10 < (s.size : Int) ∨ (s.size : Int) = 10 := by omega
  rcases hsp with hsp | hsp | hsp
  all_goals
    go_enter Tryd.func80, Tryd.ntmps80
    go_wp2_with fail
    go_loopw [9] (fun v wr => ∃ j : Nat, j ≤ k ∧ v = .int .i64 j ∧ Ten wr w.heap.size (pd []) ∧ Ten wr (w.heap.size + 1) (pd ((nums s).take j)) ∧ Below w.heap.size w wr) (fun v _ => 10 - (intOf v).toNat)
    case atStart => exact ⟨0, by omega, rfl, (Ten.new w _).keep (below1 _ _), Ten.new' w _ _, below2 _ _ _⟩
    case round =>
      obtain ⟨j, hj, rfl, ht0, ht1, hbel⟩ := hrel
      have hjs : (j : Int) < (s.size : Int) := by omega
      have hj10 : (j : Int) < 10 := by omega
      by_cases hlt : j < k
      · have hbj := HP.out j hlt
        have hx0 : 0 ≤ ((s[j].toNat : Nat) : Int) := by omega
        have hx1 : ((s[j].toNat : Nat) : Int) < 256 := by have := s[j].toNat_lt; omega
        have hb8 : ¬ ((s[j].toNat : Nat) : Int) < 128 := by omega
        obtain ⟨c1, c2⟩ := ht1 j (by omega)
        go_wp2_with fail
        go_roundw
        case rel => exact ⟨j + 1, by omega, by go_num, ht0.other (by simp) _, by rw [nums_take_snoc s j (by omega)]; exact ht1.put j (by rw [List.length_take, nums_length]; omega) (by omega) _, hbel.setCell (by simp) _⟩
        case measure => simp [intOf]; omega
      · obtain rfl : j = k := by omega
        have hx0 : 0 ≤ ((s[j].toNat : Nat) : Int) := by omega
        have hb8 : ((s[j].toNat : Nat) : Int) < 128 := HL.out
        obtain ⟨c1, c2⟩ := ht1 j (by omega)
        go_upto_region 7 with fail
        have t1 := ht1.put j (by rw [List.length_take, nums_length]; omega) (by omega) (s[j].toNat : Int)
        rw [← nums_take_snoc s j (by omega)] at t1
        have t0 := ht0.other (p := ⟨w.heap.size + 1, j, none⟩) (by simp) (.int .u8 (s[j].toNat : Int))
        have hb := hbel.setCell (p := ⟨w.heap.size + 1, j, none⟩) (by simp) (.int .u8 (s[j].toNat : Int))
        generalize (wr.setCell ⟨w.heap.size + 1, j, none⟩ (.int .u8 (s[j].toNat : Int))) = w3 at *
        clear ht0 ht1 hbel c1 c2 HP HL
        obtain ⟨d0, f0⟩ := t0 0 (by omega)
        rw [pd_nil] at d0
        obtain ⟨e0, g0⟩ := t1 0 (by omega)
        rw [X0.out] at e0
        obtain ⟨d1, f1⟩ := t0 1 (by omega)
        rw [pd_nil] at d1
        obtain ⟨e1, g1⟩ := t1 1 (by omega)
        rw [X1.out] at e1
        obtain ⟨d2, f2⟩ := t0 2 (by omega)
        rw [pd_nil] at d2
        obtain ⟨e2, g2⟩ := t1 2 (by omega)
        rw [X2.out] at e2
        obtain ⟨d3, f3⟩ := t0 3 (by omega)
        rw [pd_nil] at d3
        obtain ⟨e3, g3⟩ := t1 3 (by omega)
        rw [X3.out] at e3
        obtain ⟨d4, f4⟩ := t0 4 (by omega)
        rw [pd_nil] at d4
        obtain ⟨e4, g4⟩ := t1 4 (by omega)
        rw [X4.out] at e4
        obtain ⟨d5, f5⟩ := t0 5 (by omega)
        rw [pd_nil] at d5
        obtain ⟨e5, g5⟩ := t1 5 (by omega)
        rw [X5.out] at e5
        obtain ⟨d6, f6⟩ := t0 6 (by omega)
        rw [pd_nil] at d6
        obtain ⟨e6, g6⟩ := t1 6 (by omega)
        rw [X6.out] at e6
        obtain ⟨d7, f7⟩ := t0 7 (by omega)
        rw [pd_nil] at d7
        obtain ⟨e7, g7⟩ := t1 7 (by omega)
        rw [X7.out] at e7
        obtain ⟨d8, f8⟩ := t0 8 (by omega)
        rw [pd_nil] at d8
        obtain ⟨e8, g8⟩ := t1 8 (by omega)
        rw [X8.out] at e8
        obtain ⟨d9, f9⟩ := t0 9 (by omega)
        rw [pd_nil] at d9
        obtain ⟨e9, g9⟩ := t1 9 (by omega)
        rw [X9.out] at e9
        clear t0 t1
        go_wp2_with fail
        refine bodyPost_ret (v := .tuple #[.agg #[.int .u8 x0, .int .u8 x1, .int .u8 x2, .int .u8 x3, .int .u8 x4, .int .u8 x5, .int .u8 x6, .int .u8 x7, .int .u8 x8, .int .u8 x9], .int .i64 ((j : Int) + 1)]) (by simp [results, Tryd.results80, go_sem, d0, d1, d2, d3, d4, d5, d6, d7, d8, d9]) rfl ⟨rfl, ?_⟩
        exact ((((((((((hb.setCell (by simp) _).setCell (by simp) _).setCell (by simp) _).setCell (by simp) _).setCell (by simp) _).setCell (by simp) _).setCell (by simp) _).setCell (by simp) _).setCell (by simp) _).setCell (by simp) _)

set_option maxRecDepth 100000 in
set_option maxHeartbeats 4000000 in
theorem lebAt_no (s : ByteArray) (w : World) (hpre : ∀ j, (h : j < s.size) → j < 10 → 128 ≤ ((s[j]'h).toNat : Int)) (hsz : (s.size : Int) ≤ 4294967296) :
    Calls Tryd.prog 80 #[.string s] w fun e w' => e = .returned (.tuple #[.agg #[.int .u8 0, .int .u8 0, .int .u8 0, .int .u8 0, .int .u8 0, .int .u8 0, .int .u8 0, .int .u8 0, .int .u8 0, .int .u8 0], .int .i64 0]) ∧ Below w.heap.size w w' := by
  have HP := Lib.hid hpre
  clear hpre
  have hsp : (s.size : Int) < 10 ∨ 10 < (s.size : Int) ∨ (s.size : Int) = 10 := by omega
  rcases hsp with hsp | hsp | hsp
  all_goals
    go_enter Tryd.func80, Tryd.ntmps80
    go_wp2_with fail
    go_loopw [9] (fun v wr => ∃ j : Nat, (j ≤ 10 ∧ j ≤ s.size) ∧ v = .int .i64 j ∧ Ten wr w.heap.size (pd []) ∧ Ten wr (w.heap.size + 1) (pd ((nums s).take j)) ∧ Below w.heap.size w wr) (fun v _ => 10 - (intOf v).toNat)
    case atStart => exact ⟨0, by omega, rfl, (Ten.new w _).keep (below1 _ _), Ten.new' w _ _, below2 _ _ _⟩
    case round =>
      obtain ⟨j, ⟨hj, hj2⟩, rfl, ht0, ht1, hbel⟩ := hrel
      by_cases hlt : j < s.size ∧ j < 10
      · obtain ⟨hlt, hlt2⟩ := hlt
        have hjs : (j : Int) < (s.size : Int) := by omega
        have hj10 : (j : Int) < 10 := by omega
        have hbj := HP.out j hlt hlt2
        have hx0 : 0 ≤ ((s[j].toNat : Nat) : Int) := by omega
        have hx1 : ((s[j].toNat : Nat) : Int) < 256 := by have := s[j].toNat_lt; omega
        have hb8 : ¬ ((s[j].toNat : Nat) : Int) < 128 := by omega
        obtain ⟨c1, c2⟩ := ht1 j (by omega)
        go_wp2_with fail
        go_roundw
        case rel => exact ⟨j + 1, by omega, by go_num, ht0.other (by simp) _, by rw [nums_take_snoc s j (by omega)]; exact ht1.put j (by rw [List.length_take, nums_length]; omega) (by omega) _, hbel.setCell (by simp) _⟩
        case measure => simp [intOf]; omega
      · have t0 := ht0
        have hb := hbel
        clear ht1 ht0 HP
        obtain ⟨d0, f0⟩ := t0 0 (by omega)
        rw [pd_nil] at d0
        obtain ⟨d1, f1⟩ := t0 1 (by omega)
        rw [pd_nil] at d1
        obtain ⟨d2, f2⟩ := t0 2 (by omega)
        rw [pd_nil] at d2
        obtain ⟨d3, f3⟩ := t0 3 (by omega)
        rw [pd_nil] at d3
        obtain ⟨d4, f4⟩ := t0 4 (by omega)
        rw [pd_nil] at d4
        obtain ⟨d5, f5⟩ := t0 5 (by omega)
        rw [pd_nil] at d5
        obtain ⟨d6, f6⟩ := t0 6 (by omega)
        rw [pd_nil] at d6
        obtain ⟨d7, f7⟩ := t0 7 (by omega)
        rw [pd_nil] at d7
        obtain ⟨d8, f8⟩ := t0 8 (by omega)
        rw [pd_nil] at d8
        obtain ⟨d9, f9⟩ := t0 9 (by omega)
        rw [pd_nil] at d9
        clear t0
        have hjq : ¬ ((j : Int) < (s.size : Int) ∧ (j : Int) < 10) := by omega
        go_wp2_with fail
        refine bodyPost_ret (v := .tuple #[.agg #[.int .u8 0, .int .u8 0, .int .u8 0, .int .u8 0, .int .u8 0, .int .u8 0, .int .u8 0, .int .u8 0, .int .u8 0, .int .u8 0], .int .i64 0]) (by simp [results, Tryd.results80, go_sem, d0, d1, d2, d3, d4, d5, d6, d7, d8, d9]) rfl ⟨rfl, ?_⟩
        exact ((((((((((hb.setCell (by simp) _).setCell (by simp) _).setCell (by simp) _).setCell (by simp) _).setCell (by simp) _).setCell (by simp) _).setCell (by simp) _).setCell (by simp) _).setCell (by simp) _).setCell (by simp) _)
end Go.Proofs.YtbjcldekapipaaaDoor
