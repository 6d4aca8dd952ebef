/-
  LebOf, LebOfU, LebOfS: in one text.
-/
import Derived.Test.YtbjcldekapipaaaGreatDoorBase
import Derived.Test.YtbjcldekapipaaaGreatDoorLeb
import Derived.Deep.DeepCutAuto
namespace Go.Proofs.YtbjcldekapipaaaGreatDoor
open Go.ChangeShapes Go.WideShapes Go.ChangeAt Go.RowKit

/-- The j-th byte of a form: zeros behind the last. -/
def pd (xs : List Int) (j : Nat) : Int := xs.getD j 0
theorem pd_nil (j : Nat) : pd [] j = 0 := by simp [pd]
theorem pd_at (xs : List Int) (v : Int) (j : Nat) : pd (xs ++ [v]) j = if j = xs.length then v else pd xs j := by
  unfold pd
  by_cases h : j < xs.length
  · rw [if_neg (by omega)]; simp [List.getElem?_append_left h]
  · by_cases h2 : j = xs.length
    · subst h2; simp
    · rw [if_neg h2]
      simp only [List.getD_eq_getElem?_getD]
      rw [List.getElem?_eq_none (by simp; omega), List.getElem?_eq_none (by omega)]

theorem endsUnsigned_yes (m : Int) (w : World) (h : m < 128) :
    Calls Tryz.prog 66 #[.int .u64 m] w fun e w' => e = .returned (.bool true) ∧ w = w' := by
  go_enter Tryz.func66, Tryz.ntmps66
  go_wp2
  go_ret
  exact ⟨rfl, rfl⟩
theorem endsUnsigned_no (m : Int) (w : World) (h : ¬ m < 128) :
    Calls Tryz.prog 66 #[.int .u64 m] w fun e w' => e = .returned (.bool false) ∧ w = w' := by
  go_enter Tryz.func66, Tryz.ntmps66
  go_wp2
  go_ret
  exact ⟨rfl, rfl⟩
theorem endsSigned_yes (m : Int) (w : World) (h0 : -64 ≤ m) (h : m < 64) :
    Calls Tryz.prog 134 #[.int .i64 m] w fun e w' => e = .returned (.bool true) ∧ w = w' := by
  go_enter Tryz.func134, Tryz.ntmps134
  go_wp2
  go_ret
  exact ⟨rfl, rfl⟩
theorem endsSigned_no (m : Int) (w : World) (h : m < -64 ∨ 64 ≤ m) :
    Calls Tryz.prog 134 #[.int .i64 m] w fun e w' => e = .returned (.bool false) ∧ w = w' := by
  by_cases h1 : -64 ≤ m
  · have h2 : ¬ m < 64 := by omega
    go_enter Tryz.func134, Tryz.ntmps134
    go_wp2
    go_ret
    exact ⟨rfl, rfl⟩
  · go_enter Tryz.func134, Tryz.ntmps134
    go_wp2
    go_ret
    exact ⟨rfl, rfl⟩

/-- Ten cells of a block, told one by one. -/
def Ten (w : World) (b : Nat) (f : Nat → Int) : Prop := ∀ j, j < 10 → w.cell? ⟨b, j, none⟩ = some (.int .u8 (f j)) ∧ w.frozen? ⟨b, j, none⟩ = false
theorem Ten.new (w : World) (t : TypeId) : Ten (w.alloc (.cells #[.int .u8 0, .int .u8 0, .int .u8 0, .int .u8 0, .int .u8 0, .int .u8 0, .int .u8 0, .int .u8 0, .int .u8 0, .int .u8 0] t)) w.heap.size (pd []) := by
  intro j hj
  have h : j = 0 ∨ j = 1 ∨ j = 2 ∨ j = 3 ∨ j = 4 ∨ j = 5 ∨ j = 6 ∨ j = 7 ∨ j = 8 ∨ j = 9 := by omega
  rcases h with rfl | rfl | rfl | rfl | rfl | rfl | rfl | rfl | rfl | rfl <;> exact ⟨by simp [pd_nil], by go_simp⟩
end Go.Proofs.YtbjcldekapipaaaGreatDoor

namespace Go.Proofs.YtbjcldekapipaaaGreatDoor
open Go.ChangeShapes Go.WideShapes Go.ChangeAt Go.RowKit

theorem Ten.set {w : World} {b : Nat} {xs : List Int} (h : Ten w b (pd xs)) (hl : xs.length < 10) (v : Int) : Ten (w.setCell ⟨b, xs.length, none⟩ (.int .u8 v)) b (pd (xs ++ [v])) := by
  intro j hj
  obtain ⟨h1, h2⟩ := h j hj
  obtain ⟨k1, k2⟩ := h xs.length hl
  rw [pd_at]
  by_cases e : j = xs.length
  · subst e
    exact ⟨by rw [if_pos rfl]; exact World.cell?_setCell_same w _ _ k1, by simpa using k2⟩
  · rw [if_neg e]
    have hne : (⟨b, xs.length, none⟩ : Addr) ≠ ⟨b, j, none⟩ := fun he => e (congrArg Addr.off he).symm
    exact ⟨by rw [← h1]; exact World.cell?_setCell_other w _ _ _ hne, by simpa using h2⟩
theorem Ten.keep {w w' : World} {b : Nat} {f : Nat → Int} (h : Ten w b f) (hb : Below w.heap.size w w') : Ten w' b f := fun j hj =>
  have hlt : b < w.heap.size := World.block_lt_of_cell? w _ (h j hj).1
  ⟨keepCell hb (h j hj).1, (hb.frozen (p := ⟨b, j, none⟩) hlt).trans (h j hj).2⟩
theorem Ten.new' (w : World) (o : Obj) (t : TypeId) : Ten ((w.alloc o).alloc (.cells #[.int .u8 0, .int .u8 0, .int .u8 0, .int .u8 0, .int .u8 0, .int .u8 0, .int .u8 0, .int .u8 0, .int .u8 0, .int .u8 0] t)) (w.heap.size + 1) (pd []) := by
  have h := Ten.new (w.alloc o) t
  simpa using h
theorem Ten.other {w : World} {b : Nat} {f : Nat → Int} (h : Ten w b f) {p : Addr} (hp : p.block ≠ b) (v : Value) : Ten (w.setCell p v) b f := fun j hj =>
  ⟨(World.cell?_of_block (Below.heap_setCell w p v b (Ne.symm hp))).trans (h j hj).1, (World.frozen?_of_block (Below.heap_setCell w p v b (Ne.symm hp))).trans (h j hj).2⟩

set_option maxRecDepth 100000 in
set_option maxHeartbeats 1000000 in
theorem lebOfU_any (n : Nat) (x0 x1 x2 x3 x4 x5 x6 x7 x8 x9 l : Int) (w : World) (hn : n < 128 ^ 10) (hn2 : (n : Int) < 18446744073709551616) (hx0 : pd (lebU n) 0 = x0) (hx1 : pd (lebU n) 1 = x1) (hx2 : pd (lebU n) 2 = x2) (hx3 : pd (lebU n) 3 = x3) (hx4 : pd (lebU n) 4 = x4) (hx5 : pd (lebU n) 5 = x5) (hx6 : pd (lebU n) 6 = x6) (hx7 : pd (lebU n) 7 = x7) (hx8 : pd (lebU n) 8 = x8) (hx9 : pd (lebU n) 9 = x9) (hl : ((lebU n).length : Int) = l) :
    Calls Tryz.prog 65 #[.int .u64 n, .func (.func 66) #[] #[]] w fun e w' => e = .returned (.tuple #[.agg #[.int .u8 x0, .int .u8 x1, .int .u8 x2, .int .u8 x3, .int .u8 x4, .int .u8 x5, .int .u8 x6, .int .u8 x7, .int .u8 x8, .int .u8 x9], .int .i64 l]) ∧ Below w.heap.size w w' := by
  have X0 := Lib.hid hx0
  have X1 := Lib.hid hx1
  have X2 := Lib.hid hx2
  have X3 := Lib.hid hx3
  have X4 := Lib.hid hx4
  have X5 := Lib.hid hx5
  have X6 := Lib.hid hx6
  have X7 := Lib.hid hx7
  have X8 := Lib.hid hx8
  have X9 := Lib.hid hx9
  have XL := Lib.hid hl
  clear hl hx0 hx1 hx2 hx3 hx4 hx5 hx6 hx7 hx8 hx9
  have HN := Lib.hid hn
  have HN2 := Lib.hid hn2
  clear hn hn2
  go_enter Tryz.func65, Tryz.ntmps65
  go_wp2_with fail
  go_loopw [0, 7] (fun v0 v7 wr => ∃ (xs : List Int) (m : Nat), v0 = .int .u64 m ∧ v7 = .int .i64 xs.length ∧ m ≤ n ∧ xs ++ lebU m = lebU n ∧ Ten wr w.heap.size (pd []) ∧ Ten wr (w.heap.size + 1) (pd xs) ∧ Below w.heap.size w wr) (fun v0 _ _ => (intOf v0).toNat)
  case atStart => exact ⟨[], n, rfl, rfl, by omega, by simp, (Ten.new w _).keep (below1 _ _), Ten.new' w _ _, below2 _ _ _⟩
  case round =>
    obtain ⟨xs, m, rfl, rfl, hmn, hx, ht0, ht1, hbel⟩ := hrel
    have HX := Lib.hid hx
    have hlen : xs.length ≤ 9 := by
      have h1 := lebU_pos m
      have h2 := lebU_length 9 n HN.out
      have h3 := congrArg List.length hx
      simp at h3
      omega
    have HMU := Lib.hid (show (m : Int) < 18446744073709551616 by have := HN2.out; omega)
    obtain ⟨c1, c2⟩ := ht1 xs.length (by omega)
    clear hx
    by_cases hm : 128 ≤ m
    · go_wp2_with (go_at_call 66; refine (endsUnsigned_no _ _ (by omega)).mono ?_; rintro e w' ⟨rfl, rfl⟩)
      have hor : bits .or .u8 ((m : Int) % 256) 128 = ((m % 128 + 128 : Nat) : Int) := by rw [u8_or128_all _ (by omega) (by omega)]; omega
      go_roundw
      case rel =>
        refine ⟨xs ++ [((m % 128 + 128 : Nat) : Int)], m / 128, by go_num, by simp, by omega, ?_, ht0.other (by simp) _, by rw [hor]; exact ht1.set (by omega) _, hbel.setCell (by simp) _⟩
        rw [← HX.out, lebU_big m hm]; simp
      case measure => simp [intOf]; omega
    · go_upto_region 8 with (go_at_call 66; refine (endsUnsigned_yes _ _ (by omega)).mono ?_; rintro e w' ⟨rfl, rfl⟩)
      have hand : bits .and .u8 (m : Int) 127 = (m : Int) := by rw [u8_and127 _ (by omega) (by omega)]; omega
      rw [hand]
      have t1 := ht1.set (show xs.length < 10 by omega) ((m : Int))
      have t0 := ht0.other (p := ⟨w.heap.size + 1, xs.length, none⟩) (by simp) (.int .u8 ((m : Int)))
      have hb := hbel.setCell (p := ⟨w.heap.size + 1, xs.length, none⟩) (by simp) (.int .u8 ((m : Int)))
      have hxx : xs ++ [(m : Int)] = lebU n := by rw [← HX.out, lebU_small m (by omega)]
      have hll : xs.length + 1 = (lebU n).length := by rw [← hxx]; simp
      rw [hxx] at t1
      have hlv : ((xs.length : Nat) : Int) + 1 = l := by rw [← XL.out, ← hll]; simp
      generalize (wr.setCell ⟨w.heap.size + 1, xs.length, none⟩ (.int .u8 ((m : Int)))) = w3 at *
      have HL := Lib.hid hlv
      clear hand hbel ht0 ht1 c1 c2 hll hxx hlv HX hm hmn HN HN2
      obtain ⟨d0, f0⟩ := t0 0 (by omega)
      obtain ⟨e0, g0⟩ := t1 0 (by omega)
      rw [X0.out] at e0
      rw [pd_nil] at d0
      obtain ⟨d1, f1⟩ := t0 1 (by omega)
      obtain ⟨e1, g1⟩ := t1 1 (by omega)
      rw [X1.out] at e1
      rw [pd_nil] at d1
      obtain ⟨d2, f2⟩ := t0 2 (by omega)
      obtain ⟨e2, g2⟩ := t1 2 (by omega)
      rw [X2.out] at e2
      rw [pd_nil] at d2
      obtain ⟨d3, f3⟩ := t0 3 (by omega)
      obtain ⟨e3, g3⟩ := t1 3 (by omega)
      rw [X3.out] at e3
      rw [pd_nil] at d3
      obtain ⟨d4, f4⟩ := t0 4 (by omega)
      obtain ⟨e4, g4⟩ := t1 4 (by omega)
      rw [X4.out] at e4
      rw [pd_nil] at d4
      obtain ⟨d5, f5⟩ := t0 5 (by omega)
      obtain ⟨e5, g5⟩ := t1 5 (by omega)
      rw [X5.out] at e5
      rw [pd_nil] at d5
      obtain ⟨d6, f6⟩ := t0 6 (by omega)
      obtain ⟨e6, g6⟩ := t1 6 (by omega)
      rw [X6.out] at e6
      rw [pd_nil] at d6
      obtain ⟨d7, f7⟩ := t0 7 (by omega)
      obtain ⟨e7, g7⟩ := t1 7 (by omega)
      rw [X7.out] at e7
      rw [pd_nil] at d7
      obtain ⟨d8, f8⟩ := t0 8 (by omega)
      obtain ⟨e8, g8⟩ := t1 8 (by omega)
      rw [X8.out] at e8
      rw [pd_nil] at d8
      obtain ⟨d9, f9⟩ := t0 9 (by omega)
      obtain ⟨e9, g9⟩ := t1 9 (by omega)
      rw [X9.out] at e9
      rw [pd_nil] at d9
      clear t0 t1
      go_wp2_with fail
      refine bodyPost_ret (v := .tuple #[.agg #[.int .u8 x0, .int .u8 x1, .int .u8 x2, .int .u8 x3, .int .u8 x4, .int .u8 x5, .int .u8 x6, .int .u8 x7, .int .u8 x8, .int .u8 x9], .int .i64 (xs.length + 1)]) (by simp [results, Tryz.results65, go_sem, d0, d1, d2, d3, d4, d5, d6, d7, d8, d9]) rfl ⟨?_, ?_⟩
      · rw [HL.out]
      · exact ((((((((((hb.setCell (by simp) _).setCell (by simp) _).setCell (by simp) _).setCell (by simp) _).setCell (by simp) _).setCell (by simp) _).setCell (by simp) _).setCell (by simp) _).setCell (by simp) _).setCell (by simp) _)

end Go.Proofs.YtbjcldekapipaaaGreatDoor

namespace Go.Proofs.YtbjcldekapipaaaGreatDoor
open Go.ChangeShapes Go.WideShapes Go.ChangeAt Go.RowKit

set_option maxRecDepth 100000 in
set_option maxHeartbeats 1000000 in
theorem lebOfS_any (n : Int) (x0 x1 x2 x3 x4 x5 x6 x7 x8 x9 l : Int) (w : World) (hn : -(64 * 128 ^ 9 : Int) ≤ n ∧ n < (64 * 128 ^ 9 : Int)) (hn2 : -9223372036854775808 ≤ n ∧ n < 9223372036854775808) (hx0 : pd (lebS n) 0 = x0) (hx1 : pd (lebS n) 1 = x1) (hx2 : pd (lebS n) 2 = x2) (hx3 : pd (lebS n) 3 = x3) (hx4 : pd (lebS n) 4 = x4) (hx5 : pd (lebS n) 5 = x5) (hx6 : pd (lebS n) 6 = x6) (hx7 : pd (lebS n) 7 = x7) (hx8 : pd (lebS n) 8 = x8) (hx9 : pd (lebS n) 9 = x9) (hl : ((lebS n).length : Int) = l) :
    Calls Tryz.prog 133 #[.int .i64 n, .func (.func 134) #[] #[]] w fun e w' => e = .returned (.tuple #[.agg #[.int .u8 x0, .int .u8 x1, .int .u8 x2, .int .u8 x3, .int .u8 x4, .int .u8 x5, .int .u8 x6, .int .u8 x7, .int .u8 x8, .int .u8 x9], .int .i64 l]) ∧ Below w.heap.size w w' := by
  have X0 := Lib.hid hx0
  have X1 := Lib.hid hx1
  have X2 := Lib.hid hx2
  have X3 := Lib.hid hx3
  have X4 := Lib.hid hx4
  have X5 := Lib.hid hx5
  have X6 := Lib.hid hx6
  have X7 := Lib.hid hx7
  have X8 := Lib.hid hx8
  have X9 := Lib.hid hx9
  have XL := Lib.hid hl
  clear hl hx0 hx1 hx2 hx3 hx4 hx5 hx6 hx7 hx8 hx9
  have HN := Lib.hid hn
  have HN2 := Lib.hid hn2
  clear hn hn2
  go_enter Tryz.func133, Tryz.ntmps133
  go_wp2_with fail
  go_loopw [0, 7] (fun v0 v7 wr => ∃ (xs : List Int) (m : Int), v0 = .int .i64 m ∧ v7 = .int .i64 xs.length ∧ ((0 ≤ n → 0 ≤ m ∧ m ≤ n) ∧ (n < 0 → n ≤ m ∧ m < 0)) ∧ xs ++ lebS m = lebS n ∧ Ten wr w.heap.size (pd []) ∧ Ten wr (w.heap.size + 1) (pd xs) ∧ Below w.heap.size w wr) (fun v0 _ _ => (intOf v0).natAbs)
  case atStart => exact ⟨[], n, rfl, rfl, by omega, by simp, (Ten.new w _).keep (below1 _ _), Ten.new' w _ _, below2 _ _ _⟩
  case round =>
    obtain ⟨xs, m, rfl, rfl, hmn, hx, ht0, ht1, hbel⟩ := hrel
    have HX := Lib.hid hx
    have hlen : xs.length ≤ 9 := by
      have h1 := lebS_pos m
      have h2 := lebS_length 9 n HN.out.1 HN.out.2
      have h3 := congrArg List.length hx
      simp at h3
      omega
    have HMU := Lib.hid (show -9223372036854775808 ≤ m ∧ m < 9223372036854775808 by have := HN2.out; omega)
    obtain ⟨c1, c2⟩ := ht1 xs.length (by omega)
    clear hx
    by_cases hm : m < -64 ∨ 64 ≤ m
    · go_wp2_with (go_at_call 134; refine (endsSigned_no _ _ (by omega)).mono ?_; rintro e w' ⟨rfl, rfl⟩)
      have hor : bits .or .u8 (m % 256) 128 = (m % 128 + 128) := by rw [u8_or128_all _ (by omega) (by omega)]; omega
      go_roundw
      case rel =>
        refine ⟨xs ++ [(m % 128 + 128)], m / 128, by go_num, by simp, by omega, ?_, ht0.other (by simp) _, by rw [hor]; exact ht1.set (by omega) _, hbel.setCell (by simp) _⟩
        rw [← HX.out, lebS_big m hm]; simp
      case measure => simp [intOf]; omega
    · go_upto_region 8 with (go_at_call 134; refine (endsSigned_yes _ _ (by omega) (by omega)).mono ?_; rintro e w' ⟨rfl, rfl⟩)
      have hand : bits .and .u8 (m % 256) 127 = m % 128 := by rw [u8_and127 _ (by omega) (by omega)]; omega
      rw [hand]
      have t1 := ht1.set (show xs.length < 10 by omega) (m % 128)
      have t0 := ht0.other (p := ⟨w.heap.size + 1, xs.length, none⟩) (by simp) (.int .u8 (m % 128))
      have hb := hbel.setCell (p := ⟨w.heap.size + 1, xs.length, none⟩) (by simp) (.int .u8 (m % 128))
      have hxx : xs ++ [m % 128] = lebS n := by rw [← HX.out, lebS_small m (by omega) (by omega)]
      have hll : xs.length + 1 = (lebS n).length := by rw [← hxx]; simp
      rw [hxx] at t1
      have hlv : ((xs.length : Nat) : Int) + 1 = l := by rw [← XL.out, ← hll]; simp
      generalize (wr.setCell ⟨w.heap.size + 1, xs.length, none⟩ (.int .u8 (m % 128))) = w3 at *
      have HL := Lib.hid hlv
      clear hand hbel ht0 ht1 c1 c2 hll hxx hlv HX hm hmn HN HN2
      obtain ⟨d0, f0⟩ := t0 0 (by omega)
      obtain ⟨e0, g0⟩ := t1 0 (by omega)
      rw [X0.out] at e0
      rw [pd_nil] at d0
      obtain ⟨d1, f1⟩ := t0 1 (by omega)
      obtain ⟨e1, g1⟩ := t1 1 (by omega)
      rw [X1.out] at e1
      rw [pd_nil] at d1
      obtain ⟨d2, f2⟩ := t0 2 (by omega)
      obtain ⟨e2, g2⟩ := t1 2 (by omega)
      rw [X2.out] at e2
      rw [pd_nil] at d2
      obtain ⟨d3, f3⟩ := t0 3 (by omega)
      obtain ⟨e3, g3⟩ := t1 3 (by omega)
      rw [X3.out] at e3
      rw [pd_nil] at d3
      obtain ⟨d4, f4⟩ := t0 4 (by omega)
      obtain ⟨e4, g4⟩ := t1 4 (by omega)
      rw [X4.out] at e4
      rw [pd_nil] at d4
      obtain ⟨d5, f5⟩ := t0 5 (by omega)
      obtain ⟨e5, g5⟩ := t1 5 (by omega)
      rw [X5.out] at e5
      rw [pd_nil] at d5
      obtain ⟨d6, f6⟩ := t0 6 (by omega)
      obtain ⟨e6, g6⟩ := t1 6 (by omega)
      rw [X6.out] at e6
      rw [pd_nil] at d6
      obtain ⟨d7, f7⟩ := t0 7 (by omega)
      obtain ⟨e7, g7⟩ := t1 7 (by omega)
      rw [X7.out] at e7
      rw [pd_nil] at d7
      obtain ⟨d8, f8⟩ := t0 8 (by omega)
      obtain ⟨e8, g8⟩ := t1 8 (by omega)
      rw [X8.out] at e8
      rw [pd_nil] at d8
      obtain ⟨d9, f9⟩ := t0 9 (by omega)
      obtain ⟨e9, g9⟩ := t1 9 (by omega)
      rw [X9.out] at e9
      rw [pd_nil] at d9
      clear t0 t1
      go_wp2_with fail
      refine bodyPost_ret (v := .tuple #[.agg #[.int .u8 x0, .int .u8 x1, .int .u8 x2, .int .u8 x3, .int .u8 x4, .int .u8 x5, .int .u8 x6, .int .u8 x7, .int .u8 x8, .int .u8 x9], .int .i64 (xs.length + 1)]) (by simp [results, Tryz.results133, go_sem, d0, d1, d2, d3, d4, d5, d6, d7, d8, d9]) rfl ⟨?_, ?_⟩
      · rw [HL.out]
      · exact ((((((((((hb.setCell (by simp) _).setCell (by simp) _).setCell (by simp) _).setCell (by simp) _).setCell (by simp) _).setCell (by simp) _).setCell (by simp) _).setCell (by simp) _).setCell (by simp) _).setCell (by simp) _)

end Go.Proofs.YtbjcldekapipaaaGreatDoor

