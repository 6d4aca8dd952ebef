/-
  The walk of lebOf[uint64].
-/
import Derived.Test.YtbjcldekapipaaaLebOf
import Derived.Deep.DeepCutAuto
namespace Go.Proofs.Ytbjcldekapipaaa
open Go.ChangeShapes Go.WideShapes Go.ChangeAt Go.RowKit

theorem Ten.set {w : World} {b : Nat} {xs : List Int} (h : Ten w b (pd xs)) (hl : xs.length < 10) (v : Int) : Ten (w.setCell ⟨b, xs.length, none⟩ (.int .u8 v)) b (pd (xs ++ [v])) := by
  intro j hj
  obtain ⟨h1, h2⟩ := h j hj
  obtain ⟨k1, k2⟩ := h xs.length hl
  rw [pd_at]
  by_cases e : j = xs.length
  · subst e
    exact ⟨by rw [if_pos rfl]; exact World.cell?_setCell_same w _ _ k1, by simpa using k2⟩
  · rw [if_neg e]
    have hne : (⟨b, xs.length, none⟩ : Addr) ≠ ⟨b, j, none⟩ := fun he => e (congrArg Addr.off he).symm
    exact ⟨by rw [← h1]; exact World.cell?_setCell_other w _ _ _ hne, by simpa using h2⟩
theorem Ten.keep {w w' : World} {b : Nat} {f : Nat → Int} (h : Ten w b f) (hb : Below w.heap.size w w') : Ten w' b f := fun j hj =>
  have hlt : b < w.heap.size := World.block_lt_of_cell? w _ (h j hj).1
  ⟨keepCell hb (h j hj).1, (hb.frozen (p := ⟨b, j, none⟩) hlt).trans (h j hj).2⟩
theorem Ten.new' (w : World) (o : Obj) (t : TypeId) : Ten ((w.alloc o).alloc (.cells #[.int .u8 0, .int .u8 0, .int .u8 0, .int .u8 0, .int .u8 0, .int .u8 0, .int .u8 0, .int .u8 0, .int .u8 0, .int .u8 0] t)) (w.heap.size + 1) (pd []) := by
  have h := Ten.new (w.alloc o) t
  simpa using h
theorem Ten.other {w : World} {b : Nat} {f : Nat → Int} (h : Ten w b f) {p : Addr} (hp : p.block ≠ b) (v : Value) : Ten (w.setCell p v) b f := fun j hj =>
  ⟨(World.cell?_of_block (Below.heap_setCell w p v b (Ne.symm hp))).trans (h j hj).1, (World.frozen?_of_block (Below.heap_setCell w p v b (Ne.symm hp))).trans (h j hj).2⟩

set_option maxRecDepth 100000 in
set_option maxHeartbeats 1000000 in
theorem lebOfU_any (n : Nat) (x0 x1 x2 x3 x4 x5 x6 x7 x8 x9 l : Int) (w : World) (hn : n < 128 ^ 10) (hn2 : (n : Int) < 18446744073709551616) (hx0 : pd (lebU n) 0 = x0) (hx1 : pd (lebU n) 1 = x1) (hx2 : pd (lebU n) 2 = x2) (hx3 : pd (lebU n) 3 = x3) (hx4 : pd (lebU n) 4 = x4) (hx5 : pd (lebU n) 5 = x5) (hx6 : pd (lebU n) 6 = x6) (hx7 : pd (lebU n) 7 = x7) (hx8 : pd (lebU n) 8 = x8) (hx9 : pd (lebU n) 9 = x9) (hl : ((lebU n).length : Int) = l) :
    Calls Try.prog 77 #[.int .u64 n, .func (.func 78) #[] #[]] w fun e w' => e = .returned (.tuple #[.agg #[.int .u8 x0, .int .u8 x1, .int .u8 x2, .int .u8 x3, .int .u8 x4, .int .u8 x5, .int .u8 x6, .int .u8 x7, .int .u8 x8, .int .u8 x9], .int .i64 l]) ∧ Below w.heap.size w w' := by
  have X0 := Lib.hid hx0
  have X1 := Lib.hid hx1
  have X2 := Lib.hid hx2
  have X3 := Lib.hid hx3
  have X4 := Lib.hid hx4
  have X5 := Lib.hid hx5
  have X6 := Lib.hid hx6
  have X7 := Lib.hid hx7
  have X8 := Lib.hid hx8
  have X9 := Lib.hid hx9
  have XL := Lib.hid hl
  clear hl hx0 hx1 hx2 hx3 hx4 hx5 hx6 hx7 hx8 hx9
  have HN := Lib.hid hn
  have HN2 := Lib.hid hn2
  clear hn hn2
  go_enter Try.func77, Try.ntmps77
  go_wp2_with fail
  go_loopw [0, 7] (fun v0 v7 wr => ∃ (xs : List Int) (m : Nat), v0 = .int .u64 m ∧ v7 = .int .i64 xs.length ∧ m ≤ n ∧ xs ++ lebU m = lebU n ∧ Ten wr w.heap.size (pd []) ∧ Ten wr (w.heap.size + 1) (pd xs) ∧ Below w.heap.size w wr) (fun v0 _ _ => (intOf v0).toNat)
  case atStart => exact ⟨[], n, rfl, rfl, by omega, by simp, (Ten.new w _).keep (below1 _ _), Ten.new' w _ _, below2 _ _ _⟩
  case round =>
    obtain ⟨xs, m, rfl, rfl, hmn, hx, ht0, ht1, hbel⟩ := hrel
    have HX := Lib.hid hx
    have hlen : xs.length ≤ 9 := by
      have h1 := lebU_pos m
      have h2 := lebU_length 9 n HN.out
      have h3 := congrArg List.length hx
      simp at h3
      omega
    have HMU := Lib.hid (show (m : Int) < 18446744073709551616 by have := HN2.out; omega)
    obtain ⟨c1, c2⟩ := ht1 xs.length (by omega)
    clear hx
    by_cases hm : 128 ≤ m
    · go_wp2_with (go_at_call 78; refine (endsUnsigned_no _ _ (by omega)).mono ?_; rintro e w' ⟨rfl, rfl⟩)
      have hor : bits .or .u8 ((m : Int) % 256) 128 = ((m % 128 + 128 : Nat) : Int) := by rw [u8_or128_all _ (by omega) (by omega)]; omega
      go_roundw
      case rel =>
        refine ⟨xs ++ [((m % 128 + 128 : Nat) : Int)], m / 128, by go_num, by simp, by omega, ?_, ht0.other (by simp) _, by rw [hor]; exact ht1.set (by omega) _, hbel.setCell (by simp) _⟩
        rw [← HX.out, lebU_big m hm]; simp
      case measure => simp [intOf]; omega
    · go_upto_region 8 with (go_at_call 78; refine (endsUnsigned_yes _ _ (by omega)).mono ?_; rintro e w' ⟨rfl, rfl⟩)
      have hand : bits .and .u8 (m : Int) 127 = (m : Int) := by rw [u8_and127 _ (by omega) (by omega)]; omega
      rw [hand]
      have t1 := ht1.set (show xs.length < 10 by omega) ((m : Int))
      have t0 := ht0.other (p := ⟨w.heap.size + 1, xs.length, none⟩) (by simp) (.int .u8 ((m : Int)))
      have hb := hbel.setCell (p := ⟨w.heap.size + 1, xs.length, none⟩) (by simp) (.int .u8 ((m : Int)))
      have hxx : xs ++ [(m : Int)] = lebU n := by rw [← HX.out, lebU_small m (by omega)]
      have hll : xs.length + 1 = (lebU n).length := by rw [← hxx]; simp
      rw [hxx] at t1
      have hlv : ((xs.length : Nat) : Int) + 1 = l := by rw [← XL.out, ← hll]; simp
      generalize (wr.setCell ⟨w.heap.size + 1, xs.length, none⟩ (.int .u8 ((m : Int)))) = w3 at *
      have HL := Lib.hid hlv
      clear hand hbel ht0 ht1 c1 c2 hll hxx hlv HX hm hmn HN HN2
      obtain ⟨d0, f0⟩ := t0 0 (by omega)
      obtain ⟨e0, g0⟩ := t1 0 (by omega)
      rw [X0.out] at e0
      rw [pd_nil] at d0
      obtain ⟨d1, f1⟩ := t0 1 (by omega)
      obtain ⟨e1, g1⟩ := t1 1 (by omega)
      rw [X1.out] at e1
      rw [pd_nil] at d1
      obtain ⟨d2, f2⟩ := t0 2 (by omega)
      obtain ⟨e2, g2⟩ := t1 2 (by omega)
      rw [X2.out] at e2
      rw [pd_nil] at d2
      obtain ⟨d3, f3⟩ := t0 3 (by omega)
      obtain ⟨e3, g3⟩ := t1 3 (by omega)
      rw [X3.out] at e3
      rw [pd_nil] at d3
      obtain ⟨d4, f4⟩ := t0 4 (by omega)
      obtain ⟨e4, g4⟩ := t1 4 (by omega)
      rw [X4.out] at e4
      rw [pd_nil] at d4
      obtain ⟨d5, f5⟩ := t0 5 (by omega)
      obtain ⟨e5, g5⟩ := t1 5 (by omega)
      rw [X5.out] at e5
      rw [pd_nil] at d5
      obtain ⟨d6, f6⟩ := t0 6 (by omega)
      obtain ⟨e6, g6⟩ := t1 6 (by omega)
      rw [X6.out] at e6
      rw [pd_nil] at d6
      obtain ⟨d7, f7⟩ := t0 7 (by omega)
      obtain ⟨e7, g7⟩ := t1 7 (by omega)
      rw [X7.out] at e7
      rw [pd_nil] at d7
      obtain ⟨d8, f8⟩ := t0 8 (by omega)
      obtain ⟨e8, g8⟩ := t1 8 (by omega)
      rw [X8.out] at e8
      rw [pd_nil] at d8
      obtain ⟨d9, f9⟩ := t0 9 (by omega)
      obtain ⟨e9, g9⟩ := t1 9 (by omega)
      rw [X9.out] at e9
      rw [pd_nil] at d9
      clear t0 t1
      go_wp2_with fail
      refine bodyPost_ret (v := .tuple #[.agg #[.int .u8 x0, .int .u8 x1, .int .u8 x2, .int .u8 x3, .int .u8 x4, .int .u8 x5, .int .u8 x6, .int .u8 x7, .int .u8 x8, .int .u8 x9], .int .i64 (xs.length + 1)]) (by simp [results, Try.results77, go_sem, d0, d1, d2, d3, d4, d5, d6, d7, d8, d9]) rfl ⟨?_, ?_⟩
      · rw [HL.out]
      · exact ((((((((((hb.setCell (by simp) _).setCell (by simp) _).setCell (by simp) _).setCell (by simp) _).setCell (by simp) _).setCell (by simp) _).setCell (by simp) _).setCell (by simp) _).setCell (by simp) _).setCell (by simp) _)

end Go.Proofs.Ytbjcldekapipaaa
