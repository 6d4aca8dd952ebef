/-
  The walk of the program's RangeOf.
-/
import Derived.Test.YtfadodmkppeodabDoorRangeOf
import Derived.Deep.RegionWith
namespace Go.Proofs.YtfadodmkppeodabDoor
open Go.ChangeShapes Go.WideShapes Go.ChangeAt Go.RowKit

theorem not_empty (s : ByteArray) (h : 0 < s.size) : s.toList.isEmpty = false := by
  cases h2 : s.toList with
  | nil =>
    have h3 : s.data.toList = [] := by rw [← ByteArray.toList_eq]; exact h2
    have h4 : s.size = 0 := by
      show s.data.toList.length = 0
      rw [h3]
      rfl
    omega
  | cons c cs => rfl

theorem implRO_empty (w : World) :
    Calls Tryd.prog 21 #[.string ⟨#[]⟩] w fun e w' => e = .returned (roV 0 0 6) ∧ Below w.heap.size w w' := by
  unfold roV
  go_enter Tryd.func21, Tryd.ntmps21
  go_wp2_with fail
  exact bodyPost_ret (v := .tuple #[.agg #[.int .i64 0, .int .i64 0], .int .i64 6]) (by simp [results, Tryd.results21, go_sem]) rfl ⟨rfl, below1 _ _⟩

theorem implRO_none (s : ByteArray) (h : 0 < s.size) (hk : ¬ Sign ((s[0]'h).toNat : Int)) (w : World) :
    Calls Tryd.prog 21 #[.string s] w fun e w' => e = .returned (roV 0 0 6) ∧ Below w.heap.size w w' := by
  unfold roV
  have C := ib_any (s[0]'h) (-1) (idx_none _ hk)
  have h1 : (0 : Int) < (s.size : Int) := by omega
  have he := not_empty s h
  clear hk
  go_enter Tryd.func21, Tryd.ntmps21
  go_wp2_with (go_at_call 38; (with_reducible refine (C.out _).mono ?_); rintro e wy ⟨rfl, rfl⟩)
  exact bodyPost_ret (v := .tuple #[.agg #[.int .i64 0, .int .i64 0], .int .i64 6]) (by simp [results, Tryd.results21, go_sem]) rfl ⟨rfl, below1 _ _⟩

theorem implRO_bad (s : ByteArray) (h : 0 < s.size) (hk : Sign ((s[0]'h).toNat : Int)) (x y z : Int) (C : Hid (∀ w : World, MaxC w → Calls Tryd.prog 33 #[.string (s.extract 1 s.size)] w fun e w' => e = .returned (.tuple #[.agg #[.int .i64 x, .int .i64 y, .int .i64 z], .bool false]) ∧ Below w.heap.size w w')) (w : World) (hm : MaxC w) :
    Calls Tryd.prog 21 #[.string s] w fun e w' => e = .returned (roV 0 0 6) ∧ Below w.heap.size w w' := by
  unfold roV
  obtain ⟨i, hi⟩ : ∃ i, Lib.indexByte [61, 126, 94, 62] (s[0]'h) = i := ⟨_, rfl⟩
  have hi0 := idx_sign _ hk
  rw [hi] at hi0
  have CI := ib_any (s[0]'h) i hi
  have h1 : (0 : Int) < (s.size : Int) := by omega
  have h3 : 1 ≤ s.size := by omega
  have hid : decide (i < 0) = false := decide_eq_false (by omega)
  have he := not_empty s h
  have HM := Lib.hid hm
  clear hk hi hm
  go_enter Tryd.func21, Tryd.ntmps21
  go_wp2_with (first
    | (go_at_call 38; (with_reducible refine (CI.out _).mono ?_); rintro e wy ⟨rfl, rfl⟩)
    | (go_at_call 33; refine (C.out _ (HM.out.keep (below1 _ _))).mono ?_; rintro e wx ⟨rfl, hbx⟩; obtain ⟨hcx, hfx⟩ := bcell hbx; have hzx : w.heap.size < wx.heap.size := (by have h9 := hbx.size; simp at h9; omega)))
  have hb1 := bchain (below1 _ _) hbx (by simp)
  exact bodyPost_ret (v := .tuple #[.agg #[.int .i64 0, .int .i64 0], .int .i64 6]) (by simp [results, Tryd.results21, go_sem, hcx, hzx]) rfl ⟨rfl, ((hb1.setCell (Nat.le_refl _) _).setCell (Nat.le_refl _) _).alloc ((hb1.setCell (Nat.le_refl _) _).setCell (Nat.le_refl _) _).size _⟩

/-- What the last region keeps. -/
def R7 (x y z : Int) (r q : Nat) (w0 w' : World) : Prop := w'.cell? ⟨q, 0, none⟩ = some (.int .i64 x) ∧ w'.cell? ⟨q, 1, none⟩ = some (.int .i64 y) ∧ w'.cell? ⟨q, 2, none⟩ = some (.int .i64 z) ∧ w'.cell? ⟨r, 0, none⟩ = some (.int .i64 0) ∧ w'.cell? ⟨r, 1, none⟩ = some (.int .i64 0) ∧ w'.frozen? ⟨r, 0, none⟩ = false ∧ w'.frozen? ⟨r, 1, none⟩ = false ∧ r < w'.heap.size ∧ Below w0.heap.size w0 w'
theorem R7.drew {x y z : Int} {r q : Nat} {w0 w' : World} (h : R7 x y z r q w0 w') : R7 x y z r q w0 w'.drew := ⟨h.1, h.2.1, h.2.2.1, h.2.2.2.1, h.2.2.2.2.1, h.2.2.2.2.2.1, h.2.2.2.2.2.2.1, h.2.2.2.2.2.2.2.1, h.2.2.2.2.2.2.2.2.drew⟩
theorem R7.keep {x y z : Int} {r q : Nat} {w0 w' w2 : World} (h : R7 x y z r q w0 w') (hb : Below w'.heap.size w' w2) : R7 x y z r q w0 w2 :=
  ⟨keepCell hb h.1, keepCell hb h.2.1, keepCell hb h.2.2.1, keepCell hb h.2.2.2.1, keepCell hb h.2.2.2.2.1, ((bcell hb).2 _ _ h.2.2.2.2.2.2.2.1).trans h.2.2.2.2.2.1, ((bcell hb).2 _ _ h.2.2.2.2.2.2.2.1).trans h.2.2.2.2.2.2.1, Nat.lt_of_lt_of_le h.2.2.2.2.2.2.2.1 hb.size, bchain h.2.2.2.2.2.2.2.2 hb h.2.2.2.2.2.2.2.2.size⟩

set_option maxRecDepth 100000 in
set_option maxHeartbeats 1000000 in
theorem implRO_good (s : ByteArray) (h : 0 < s.size) (hk : Sign ((s[0]'h).toNat : Int)) (x y z : Int) (x0 : 0 ≤ x) (x1 : x < 1000) (y0 : 0 ≤ y) (y1 : y < 1000) (z0 : 0 ≤ z) (z1 : z < 1000) (C : Hid (∀ w : World, MaxC w → Calls Tryd.prog 33 #[.string (s.extract 1 s.size)] w fun e w' => e = .returned (.tuple #[.agg #[.int .i64 x, .int .i64 y, .int .i64 z], .bool true]) ∧ Below w.heap.size w w')) (w : World) (hm : MaxC w) :
    Calls Tryd.prog 21 #[.string s] w fun e w' => e = .returned (roV (x * 1000000 + y * 1000 + z) (belOf ((s[0]'h).toNat : Int) (x * 1000000 + y * 1000 + z)) 0) ∧ Below w.heap.size w w' := by
  unfold roV
  obtain ⟨i, hi⟩ : ∃ i, Lib.indexByte [61, 126, 94, 62] (s[0]'h) = i := ⟨_, rfl⟩
  have hi0 := idx_sign _ hk
  rw [hi] at hi0
  have CI := ib_any (s[0]'h) i hi
  have CN : Hid (∀ W : World, Calls Tryd.prog 34 #[.agg #[.int .i64 x, .int .i64 y, .int .i64 z]] W fun e w' => e = .returned (.int .i64 (x * 1000000 + y * 1000 + z)) ∧ Below W.heap.size W w') := Lib.hid (fun W => number_any x y z x0 x1 y0 y1 z0 z1 W)
  have CB : Hid (∀ W : World, Calls Tryd.prog 39 #[.agg #[.int .i64 x, .int .i64 y, .int .i64 z], .int .i32 ((s[0]'h).toNat : Int)] W fun e w' => e = .returned (.int .i64 (belOf ((s[0]'h).toNat : Int) (x * 1000000 + y * 1000 + z))) ∧ Below W.heap.size W w') := Lib.hid (fun W => by
    have := below_any ((s[0]'h).toNat : Int) (x * 1000000 + y * 1000 + z) (by omega) (by omega) hk W
    rw [show (x * 1000000 + y * 1000 + z) / 1000000 = x by omega, show (x * 1000000 + y * 1000 + z) % 1000000 / 1000 = y by omega, show (x * 1000000 + y * 1000 + z) % 1000 = z by omega] at this
    exact this)
  clear x0 x1 y0 y1 z0 z1
  generalize x * 1000000 + y * 1000 + z = n at *
  generalize belOf ((s[0]'h).toNat : Int) n = B at *
  have h1 : (0 : Int) < (s.size : Int) := by omega
  have h3 : 1 ≤ s.size := by omega
  have hid : decide (i < 0) = false := decide_eq_false (by omega)
  have he := not_empty s h
  have HM := Lib.hid hm
  clear hk hi hm
  go_enter Tryd.func21, Tryd.ntmps21
  go_wp2_with (first
    | (go_at_call 38; (with_reducible refine (CI.out _).mono ?_); rintro e wy ⟨rfl, rfl⟩)
    | (go_at_call 33; refine (C.out _ (HM.out.keep (below1 _ _))).mono ?_; rintro e wx ⟨rfl, hbx⟩))
  have hb1 := bchain (below1 _ _) hbx (by simp)
  have hw : IntKind.i32.wrap ((s[0]'h).toNat : Int) = ((s[0]'h).toNat : Int) := IntWalk.i32_in _ (by have := (s[0]'h).toNat_lt; omega)
  have hS : R7 x y z w.heap.size wx.heap.size w (wx.alloc (.cells #[.int .i64 x, .int .i64 y, .int .i64 z] 43)) :=
    ⟨by simp, by simp, by simp, keepCell (below1 _ _) (keepCell hbx (by simp)), keepCell (below1 _ _) (keepCell hbx (by simp)), ((bcell (below1 _ _)).2 _ _ (by have h9 := hbx.size; simp at h9; omega)).trans (((bcell hbx).2 _ _ (by simp)).trans (by simp)), ((bcell (below1 _ _)).2 _ _ (by have h9 := hbx.size; simp at h9; omega)).trans (((bcell hbx).2 _ _ (by simp)).trans (by simp)), by have h9 := hbx.size; simp at h9; simp; omega, hb1.alloc hb1.size _⟩
  clear hb1 hbx
  obtain ⟨q0, q1, q2, q3, q4, q5, q6, q7, qB⟩ := id hS
  go_region_with
    (first
      | (go_at_call 34; (with_reducible refine (CN.out _).mono ?_); rintro ed wv ⟨rfl, hbv⟩; have hSv := R7.keep (by first | exact R7.drew hSv | exact hSv | exact hS | exact hS.drew) hbv; obtain ⟨q0, q1, q2, q3, q4, q5, q6, q7, qB⟩ := id hSv; clear hbv)
      | (go_at_call 39; (with_reducible refine (CB.out _).mono ?_); rintro ed wv ⟨rfl, hbv⟩; have hSv := R7.keep (by first | exact R7.drew hSv | exact hSv | exact hS | exact hS.drew) hbv; obtain ⟨q0, q1, q2, q3, q4, q5, q6, q7, qB⟩ := id hSv; clear hbv))
  all_goals
    go_wp2_with fail
    refine bodyPost_ret (v := .tuple #[.agg #[.int .i64 n, .int .i64 B], .int .i64 0]) (by simp [results, Tryd.results21, go_sem, q3, q4]) rfl ⟨rfl, ?_⟩
    first
      | exact (qB.setCell (Nat.le_refl _) _).setCell (Nat.le_refl _) _
      | exact (qB.drew.setCell (Nat.le_refl _) _).setCell (Nat.le_refl _) _
end Go.Proofs.YtfadodmkppeodabDoor
