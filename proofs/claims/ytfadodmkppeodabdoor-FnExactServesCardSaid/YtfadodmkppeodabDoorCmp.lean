/-
  Walks of cmp.Compare at int64 and of order.compare.
-/
import Derived.Test.YtfadodmkppeodabDoorVBelow
import Derived.IntWalk
import Derived.Deep.RegionHeld3
namespace Go.Proofs.YtfadodmkppeodabDoor
open Go.ChangeShapes Go.WideShapes Go.ChangeAt Go.RowKit

/-- -1, 0 or 1. -/
def cmpI (a b : Int) : Int := if a < b then -1 else if b < a then 1 else 0

theorem isNaN_any (a : Int) (w : World) : Calls Tryd.prog 57 #[.int .i64 a] w fun e w' => e = .returned (.bool false) ∧ w = w' := by
  go_enter Tryd.func57, Tryd.ntmps57
  go_wp2
  go_ret
  exact ⟨rfl, rfl⟩

theorem cmp_any (a b : Int) (w : World) : Calls Tryd.prog 50 #[.int .i64 a, .int .i64 b] w fun e w' => e = .returned (.int .i64 (cmpI a b)) ∧ w = w' := by
  unfold cmpI
  have hN := isNaN_any
  by_cases h1 : a < b
  · rw [if_pos h1]
    go_enter Tryd.func50, Tryd.ntmps50
    go_wp2_with (go_at_call 57; refine (isNaN_any _ _).mono ?_; rintro e w' ⟨rfl, rfl⟩)
    go_ret
    exact ⟨rfl, rfl⟩
  · rw [if_neg h1]
    by_cases h2 : b < a
    · rw [if_pos h2]
      go_enter Tryd.func50, Tryd.ntmps50
      go_wp2_with (go_at_call 57; refine (isNaN_any _ _).mono ?_; rintro e w' ⟨rfl, rfl⟩)
      go_ret
      exact ⟨rfl, rfl⟩
    · rw [if_neg h2]
      go_enter Tryd.func50, Tryd.ntmps50
      go_wp2_with (go_at_call 57; refine (isNaN_any _ _).mono ?_; rintro e w' ⟨rfl, rfl⟩)
      go_ret
      exact ⟨rfl, rfl⟩

/-- What compare's region keeps: two versions' numbers. -/
def S6 (a b c d e f : Int) (r : Nat) (w0 w' : World) : Prop := w'.cell? ⟨r, 0, none⟩ = some (.int .i64 a) ∧ w'.cell? ⟨r, 1, none⟩ = some (.int .i64 b) ∧ w'.cell? ⟨r, 2, none⟩ = some (.int .i64 c) ∧ w'.cell? ⟨r + 1, 0, none⟩ = some (.int .i64 d) ∧ w'.cell? ⟨r + 1, 1, none⟩ = some (.int .i64 e) ∧ w'.cell? ⟨r + 1, 2, none⟩ = some (.int .i64 f) ∧ Below w0.heap.size w0 w'
theorem S6.drew {a b c d e f : Int} {r : Nat} {w0 w' : World} (h : S6 a b c d e f r w0 w') : S6 a b c d e f r w0 w'.drew := ⟨h.1, h.2.1, h.2.2.1, h.2.2.2.1, h.2.2.2.2.1, h.2.2.2.2.2.1, h.2.2.2.2.2.2.drew⟩
theorem S6.keep {a b c d e f : Int} {r : Nat} {w0 w' w2 : World} (h : S6 a b c d e f r w0 w') (hb : Below w'.heap.size w' w2) : S6 a b c d e f r w0 w2 :=
  ⟨keepCell hb h.1, keepCell hb h.2.1, keepCell hb h.2.2.1, keepCell hb h.2.2.2.1, keepCell hb h.2.2.2.2.1, keepCell hb h.2.2.2.2.2.1, bchain h.2.2.2.2.2.2 hb h.2.2.2.2.2.2.size⟩

theorem compare_any (o a b c d e f : Int) (ho0 : -1 ≤ o) (ho1 : o ≤ 1) (a0 : 0 ≤ a) (a1 : a < 1000) (b0 : 0 ≤ b) (b1 : b < 1000) (c0 : 0 ≤ c) (c1 : c < 1000) (d0 : 0 ≤ d) (d1 : d < 1000) (e0 : 0 ≤ e) (e1 : e < 1000) (f0 : 0 ≤ f) (f1 : f < 1000) (w : World) :
    Calls Tryd.prog 35 #[.int .i64 o, .agg #[.int .i64 a, .int .i64 b, .int .i64 c], .agg #[.int .i64 d, .int .i64 e, .int .i64 f]] w fun ed w' => ed = .returned (.int .i64 (o * cmpI (a * 1000000 + b * 1000 + c) (d * 1000000 + e * 1000 + f))) ∧ Below w.heap.size w w' := by
  have C1 : Hid (∀ W : World, Calls Tryd.prog 34 #[.agg #[.int .i64 a, .int .i64 b, .int .i64 c]] W fun e w' => e = .returned (.int .i64 (a * 1000000 + b * 1000 + c)) ∧ Below W.heap.size W w') := Lib.hid (fun W => number_any a b c a0 a1 b0 b1 c0 c1 W)
  have C2 : Hid (∀ W : World, Calls Tryd.prog 34 #[.agg #[.int .i64 d, .int .i64 e, .int .i64 f]] W fun ed w' => ed = .returned (.int .i64 (d * 1000000 + e * 1000 + f)) ∧ Below W.heap.size W w') := Lib.hid (fun W => number_any d e f d0 d1 e0 e1 f0 f1 W)
  clear a0 a1 b0 b1 c0 c1 d0 d1 e0 e1 f0 f1
  generalize a * 1000000 + b * 1000 + c = m at *
  generalize d * 1000000 + e * 1000 + f = n at *
  have CC : Hid (∀ W : World, Calls Tryd.prog 50 #[.int .i64 m, .int .i64 n] W fun ed w' => ed = .returned (.int .i64 (cmpI m n)) ∧ W = w') := Lib.hid (fun W => cmp_any m n W)
  have hk : -1 ≤ cmpI m n ∧ cmpI m n ≤ 1 := by
    unfold cmpI
    split
    · omega
    · split <;> omega
  generalize cmpI m n = k at *
  have hw : IntKind.i64.wrap (o * k) = o * k := by
    have h2 : -1 ≤ o * k ∧ o * k ≤ 1 := by
      have h3 : k = -1 ∨ k = 0 ∨ k = 1 := by omega
      rcases h3 with rfl | rfl | rfl <;> omega
    exact IntWalk.i64_in _ (by omega)
  clear hk ho0 ho1
  go_enter Tryd.func35, Tryd.ntmps35
  go_wp2_with fail
  have hS : S6 a b c d e f w.heap.size w ((w.alloc (.cells #[.int .i64 a, .int .i64 b, .int .i64 c] 43)).alloc (.cells #[.int .i64 d, .int .i64 e, .int .i64 f] 43)) :=
    ⟨by simp, by simp, by simp, by simp, by simp, by simp, below2 _ _ _⟩
  go_region_held3 (fun w' => w'.cell? ⟨w.heap.size, 0, none⟩ = some (.int .i64 a) ∧ w'.cell? ⟨w.heap.size, 1, none⟩ = some (.int .i64 b) ∧ w'.cell? ⟨w.heap.size, 2, none⟩ = some (.int .i64 c) ∧ w'.cell? ⟨w.heap.size + 1, 0, none⟩ = some (.int .i64 d) ∧ w'.cell? ⟨w.heap.size + 1, 1, none⟩ = some (.int .i64 e) ∧ w'.cell? ⟨w.heap.size + 1, 2, none⟩ = some (.int .i64 f) ∧ Below w.heap.size w w')
    (first | (exact S6.drew hS) | (exact hS) | (exact hSv) | (exact S6.drew hSv) | (apply S6.drew; assumption) | assumption)
    (first
      | (go_at_call_of 34 (Value.agg #[.int .i64 a, .int .i64 b, .int .i64 c]); refine (C1.out _).mono ?_; rintro ed wv ⟨rfl, hbv⟩; have hSv := S6.keep (by first | exact S6.drew hSv | exact hSv | exact hS | exact hS.drew) hbv)
      | (go_at_call_of 34 (Value.agg #[.int .i64 d, .int .i64 e, .int .i64 f]); refine (C2.out _).mono ?_; rintro ed wv ⟨rfl, hbv⟩; have hSv := S6.keep (by first | exact S6.drew hSv | exact hSv | exact hS | exact hS.drew) hbv)
      | (go_at_call 50; refine (CC.out _).mono ?_; rintro ed wv ⟨rfl, rfl⟩))
  all_goals
    go_wp2_with fail
    go_ret
    first
      | exact ⟨rfl, hSv.2.2.2.2.2.2⟩
      | exact ⟨rfl, hSv.2.2.2.2.2.2.drew⟩
end Go.Proofs.YtfadodmkppeodabDoor
