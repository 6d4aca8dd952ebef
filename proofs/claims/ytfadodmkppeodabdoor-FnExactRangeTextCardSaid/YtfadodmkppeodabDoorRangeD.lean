/-
  Walks of the functions on ranges: toRange, l00In, both RangeOk. No condition but that the numbers are int64.
-/
import Derived.Test.YtfadodmkppeodabDoorIn
namespace Go.Proofs.YtfadodmkppeodabDoor
open Go.ChangeShapes Go.WideShapes Go.ChangeAt Go.RowKit

theorem toRange_any (a b : Int) (w : World) :
    Calls Tryd.prog 24 #[.agg #[.int .i64 a, .int .i64 b]] w fun e w' => e = .returned (.agg #[.int .i64 a, .int .i64 b]) ∧ Below w.heap.size w w' := by
  go_enter Tryd.func24, Tryd.ntmps24
  go_wp2
  refine bodyPost_ret (v := .agg #[.int .i64 a, .int .i64 b]) (by simp [results, Tryd.results24, go_sem]) rfl ⟨rfl, ?_⟩
  exact (((Below.refl _ _).alloc (Nat.le_refl _) _).alloc (by simp) _).alloc (by simp; omega) _

/-- A range that is valid. -/
def rOk (a b : Int) : Prop := 0 ≤ a ∧ a < b ∧ b ≤ 1000000000

theorem specRangeOk_yes (a b : Int) (w : World) (h : rOk a b) :
    Calls Tryd.prog 40 #[.agg #[.int .i64 a, .int .i64 b]] w fun e w' => e = .returned (.bool true) ∧ Below w.heap.size w w' := by
  unfold rOk at h
  obtain ⟨h1, h2, h3⟩ := h
  go_enter Tryd.func40, Tryd.ntmps40
  go_wp2_with (go_at_call 45; refine (l00In_yes _ _ _ _ (by omega) (by omega)).mono ?_; rintro e w' ⟨rfl, rfl⟩)
  go_ret
  exact ⟨rfl, (Below.refl _ _).alloc (Nat.le_refl _) _⟩
theorem specRangeOk_no (a b : Int) (w : World) (h : ¬ rOk a b) :
    Calls Tryd.prog 40 #[.agg #[.int .i64 a, .int .i64 b]] w fun e w' => e = .returned (.bool false) ∧ Below w.heap.size w w' := by
  unfold rOk at h
  by_cases h1 : 0 ≤ a ∧ a ≤ 999999999
  · obtain ⟨h1, h2⟩ := h1
    have h3 : b < a + 1 ∨ 1000000000 < b := by omega
    clear h
    go_enter Tryd.func40, Tryd.ntmps40
    go_wp2_with (go_at_call 45; (first | refine (l00In_yes _ _ _ _ (by omega) (by omega)).mono ?_ | refine (l00In_no _ _ _ _ (by omega)).mono ?_); rintro e w' ⟨rfl, rfl⟩)
    go_ret
    exact ⟨rfl, (Below.refl _ _).alloc (Nat.le_refl _) _⟩
  · have h3 : a < 0 ∨ 999999999 < a := by omega
    clear h h1
    go_enter Tryd.func40, Tryd.ntmps40
    go_wp2_with (go_at_call 45; refine (l00In_no _ _ _ _ (by omega)).mono ?_; rintro e w' ⟨rfl, rfl⟩)
    go_ret
    exact ⟨rfl, (Below.refl _ _).alloc (Nat.le_refl _) _⟩

theorem implRangeOk_yes (a b : Int) (w : World) (h : rOk a b) :
    Calls Tryd.prog 41 #[.agg #[.int .i64 a, .int .i64 b]] w fun e w' => e = .returned (.bool true) ∧ Below w.heap.size w w' := by
  unfold rOk at h
  obtain ⟨h1, h2, h3⟩ := h
  go_enter Tryd.func41, Tryd.ntmps41
  go_wp2
  go_ret
  exact ⟨rfl, (Below.refl _ _).alloc (Nat.le_refl _) _⟩
theorem implRangeOk_no (a b : Int) (w : World) (h : ¬ rOk a b) :
    Calls Tryd.prog 41 #[.agg #[.int .i64 a, .int .i64 b]] w fun e w' => e = .returned (.bool false) ∧ Below w.heap.size w w' := by
  unfold rOk at h
  by_cases h1 : 0 ≤ a
  · by_cases h2 : a < b
    · have h3 : ¬ b ≤ 1000000000 := by omega
      clear h
      go_enter Tryd.func41, Tryd.ntmps41
      go_wp2
      go_ret
      exact ⟨rfl, (Below.refl _ _).alloc (Nat.le_refl _) _⟩
    · clear h
      go_enter Tryd.func41, Tryd.ntmps41
      go_wp2
      go_ret
      exact ⟨rfl, (Below.refl _ _).alloc (Nat.le_refl _) _⟩
  · clear h
    go_enter Tryd.func41, Tryd.ntmps41
    go_wp2
    go_ret
    exact ⟨rfl, (Below.refl _ _).alloc (Nat.le_refl _) _⟩
end Go.Proofs.YtfadodmkppeodabDoor
