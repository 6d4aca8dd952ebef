/-
  Walks of the functions on ranges: toRange, l00In, both RangeOk. No condition but that the numbers are int64.
-/
import Derived.Test.YtbockifbboogiabBase
namespace Go.Proofs.Ytbockifbboogiab
open Go.ChangeShapes Go.WideShapes Go.ChangeAt Go.RowKit

theorem toRange_any (a b : Int) (w : World) :
    Calls Try.prog 12 #[.agg #[.int .i64 a, .int .i64 b]] w fun e w' => e = .returned (.agg #[.int .i64 a, .int .i64 b]) ∧ Below w.heap.size w w' := by
  go_enter Try.func12, Try.ntmps12
  go_wp2
  refine bodyPost_ret (v := .agg #[.int .i64 a, .int .i64 b]) (by simp [results, Try.results12, go_sem]) rfl ⟨rfl, ?_⟩
  exact (((Below.refl _ _).alloc (Nat.le_refl _) _).alloc (by simp) _).alloc (by simp; omega) _

theorem l00In_yes (n l h : Int) (w : World) (h1 : l ≤ n) (h2 : n ≤ h) :
    Calls Try.prog 20 #[.int .i64 n, .int .i64 l, .int .i64 h] w fun e w' => e = .returned (.bool true) ∧ w = w' := by
  go_enter Try.func20, Try.ntmps20
  go_wp2
  go_ret
  exact ⟨rfl, rfl⟩
theorem l00In_no (n l h : Int) (w : World) (h1 : n < l ∨ h < n) :
    Calls Try.prog 20 #[.int .i64 n, .int .i64 l, .int .i64 h] w fun e w' => e = .returned (.bool false) ∧ w = w' := by
  by_cases h2 : l ≤ n
  · have h3 : ¬ n ≤ h := by omega
    go_enter Try.func20, Try.ntmps20
    go_wp2
    go_ret
    exact ⟨rfl, rfl⟩
  · go_enter Try.func20, Try.ntmps20
    go_wp2
    go_ret
    exact ⟨rfl, rfl⟩

/-- A range that is valid. -/
def rOk (a b : Int) : Prop := 0 ≤ a ∧ a < b ∧ b ≤ 1000000000

theorem specRangeOk_yes (a b : Int) (w : World) (h : rOk a b) :
    Calls Try.prog 11 #[.agg #[.int .i64 a, .int .i64 b]] w fun e w' => e = .returned (.bool true) ∧ Below w.heap.size w w' := by
  unfold rOk at h
  obtain ⟨h1, h2, h3⟩ := h
  go_enter Try.func11, Try.ntmps11
  go_wp2_with (go_at_call 20; refine (l00In_yes _ _ _ _ (by omega) (by omega)).mono ?_; rintro e w' ⟨rfl, rfl⟩)
  go_ret
  exact ⟨rfl, (Below.refl _ _).alloc (Nat.le_refl _) _⟩
theorem specRangeOk_no (a b : Int) (w : World) (h : ¬ rOk a b) :
    Calls Try.prog 11 #[.agg #[.int .i64 a, .int .i64 b]] w fun e w' => e = .returned (.bool false) ∧ Below w.heap.size w w' := by
  unfold rOk at h
  by_cases h1 : 0 ≤ a ∧ a ≤ 999999999
  · obtain ⟨h1, h2⟩ := h1
    have h3 : b < a + 1 ∨ 1000000000 < b := by omega
    clear h
    go_enter Try.func11, Try.ntmps11
    go_wp2_with (go_at_call 20; (first | refine (l00In_yes _ _ _ _ (by omega) (by omega)).mono ?_ | refine (l00In_no _ _ _ _ (by omega)).mono ?_); rintro e w' ⟨rfl, rfl⟩)
    go_ret
    exact ⟨rfl, (Below.refl _ _).alloc (Nat.le_refl _) _⟩
  · have h3 : a < 0 ∨ 999999999 < a := by omega
    clear h h1
    go_enter Try.func11, Try.ntmps11
    go_wp2_with (go_at_call 20; refine (l00In_no _ _ _ _ (by omega)).mono ?_; rintro e w' ⟨rfl, rfl⟩)
    go_ret
    exact ⟨rfl, (Below.refl _ _).alloc (Nat.le_refl _) _⟩

theorem implRangeOk_yes (a b : Int) (w : World) (h : rOk a b) :
    Calls Try.prog 13 #[.agg #[.int .i64 a, .int .i64 b]] w fun e w' => e = .returned (.bool true) ∧ Below w.heap.size w w' := by
  unfold rOk at h
  obtain ⟨h1, h2, h3⟩ := h
  go_enter Try.func13, Try.ntmps13
  go_wp2
  go_ret
  exact ⟨rfl, (Below.refl _ _).alloc (Nat.le_refl _) _⟩
end Go.Proofs.Ytbockifbboogiab
