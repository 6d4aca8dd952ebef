/-
  Both NumRange, in one form.
-/
import Derived.Test.YtifchfecfkdjlaaGreatDoorWhyP
namespace Go.Proofs.YtifchfecfkdjlaaGreatDoor
open Go.ChangeShapes Go.WideShapes Go.ChangeAt Go.RowKit

theorem nrV_out {k : Int} (h : k < 3 ∨ 9 < k) : nrV k = (0, 0, false) ∧ numK k = false := by
  constructor
  · unfold nrV
    rw [if_neg (by omega)]
  · unfold numK
    rcases h with h | h
    · simp [show ¬ 3 ≤ k by omega]
    · simp [show ¬ k ≤ 9 by omega]
theorem numK_iff {k : Int} : numK k = true ↔ 3 ≤ k ∧ k ≤ 9 := by
  unfold numK
  simp
theorem nrV_3 : nrV 3 = (0, 255, true) ∧ numK 3 = true := ⟨by first | rfl | decide | simp [nrV, ranges], by first | rfl | decide⟩
theorem nrV_4 : nrV 4 = ((-128), 127, true) ∧ numK 4 = true := ⟨by first | rfl | decide | simp [nrV, ranges], by first | rfl | decide⟩
theorem nrV_5 : nrV 5 = (0, 65535, true) ∧ numK 5 = true := ⟨by first | rfl | decide | simp [nrV, ranges], by first | rfl | decide⟩
theorem nrV_6 : nrV 6 = ((-32768), 32767, true) ∧ numK 6 = true := ⟨by first | rfl | decide | simp [nrV, ranges], by first | rfl | decide⟩
theorem nrV_7 : nrV 7 = (0, 4294967295, true) ∧ numK 7 = true := ⟨by first | rfl | decide | simp [nrV, ranges], by first | rfl | decide⟩
theorem nrV_8 : nrV 8 = ((-2147483648), 2147483647, true) ∧ numK 8 = true := ⟨by first | rfl | decide | simp [nrV, ranges], by first | rfl | decide⟩
theorem nrV_9 : nrV 9 = ((-9223372036854775808), 9223372036854775807, true) ∧ numK 9 = true := ⟨by first | rfl | decide | simp [nrV, ranges], by first | rfl | decide⟩
theorem nr_spec (k : Int) (w : World) : Calls Tryz.prog 66 #[.int .i64 k] w fun e w' => e = .returned (.tuple #[.int .i64 (nrV k).1, .int .i64 (nrV k).2.1, .bool (numK k)]) ∧ Below w.heap.size w w' := by
  by_cases h : k < 3 ∨ 9 < k
  · rw [(nrV_out h).1, (nrV_out h).2]
    exact specNR_out k h w
  · have h2 : k = 3 ∨ k = 4 ∨ k = 5 ∨ k = 6 ∨ k = 7 ∨ k = 8 ∨ k = 9 := by omega
    rcases h2 with rfl | rfl | rfl | rfl | rfl | rfl | rfl
    · rw [nrV_3.1, nrV_3.2]
      exact specNR_3 w
    · rw [nrV_4.1, nrV_4.2]
      exact specNR_4 w
    · rw [nrV_5.1, nrV_5.2]
      exact specNR_5 w
    · rw [nrV_6.1, nrV_6.2]
      exact specNR_6 w
    · rw [nrV_7.1, nrV_7.2]
      exact specNR_7 w
    · rw [nrV_8.1, nrV_8.2]
      exact specNR_8 w
    · rw [nrV_9.1, nrV_9.2]
      exact specNR_9 w
theorem nr_impl (k : Int) (w : World) (ht : RTable w) : Calls Tryz.prog 50 #[.int .i64 k] w fun e w' => e = .returned (.tuple #[.int .i64 (nrV k).1, .int .i64 (nrV k).2.1, .bool (numK k)]) ∧ Below w.heap.size w w' := by
  by_cases h : k < 3 ∨ 9 < k
  · rw [(nrV_out h).1, (nrV_out h).2]
    exact implNR_out k h w
  · have h2 : k = 3 ∨ k = 4 ∨ k = 5 ∨ k = 6 ∨ k = 7 ∨ k = 8 ∨ k = 9 := by omega
    rcases h2 with rfl | rfl | rfl | rfl | rfl | rfl | rfl
    · rw [nrV_3.1, nrV_3.2]
      exact implNR_3 w (ht 3 _ _ rfl).1 (ht 3 _ _ rfl).2
    · rw [nrV_4.1, nrV_4.2]
      exact implNR_4 w (ht 4 _ _ rfl).1 (ht 4 _ _ rfl).2
    · rw [nrV_5.1, nrV_5.2]
      exact implNR_5 w (ht 5 _ _ rfl).1 (ht 5 _ _ rfl).2
    · rw [nrV_6.1, nrV_6.2]
      exact implNR_6 w (ht 6 _ _ rfl).1 (ht 6 _ _ rfl).2
    · rw [nrV_7.1, nrV_7.2]
      exact implNR_7 w (ht 7 _ _ rfl).1 (ht 7 _ _ rfl).2
    · rw [nrV_8.1, nrV_8.2]
      exact implNR_8 w (ht 8 _ _ rfl).1 (ht 8 _ _ rfl).2
    · rw [nrV_9.1, nrV_9.2]
      exact implNR_9 w (ht 9 _ _ rfl).1 (ht 9 _ _ rfl).2
/-- The bounds that a range has. -/
theorem nrV_bd (k : Int) : -9223372036854775808 ≤ (nrV k).1 ∧ (nrV k).1 ≤ 9223372036854775807 ∧ -9223372036854775808 ≤ (nrV k).2.1 ∧ (nrV k).2.1 ≤ 9223372036854775807 := by
  by_cases h : k < 3 ∨ 9 < k
  · rw [(nrV_out h).1]
    decide
  · have h2 : k = 3 ∨ k = 4 ∨ k = 5 ∨ k = 6 ∨ k = 7 ∨ k = 8 ∨ k = 9 := by omega
    rcases h2 with rfl | rfl | rfl | rfl | rfl | rfl | rfl
    · rw [nrV_3.1]
      decide
    · rw [nrV_4.1]
      decide
    · rw [nrV_5.1]
      decide
    · rw [nrV_6.1]
      decide
    · rw [nrV_7.1]
      decide
    · rw [nrV_8.1]
      decide
    · rw [nrV_9.1]
      decide
end Go.Proofs.YtifchfecfkdjlaaGreatDoor
