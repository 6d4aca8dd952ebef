/-
  Walks of lebOf[uint64] and lebOf[int64]: ten bytes at most. No condition but that the number fits its kind.
-/
import Derived.Test.YtbjcldekapipaaaBase
import Derived.Test.YtbjcldekapipaaaLeb
namespace Go.Proofs.Ytbjcldekapipaaa
open Go.ChangeShapes Go.WideShapes Go.ChangeAt Go.RowKit

/-- The j-th byte of a form: zeros behind the last. -/
def pd (xs : List Int) (j : Nat) : Int := xs.getD j 0
theorem pd_nil (j : Nat) : pd [] j = 0 := by simp [pd]
theorem pd_at (xs : List Int) (v : Int) (j : Nat) : pd (xs ++ [v]) j = if j = xs.length then v else pd xs j := by
  unfold pd
  by_cases h : j < xs.length
  · rw [if_neg (by omega)]; simp [List.getElem?_append_left h]
  · by_cases h2 : j = xs.length
    · subst h2; simp
    · rw [if_neg h2]
      simp only [List.getD_eq_getElem?_getD]
      rw [List.getElem?_eq_none (by simp; omega), List.getElem?_eq_none (by omega)]

theorem endsUnsigned_yes (m : Int) (w : World) (h : m < 128) :
    Calls Try.prog 78 #[.int .u64 m] w fun e w' => e = .returned (.bool true) ∧ w = w' := by
  go_enter Try.func78, Try.ntmps78
  go_wp2
  go_ret
  exact ⟨rfl, rfl⟩
theorem endsUnsigned_no (m : Int) (w : World) (h : ¬ m < 128) :
    Calls Try.prog 78 #[.int .u64 m] w fun e w' => e = .returned (.bool false) ∧ w = w' := by
  go_enter Try.func78, Try.ntmps78
  go_wp2
  go_ret
  exact ⟨rfl, rfl⟩
/-- Ten cells of a block, told one by one. -/
def Ten (w : World) (b : Nat) (f : Nat → Int) : Prop := ∀ j, j < 10 → w.cell? ⟨b, j, none⟩ = some (.int .u8 (f j)) ∧ w.frozen? ⟨b, j, none⟩ = false
theorem Ten.new (w : World) (t : TypeId) : Ten (w.alloc (.cells #[.int .u8 0, .int .u8 0, .int .u8 0, .int .u8 0, .int .u8 0, .int .u8 0, .int .u8 0, .int .u8 0, .int .u8 0, .int .u8 0] t)) w.heap.size (pd []) := by
  intro j hj
  have h : j = 0 ∨ j = 1 ∨ j = 2 ∨ j = 3 ∨ j = 4 ∨ j = 5 ∨ j = 6 ∨ j = 7 ∨ j = 8 ∨ j = 9 := by omega
  rcases h with rfl | rfl | rfl | rfl | rfl | rfl | rfl | rfl | rfl | rfl <;> exact ⟨by simp [pd_nil], by go_simp⟩
end Go.Proofs.Ytbjcldekapipaaa
