/-
  Walks of both PutFix.
-/
import Derived.Test.YthdnklhaagofhaaFixMath
import Derived.Test.YthdnklhaagofhaaSpecPutLeb
import Derived.Test.YthdnklhaagofhaaLebOfU
import Derived.Test.YthdnklhaagofhaaIn
namespace Go.Proofs.Ythdnklhaagofhaa
open Go.ChangeShapes Go.WideShapes Go.ChangeAt Go.RowKit

/-- Eight cells of a block, told one by one. -/
def Eight (w : World) (b : Nat) (f : Nat → Int) : Prop := ∀ j, j < 8 → w.cell? ⟨b, j, none⟩ = some (.int .u8 (f j)) ∧ w.frozen? ⟨b, j, none⟩ = false
theorem Eight.new (w : World) (t : TypeId) : Eight (w.alloc (.cells #[.int .u8 0, .int .u8 0, .int .u8 0, .int .u8 0, .int .u8 0, .int .u8 0, .int .u8 0, .int .u8 0] t)) w.heap.size (pd []) := by
  intro j hj
  have h : j = 0 ∨ j = 1 ∨ j = 2 ∨ j = 3 ∨ j = 4 ∨ j = 5 ∨ j = 6 ∨ j = 7 := by omega
  rcases h with rfl | rfl | rfl | rfl | rfl | rfl | rfl | rfl <;> exact ⟨by simp [pd_nil], by go_simp⟩
theorem Eight.set {w : World} {b : Nat} {xs : List Int} (h : Eight w b (pd xs)) (k : Nat) (hk : xs.length = k) (hl : k < 8) (v : Int) : Eight (w.setCell ⟨b, k, none⟩ (.int .u8 v)) b (pd (xs ++ [v])) := by
  intro j hj
  obtain ⟨h1, h2⟩ := h j hj
  obtain ⟨k1, k2⟩ := h k hl
  rw [pd_at, hk]
  by_cases e : j = k
  · subst e
    exact ⟨by rw [if_pos rfl]; exact World.cell?_setCell_same w _ _ k1, by simpa using k2⟩
  · rw [if_neg e]
    have hne : (⟨b, k, none⟩ : Addr) ≠ ⟨b, j, none⟩ := fun he => e (congrArg Addr.off he).symm
    exact ⟨by rw [← h1]; exact World.cell?_setCell_other w _ _ _ hne, by simpa using h2⟩

theorem pow8 (k : Nat) : (2 : Int) ^ (8 * k) = 256 ^ k := by rw [Int.pow_mul]; rfl

set_option maxRecDepth 100000 in
set_option maxHeartbeats 1000000 in
theorem implPutFix_any (n : Int) (many : Nat) (w : World) (hm : many ≤ 8) (_hn0 : -9223372036854775808 ≤ n) (_hn1 : n ≤ 9223372036854775807) :
    Calls Try.prog 23 #[.int .i64 n, .int .i64 many] w fun e w' => e = .returned (.string (strOfNums (fixl n many))) ∧ Below w.heap.size w w' := by
  have hmi : (many : Int) ≤ 8 := by omega
  have hb0 : ¬ (many : Int) < 0 := by omega
  have hb1 : ¬ (8 : Int) < (many : Int) := by omega
  go_enter Try.func23, Try.ntmps23
  go_wp2_with fail
  go_loopw [13] (fun v wr => ∃ k : Nat, k ≤ 8 ∧ v = .int .i64 k ∧ Eight wr w.heap.size (pd (fixl n k)) ∧ Below w.heap.size w wr) (fun v _ => 8 - (intOf v).toNat)
  case atStart => exact ⟨0, by omega, rfl, Eight.new w _, below1 _ _⟩
  case round =>
    obtain ⟨k, hk, rfl, ht, hbel⟩ := hrel
    by_cases hlt : k < 8
    · have hki : (k : Int) < 8 := by omega
      obtain ⟨c1, c2⟩ := ht k hlt
      go_wp2_with fail
      go_roundw
      case rel => exact ⟨k + 1, by omega, by go_num, by rw [pow8]; exact ht.set k (fixl_length n k) hlt _, hbel.setCell (by simp) _⟩
      case measure => simp [intOf]; omega
    · obtain rfl : k = 8 := by omega
      have hcv := run_convert_bytes_arg (P := Try.prog) wr 22 5 Try.underlying22 Try.underlying5 w.heap.size 0 many 8 (fixl n many) (fixl_length n many) (fun i hi => by
        rw [Nat.zero_add, (ht i (by omega)).1, fixl_at n many i hi]; unfold pd; rw [fixl_at n 8 i (by omega)]) 9 Try.underlying9
      clear ht
      go_wp2_with fail
      go_ret
      exact ⟨rfl, hbel⟩

end Go.Proofs.Ythdnklhaagofhaa
