/-
  The walk of l02Text.
-/
import Derived.Test.YtfadodmkppeodabDoorDec
import Derived.Test.YtfadodmkppeodabDoorVAt
import Derived.Lib.LaidTab
namespace Go.Proofs.YtfadodmkppeodabDoor
open Go.ChangeShapes Go.WideShapes Go.ChangeAt Go.RowKit

set_option maxHeartbeats 1000000 in
theorem l02Text_any (n a b c : Int) (h0 : 0 ≤ n) (h1 : n ≤ 999999999) (ha : n / 1000000 = a) (hb : n / 1000 % 1000 = b) (hc : n % 1000 = c) (w : World) :
    Calls Tryd.prog 42 #[.int .i64 n] w fun e w' => e = .returned (.string (verB a b c)) ∧ Below w.heap.size w w' := by
  unfold verB
  have hA : 0 ≤ a ∧ a < 1000 := by omega
  have hB : 0 ≤ b ∧ b < 1000 := by omega
  have hC : 0 ≤ c ∧ c < 1000 := by omega
  have CA : Hid (∀ W : World, Calls Tryd.prog 52 #[.int .i64 a] W fun e w' => e = .returned (.string (decB a)) ∧ Below W.heap.size W w') := fun W => l02Dec_any a W hA.1 hA.2
  have CB : Hid (∀ W : World, Calls Tryd.prog 52 #[.int .i64 b] W fun e w' => e = .returned (.string (decB b)) ∧ Below W.heap.size W w') := fun W => l02Dec_any b W hB.1 hB.2
  have CC : Hid (∀ W : World, Calls Tryd.prog 52 #[.int .i64 c] W fun e w' => e = .returned (.string (decB c)) ∧ Below W.heap.size W w') := fun W => l02Dec_any c W hC.1 hC.2
  have sa := decB_size a hA.1 hA.2
  have sb := decB_size b hB.1 hB.2
  have sc := decB_size c hC.1 hC.2
  have q1 : n.tdiv 1000000 = a := by rw [Int.tdiv_eq_ediv_of_nonneg h0, ha]
  have q2 : n.tdiv 1000 = n / 1000 := Int.tdiv_eq_ediv_of_nonneg h0
  have q3 : (n / 1000).tmod 1000 = b := by rw [Int.tmod_eq_emod_of_nonneg (by omega), hb]
  have q4 : n.tmod 1000 = c := by rw [Int.tmod_eq_emod_of_nonneg h0, hc]
  have r1 : IntKind.i64.wrap a = a := by rw [IntKind.wrap_i64]; omega
  have r2 : IntKind.i64.wrap (n / 1000) = n / 1000 := by rw [IntKind.wrap_i64]; omega
  generalize decB a = A at *
  generalize decB b = B at *
  generalize decB c = C at *
  clear hA hB hC
  go_enter Tryd.func42, Tryd.ntmps42
  go_wp2_with fail
  go_at_call 52
  refine (CA.out _).mono ?_
  rintro e wx ⟨rfl, hba⟩
  go_wp2_with fail
  go_at_call 52
  refine (CB.out _).mono ?_
  rintro e wy ⟨rfl, hbb⟩
  go_wp2_with fail
  go_at_call 52
  refine (CC.out _).mono ?_
  rintro e wz ⟨rfl, hbc⟩
  go_wp2_with fail
  go_ret
  exact ⟨rfl, bchain (bchain hba hbb hba.size) hbc (bchain hba hbb hba.size).size⟩
end Go.Proofs.YtfadodmkppeodabDoor
