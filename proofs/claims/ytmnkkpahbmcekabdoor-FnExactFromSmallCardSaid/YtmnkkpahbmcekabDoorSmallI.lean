/-
  The program's numbers modulo 2 to the 32; whether one is in that range. No condition.
-/
import Derived.Test.YtmnkkpahbmcekabDoorBase
import Derived.Laws.BitsLemmas
namespace Go.Proofs.YtmnkkpahbmcekabDoor
open Go.ChangeShapes Go.WideShapes Go.ChangeAt Go.RowKit

theorem implSmall_any (n : Int) (w : World) :
    Calls Tryd.prog 38 #[.int .i64 n] w fun e w' => e = .returned (.int .i64 (n % 4294967296)) ∧ w = w' := by
  obtain ⟨r, hr⟩ : ∃ r, n % 4294967296 = r := ⟨_, rfl⟩
  have e1 : IntKind.u32.wrap n = r := by rw [IntKind.wrap_u32]; exact hr
  have e2 : IntKind.i64.wrap r = r := by rw [IntKind.wrap_i64]; omega
  rw [hr]
  clear hr
  go_enter Tryd.func38, Tryd.ntmps38
  go_wp2
  go_ret
  exact ⟨rfl, rfl⟩
theorem isSmall_yes (n : Int) (h0 : 0 ≤ n) (h1 : n ≤ 4294967295) (w : World) :
    Calls Tryd.prog 19 #[.int .i64 n] w fun e w' => e = .returned (.bool true) ∧ w = w' := by
  have C := implSmall_any n
  rw [show n % 4294967296 = n by omega] at C
  have C := Lib.hid C
  clear h0 h1
  go_enter Tryd.func19, Tryd.ntmps19
  go_wp2_with (go_at_call 38; refine (C.out _).mono ?_; rintro e w' ⟨rfl, rfl⟩)
  go_ret
  exact ⟨rfl, rfl⟩
theorem isSmall_no (n : Int) (h : n < 0 ∨ 4294967295 < n) (w : World) :
    Calls Tryd.prog 19 #[.int .i64 n] w fun e w' => e = .returned (.bool false) ∧ w = w' := by
  have C := implSmall_any n
  obtain ⟨r, hr⟩ : ∃ r, n % 4294967296 = r := ⟨_, rfl⟩
  have e1 : (n == r) = false := by rw [beq_eq_false_iff_ne]; omega
  rw [hr] at C
  have C := Lib.hid C
  clear h hr
  go_enter Tryd.func19, Tryd.ntmps19
  go_wp2_with (go_at_call 38; refine (C.out _).mono ?_; rintro e w' ⟨rfl, rfl⟩)
  go_ret
  exact ⟨by first | rfl | exact ret_bool e1 | simp_all, rfl⟩
end Go.Proofs.YtmnkkpahbmcekabDoor
