/-
  The walks of the program's codecOf and of both UnitSize. No condition.
-/
import Derived.Test.YtmnkkpahbmcekaaDoorEncOk
import Derived.Laws.EntriesVeiled
namespace Go.Proofs.YtmnkkpahbmcekaaDoor
open Go.ChangeShapes Go.WideShapes Go.ChangeAt Go.RowKit

def fnV (n : Nat) : Value := .func (.func n) #[] #[]
theorem codecField (u : Int) (f g : Value) (W : World) : (Instr.field 46 (.agg #[.int .i64 u, f, g]) 0).run Tryd.prog W = .ok (.int .i64 u) W := by
  simp [Instr.field, run_underlying Tryd.underlying46, go_sem, asAgg, Result.andThen]
/-- A codec's size, and its two functions. -/
def CodecPost (n : Int) (f g : Value) (w : World) (e : Ending) (w' : World) : Prop := e = .returned (.agg #[.int .i64 n, f, g]) ∧ Below w.heap.size w w'

set_option maxHeartbeats 1000000 in
theorem codecOf_1 (w : World) :
    Calls Tryd.prog 34 #[.int .i64 1] w (CodecPost 1 (fnV 42) (fnV 43) w) := by
  have C := Lib.hid (fun W => implEnc_yes 1 (by decide) (by decide) W)
  go_enter Tryd.func34, Tryd.ntmps34
  go_wp2_with fail
  go_at_call 33
  refine (C.out _).mono ?_
  rintro e w2 ⟨rfl, rfl⟩
  go_wp2_with fail
  exact bodyPost_ret (v := .agg #[.int .i64 1, .func (.func 42) #[] #[], .func (.func 43) #[] #[]]) (by simp [results, Tryd.results34, go_sem]) rfl ⟨rfl, below2 _ _ _⟩
theorem implUnit_1 (w : World) :
    Calls Tryd.prog 36 #[.int .i64 1] w fun e w' => e = .returned (.int .i64 1) ∧ Below w.heap.size w w' := by
  have C := Lib.hid (fun W => codecOf_1 W)
  unfold CodecPost fnV at C
  have HF := codecField 1 (.func (.func 42) #[] #[]) (.func (.func 43) #[] #[])
  go_enter Tryd.func36, Tryd.ntmps36
  go_wp2_with fail
  go_at_call 34
  refine (C.out _).mono ?_
  rintro e w2 ⟨rfl, hb⟩
  have HB := Lib.hid hb
  clear hb
  go_wp2_with fail
  go_ret
  exact ⟨rfl, HB.out⟩
theorem specUnit_1 (w : World) :
    Calls Tryd.prog 37 #[.int .i64 1] w fun e w' => e = .returned (.int .i64 1) ∧ Below w.heap.size w w' := by
  go_enter Tryd.func37, Tryd.ntmps37
  go_wp2_with fail
  go_ret
  exact ⟨rfl, Below.refl _ _⟩

set_option maxHeartbeats 1000000 in
theorem codecOf_2 (w : World) :
    Calls Tryd.prog 34 #[.int .i64 2] w (CodecPost 2 (fnV 44) (fnV 45) w) := by
  have C := Lib.hid (fun W => implEnc_yes 2 (by decide) (by decide) W)
  go_enter Tryd.func34, Tryd.ntmps34
  go_wp2_with fail
  go_at_call 33
  refine (C.out _).mono ?_
  rintro e w2 ⟨rfl, rfl⟩
  go_wp2_with fail
  exact bodyPost_ret (v := .agg #[.int .i64 2, .func (.func 44) #[] #[], .func (.func 45) #[] #[]]) (by simp [results, Tryd.results34, go_sem]) rfl ⟨rfl, below2 _ _ _⟩
theorem implUnit_2 (w : World) :
    Calls Tryd.prog 36 #[.int .i64 2] w fun e w' => e = .returned (.int .i64 2) ∧ Below w.heap.size w w' := by
  have C := Lib.hid (fun W => codecOf_2 W)
  unfold CodecPost fnV at C
  have HF := codecField 2 (.func (.func 44) #[] #[]) (.func (.func 45) #[] #[])
  go_enter Tryd.func36, Tryd.ntmps36
  go_wp2_with fail
  go_at_call 34
  refine (C.out _).mono ?_
  rintro e w2 ⟨rfl, hb⟩
  have HB := Lib.hid hb
  clear hb
  go_wp2_with fail
  go_ret
  exact ⟨rfl, HB.out⟩
theorem specUnit_2 (w : World) :
    Calls Tryd.prog 37 #[.int .i64 2] w fun e w' => e = .returned (.int .i64 2) ∧ Below w.heap.size w w' := by
  go_enter Tryd.func37, Tryd.ntmps37
  go_wp2_with fail
  go_ret
  exact ⟨rfl, Below.refl _ _⟩

set_option maxHeartbeats 1000000 in
theorem codecOf_3 (w : World) :
    Calls Tryd.prog 34 #[.int .i64 3] w (CodecPost 1 (fnV 46) (fnV 47) w) := by
  have C := Lib.hid (fun W => implEnc_yes 3 (by decide) (by decide) W)
  go_enter Tryd.func34, Tryd.ntmps34
  go_wp2_with fail
  go_at_call 33
  refine (C.out _).mono ?_
  rintro e w2 ⟨rfl, rfl⟩
  go_wp2_with fail
  exact bodyPost_ret (v := .agg #[.int .i64 1, .func (.func 46) #[] #[], .func (.func 47) #[] #[]]) (by simp [results, Tryd.results34, go_sem]) rfl ⟨rfl, below2 _ _ _⟩
theorem implUnit_3 (w : World) :
    Calls Tryd.prog 36 #[.int .i64 3] w fun e w' => e = .returned (.int .i64 1) ∧ Below w.heap.size w w' := by
  have C := Lib.hid (fun W => codecOf_3 W)
  unfold CodecPost fnV at C
  have HF := codecField 1 (.func (.func 46) #[] #[]) (.func (.func 47) #[] #[])
  go_enter Tryd.func36, Tryd.ntmps36
  go_wp2_with fail
  go_at_call 34
  refine (C.out _).mono ?_
  rintro e w2 ⟨rfl, hb⟩
  have HB := Lib.hid hb
  clear hb
  go_wp2_with fail
  go_ret
  exact ⟨rfl, HB.out⟩
theorem specUnit_3 (w : World) :
    Calls Tryd.prog 37 #[.int .i64 3] w fun e w' => e = .returned (.int .i64 1) ∧ Below w.heap.size w w' := by
  go_enter Tryd.func37, Tryd.ntmps37
  go_wp2_with fail
  go_ret
  exact ⟨rfl, Below.refl _ _⟩

set_option maxHeartbeats 1000000 in
theorem codecOf_no (n : Int) (h : n < 1 ∨ 3 < n) (w : World) :
    Calls Tryd.prog 34 #[.int .i64 n] w (CodecPost 0 .nilFunc .nilFunc w) := by
  have C := Lib.hid (fun W => implEnc_no n h W)
  clear h
  go_enter Tryd.func34, Tryd.ntmps34
  go_wp2_with fail
  go_at_call 33
  refine (C.out _).mono ?_
  rintro e w2 ⟨rfl, rfl⟩
  go_wp2_with fail
  exact bodyPost_ret (v := .agg #[.int .i64 0, .nilFunc, .nilFunc]) (by simp [results, Tryd.results34, go_sem]) rfl ⟨rfl, below2 _ _ _⟩
theorem implUnit_no (n : Int) (h : n < 1 ∨ 3 < n) (w : World) :
    Calls Tryd.prog 36 #[.int .i64 n] w fun e w' => e = .returned (.int .i64 0) ∧ Below w.heap.size w w' := by
  have C := Lib.hid (fun W => codecOf_no n h W)
  unfold CodecPost at C
  have HF := codecField 0 .nilFunc .nilFunc
  clear h
  go_enter Tryd.func36, Tryd.ntmps36
  go_wp2_with fail
  go_at_call 34
  refine (C.out _).mono ?_
  rintro e w2 ⟨rfl, hb⟩
  have HB := Lib.hid hb
  clear hb
  go_wp2_with fail
  go_ret
  exact ⟨rfl, HB.out⟩
theorem specUnit_no (n : Int) (h : n < 1 ∨ 3 < n) (w : World) :
    Calls Tryd.prog 37 #[.int .i64 n] w fun e w' => e = .returned (.int .i64 0) ∧ Below w.heap.size w w' := by
  have h1 : (n == 1) = false := by rw [beq_eq_false_iff_ne]; omega
  have h2 : (n == 2) = false := by rw [beq_eq_false_iff_ne]; omega
  have h3 : (n == 3) = false := by rw [beq_eq_false_iff_ne]; omega
  clear h
  go_enter Tryd.func37, Tryd.ntmps37
  go_wp2_with fail
  go_ret
  exact ⟨rfl, Below.refl _ _⟩
theorem unit_both (n : Int) : ∃ u : Int, (∀ w : World, Calls Tryd.prog 37 #[.int .i64 n] w fun e w' => e = .returned (.int .i64 u) ∧ Below w.heap.size w w') ∧
    (∀ w : World, Calls Tryd.prog 36 #[.int .i64 n] w fun e w' => e = .returned (.int .i64 u) ∧ Below w.heap.size w w') := by
  by_cases h : n < 1 ∨ 3 < n
  · exact ⟨0, fun w => specUnit_no n h w, fun w => implUnit_no n h w⟩
  · have h2 : n = 1 ∨ n = 2 ∨ n = 3 := by omega
    rcases h2 with rfl | rfl | rfl
    · exact ⟨1, specUnit_1, implUnit_1⟩
    · exact ⟨2, specUnit_2, implUnit_2⟩
    · exact ⟨1, specUnit_3, implUnit_3⟩
end Go.Proofs.YtmnkkpahbmcekaaDoor
