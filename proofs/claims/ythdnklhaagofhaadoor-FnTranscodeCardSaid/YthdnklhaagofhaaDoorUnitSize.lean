/-
  The walks of the program's codecOf and of both UnitSize. No condition.
-/
import Derived.Test.YthdnklhaagofhaaDoorEncOk
import Derived.Laws.EntriesVeiled
namespace Go.Proofs.YthdnklhaagofhaaDoor
open Go.ChangeShapes Go.WideShapes Go.ChangeAt Go.RowKit

def fnV (n : Nat) : Value := .func (.func n) #[] #[]
theorem codecField (u : Int) (f g : Value) (W : World) : (Instr.field 112 (.agg #[.int .i64 u, f, g]) 0).run Tryd.prog W = .ok (.int .i64 u) W := by
  simp [Instr.field, run_underlying Tryd.underlying112, go_sem, asAgg, Result.andThen]
/-- A codec's size, and its two functions. -/
def CodecPost (n : Int) (f g : Value) (w : World) (e : Ending) (w' : World) : Prop := e = .returned (.agg #[.int .i64 n, f, g]) ∧ Below w.heap.size w w'

set_option maxHeartbeats 1000000 in
theorem codecOf_1 (w : World) :
    Calls Tryd.prog 62 #[.int .i64 1] w (CodecPost 1 (fnV 96) (fnV 97) w) := by
  have C := Lib.hid (fun W => implEnc_yes 1 (by decide) (by decide) W)
  go_enter Tryd.func62, Tryd.ntmps62
  go_wp2_with fail
  go_at_call 61
  refine (C.out _).mono ?_
  rintro e w2 ⟨rfl, rfl⟩
  go_wp2_with fail
  exact bodyPost_ret (v := .agg #[.int .i64 1, .func (.func 96) #[] #[], .func (.func 97) #[] #[]]) (by simp [results, Tryd.results62, go_sem]) rfl ⟨rfl, below2 _ _ _⟩
theorem implUnit_1 (w : World) :
    Calls Tryd.prog 31 #[.int .i64 1] w fun e w' => e = .returned (.int .i64 1) ∧ Below w.heap.size w w' := by
  have C := Lib.hid (fun W => codecOf_1 W)
  unfold CodecPost fnV at C
  have HF := codecField 1 (.func (.func 96) #[] #[]) (.func (.func 97) #[] #[])
  go_enter Tryd.func31, Tryd.ntmps31
  go_wp2_with fail
  go_at_call 62
  refine (C.out _).mono ?_
  rintro e w2 ⟨rfl, hb⟩
  have HB := Lib.hid hb
  clear hb
  go_wp2_with fail
  go_ret
  exact ⟨rfl, HB.out⟩
set_option maxHeartbeats 1000000 in
theorem codecOf_2 (w : World) :
    Calls Tryd.prog 62 #[.int .i64 2] w (CodecPost 2 (fnV 98) (fnV 99) w) := by
  have C := Lib.hid (fun W => implEnc_yes 2 (by decide) (by decide) W)
  go_enter Tryd.func62, Tryd.ntmps62
  go_wp2_with fail
  go_at_call 61
  refine (C.out _).mono ?_
  rintro e w2 ⟨rfl, rfl⟩
  go_wp2_with fail
  exact bodyPost_ret (v := .agg #[.int .i64 2, .func (.func 98) #[] #[], .func (.func 99) #[] #[]]) (by simp [results, Tryd.results62, go_sem]) rfl ⟨rfl, below2 _ _ _⟩
theorem implUnit_2 (w : World) :
    Calls Tryd.prog 31 #[.int .i64 2] w fun e w' => e = .returned (.int .i64 2) ∧ Below w.heap.size w w' := by
  have C := Lib.hid (fun W => codecOf_2 W)
  unfold CodecPost fnV at C
  have HF := codecField 2 (.func (.func 98) #[] #[]) (.func (.func 99) #[] #[])
  go_enter Tryd.func31, Tryd.ntmps31
  go_wp2_with fail
  go_at_call 62
  refine (C.out _).mono ?_
  rintro e w2 ⟨rfl, hb⟩
  have HB := Lib.hid hb
  clear hb
  go_wp2_with fail
  go_ret
  exact ⟨rfl, HB.out⟩
set_option maxHeartbeats 1000000 in
theorem codecOf_3 (w : World) :
    Calls Tryd.prog 62 #[.int .i64 3] w (CodecPost 1 (fnV 100) (fnV 101) w) := by
  have C := Lib.hid (fun W => implEnc_yes 3 (by decide) (by decide) W)
  go_enter Tryd.func62, Tryd.ntmps62
  go_wp2_with fail
  go_at_call 61
  refine (C.out _).mono ?_
  rintro e w2 ⟨rfl, rfl⟩
  go_wp2_with fail
  exact bodyPost_ret (v := .agg #[.int .i64 1, .func (.func 100) #[] #[], .func (.func 101) #[] #[]]) (by simp [results, Tryd.results62, go_sem]) rfl ⟨rfl, below2 _ _ _⟩
theorem implUnit_3 (w : World) :
    Calls Tryd.prog 31 #[.int .i64 3] w fun e w' => e = .returned (.int .i64 1) ∧ Below w.heap.size w w' := by
  have C := Lib.hid (fun W => codecOf_3 W)
  unfold CodecPost fnV at C
  have HF := codecField 1 (.func (.func 100) #[] #[]) (.func (.func 101) #[] #[])
  go_enter Tryd.func31, Tryd.ntmps31
  go_wp2_with fail
  go_at_call 62
  refine (C.out _).mono ?_
  rintro e w2 ⟨rfl, hb⟩
  have HB := Lib.hid hb
  clear hb
  go_wp2_with fail
  go_ret
  exact ⟨rfl, HB.out⟩
set_option maxHeartbeats 1000000 in
theorem codecOf_no (n : Int) (h : n < 1 ∨ 3 < n) (w : World) :
    Calls Tryd.prog 62 #[.int .i64 n] w (CodecPost 0 .nilFunc .nilFunc w) := by
  have C := Lib.hid (fun W => implEnc_no n h W)
  clear h
  go_enter Tryd.func62, Tryd.ntmps62
  go_wp2_with fail
  go_at_call 61
  refine (C.out _).mono ?_
  rintro e w2 ⟨rfl, rfl⟩
  go_wp2_with fail
  exact bodyPost_ret (v := .agg #[.int .i64 0, .nilFunc, .nilFunc]) (by simp [results, Tryd.results62, go_sem]) rfl ⟨rfl, below2 _ _ _⟩
theorem implUnit_no (n : Int) (h : n < 1 ∨ 3 < n) (w : World) :
    Calls Tryd.prog 31 #[.int .i64 n] w fun e w' => e = .returned (.int .i64 0) ∧ Below w.heap.size w w' := by
  have C := Lib.hid (fun W => codecOf_no n h W)
  unfold CodecPost at C
  have HF := codecField 0 .nilFunc .nilFunc
  clear h
  go_enter Tryd.func31, Tryd.ntmps31
  go_wp2_with fail
  go_at_call 62
  refine (C.out _).mono ?_
  rintro e w2 ⟨rfl, hb⟩
  have HB := Lib.hid hb
  clear hb
  go_wp2_with fail
  go_ret
  exact ⟨rfl, HB.out⟩
end Go.Proofs.YthdnklhaagofhaaDoor
