/-
  The walk of the program's nodeOf.
-/
import Derived.Test.YtlmmbheamicdaaaDoorTySound
import Derived.Test.YtlmmbheamicdaaaDoorTyAdd
namespace Go.Proofs.YtlmmbheamicdaaaDoor
open Go.ChangeShapes Go.WideShapes Go.ChangeAt Go.RowKit Go.Deep

theorem nodeOf_12 (n : ByteArray) (A B : Option Addr) (l m ca cb : Nat) (k : Int) (hk : k = 12 ∨ k = 13 ∨ k = 14 ∨ k = 15 ∨ k = 22 ∨ k = 23) (w : World) :
    Calls Tryd.prog 41 #[.agg #[.int .i64 k, .string n, .slice A l ca, .slice B m cb]] w fun e w' => e = .returned (.iface 78 (.agg #[.int .i64 k, .string n, .slice A l ca, .slice B m cb])) ∧ Below w.heap.size w w' := by
  rcases hk with rfl | rfl | rfl | rfl | rfl | rfl
  all_goals
    go_enter Tryd.func41, Tryd.ntmps41
    go_wp2
    go_ret
    exact ⟨rfl, below1 _ _⟩
theorem nodeOf_16 (n : ByteArray) (A B : Option Addr) (l m ca cb : Nat) (k : Int) (hk : k = 16 ∨ k = 17 ∨ k = 18 ∨ k = 19) (w : World) :
    Calls Tryd.prog 41 #[.agg #[.int .i64 k, .string n, .slice A l ca, .slice B m cb]] w fun e w' => e = .returned (.iface 79 (.agg #[.int .i64 k, .string n, .slice A l ca, .slice B m cb])) ∧ Below w.heap.size w w' := by
  rcases hk with rfl | rfl | rfl | rfl
  all_goals
    go_enter Tryd.func41, Tryd.ntmps41
    go_wp2
    go_ret
    exact ⟨rfl, below1 _ _⟩
theorem nodeOf_20 (n : ByteArray) (A B : Option Addr) (l m ca cb : Nat) (k : Int) (hk : k = 20 ∨ k = 21) (w : World) :
    Calls Tryd.prog 41 #[.agg #[.int .i64 k, .string n, .slice A l ca, .slice B m cb]] w fun e w' => e = .returned (.iface 80 (.agg #[.int .i64 k, .string n, .slice A l ca, .slice B m cb])) ∧ Below w.heap.size w w' := by
  rcases hk with rfl | rfl
  all_goals
    go_enter Tryd.func41, Tryd.ntmps41
    go_wp2
    go_ret
    exact ⟨rfl, below1 _ _⟩
theorem nodeOf_else (n : ByteArray) (A B : Option Addr) (l m ca cb : Nat) (k : Int) (hk : k < 12 ∨ 23 < k) (w : World) :
    Calls Tryd.prog 41 #[.agg #[.int .i64 k, .string n, .slice A l ca, .slice B m cb]] w fun e w' => e = .returned (.iface 81 (.agg #[.int .i64 k, .string n, .slice A l ca, .slice B m cb])) ∧ Below w.heap.size w w' := by
  have k12 : (k == 12) = false := by rw [beq_eq_false_iff_ne]; omega
  have k13 : (k == 13) = false := by rw [beq_eq_false_iff_ne]; omega
  have k14 : (k == 14) = false := by rw [beq_eq_false_iff_ne]; omega
  have k15 : (k == 15) = false := by rw [beq_eq_false_iff_ne]; omega
  have k16 : (k == 16) = false := by rw [beq_eq_false_iff_ne]; omega
  have k17 : (k == 17) = false := by rw [beq_eq_false_iff_ne]; omega
  have k18 : (k == 18) = false := by rw [beq_eq_false_iff_ne]; omega
  have k19 : (k == 19) = false := by rw [beq_eq_false_iff_ne]; omega
  have k20 : (k == 20) = false := by rw [beq_eq_false_iff_ne]; omega
  have k21 : (k == 21) = false := by rw [beq_eq_false_iff_ne]; omega
  have k22 : (k == 22) = false := by rw [beq_eq_false_iff_ne]; omega
  have k23 : (k == 23) = false := by rw [beq_eq_false_iff_ne]; omega
  clear hk
  go_enter Tryd.func41, Tryd.ntmps41
  go_wp2
  go_ret
  exact ⟨rfl, below1 _ _⟩

/-- What 'sound' means at each node (232: the machine's bound on the look for a method, as this program has it). -/
theorem method_angle (v : Value) (w : World) : (method 232 78 v "loop.example/g00901/impl.sound").run Tryd.prog w = .ok (90, v) w := by kernel_rfl
theorem method_label (v : Value) (w : World) : (method 232 79 v "loop.example/g00901/impl.sound").run Tryd.prog w = .ok (93, v) w := by kernel_rfl
theorem method_handle (v : Value) (w : World) : (method 232 80 v "loop.example/g00901/impl.sound").run Tryd.prog w = .ok (94, v) w := by kernel_rfl
theorem method_plain (v : Value) (w : World) : (method 232 81 v "loop.example/g00901/impl.sound").run Tryd.prog w = .ok (95, v) w := by kernel_rfl
end Go.Proofs.YtlmmbheamicdaaaDoor
