/-
  The walk of the program's typePairing.check: the method that goes with a kind.
-/
import Derived.Test.YtifchfecfkdjlaaGreatDoorMG
namespace Go.Proofs.YtifchfecfkdjlaaGreatDoor
open Go.ChangeShapes Go.WideShapes Go.ChangeAt Go.RowKit Go.Deep

set_option maxRecDepth 100000 in
theorem check_12 (a b : Ty) (hk : b.kind = 12) (A B A' B' : Option Addr) (ca cb ca' cb' : Nat) (w : World) :
    Calls Tryz.prog 51 #[.agg #[.int .i64 a.kind, .string a.name, .slice A a.labels.length ca, .slice B a.kids.length cb, .int .i64 b.kind, .string b.name, .slice A' b.labels.length ca', .slice B' b.kids.length cb']] w fun e w' => e = .returned (.func (.func 69) #[.agg #[.int .i64 a.kind, .string a.name, .slice A a.labels.length ca, .slice B a.kids.length cb, .int .i64 b.kind, .string b.name, .slice A' b.labels.length ca', .slice B' b.kids.length cb']] #[]) ∧ Below w.heap.size w w' := by
  have hmf : ∀ (fn : Fn) (first cap : Array Value) (w : World), (Instr.makeFunc fn first cap).run Tryz.prog w = .ok (.func fn first cap) w := fun _ _ _ _ => rfl
  have e12 : (b.kind == 12) = true := by rw [beq_iff_eq]; omega
  clear hk
  go_enter Tryz.func51, Tryz.ntmps51
  go_wp2_with fail
  go_ret
  exact ⟨rfl, below1 _ _⟩
set_option maxRecDepth 100000 in
theorem check_13 (a b : Ty) (hk : b.kind = 13) (A B A' B' : Option Addr) (ca cb ca' cb' : Nat) (w : World) :
    Calls Tryz.prog 51 #[.agg #[.int .i64 a.kind, .string a.name, .slice A a.labels.length ca, .slice B a.kids.length cb, .int .i64 b.kind, .string b.name, .slice A' b.labels.length ca', .slice B' b.kids.length cb']] w fun e w' => e = .returned (.func (.func 70) #[.agg #[.int .i64 a.kind, .string a.name, .slice A a.labels.length ca, .slice B a.kids.length cb, .int .i64 b.kind, .string b.name, .slice A' b.labels.length ca', .slice B' b.kids.length cb']] #[]) ∧ Below w.heap.size w w' := by
  have hmf : ∀ (fn : Fn) (first cap : Array Value) (w : World), (Instr.makeFunc fn first cap).run Tryz.prog w = .ok (.func fn first cap) w := fun _ _ _ _ => rfl
  have e12 : (b.kind == 12) = false := by rw [beq_eq_false_iff_ne]; omega
  have e13 : (b.kind == 13) = true := by rw [beq_iff_eq]; omega
  clear hk
  go_enter Tryz.func51, Tryz.ntmps51
  go_wp2_with fail
  go_ret
  exact ⟨rfl, below1 _ _⟩
set_option maxRecDepth 100000 in
theorem check_14 (a b : Ty) (hk : b.kind = 14) (A B A' B' : Option Addr) (ca cb ca' cb' : Nat) (w : World) :
    Calls Tryz.prog 51 #[.agg #[.int .i64 a.kind, .string a.name, .slice A a.labels.length ca, .slice B a.kids.length cb, .int .i64 b.kind, .string b.name, .slice A' b.labels.length ca', .slice B' b.kids.length cb']] w fun e w' => e = .returned (.func (.func 71) #[.agg #[.int .i64 a.kind, .string a.name, .slice A a.labels.length ca, .slice B a.kids.length cb, .int .i64 b.kind, .string b.name, .slice A' b.labels.length ca', .slice B' b.kids.length cb']] #[]) ∧ Below w.heap.size w w' := by
  have hmf : ∀ (fn : Fn) (first cap : Array Value) (w : World), (Instr.makeFunc fn first cap).run Tryz.prog w = .ok (.func fn first cap) w := fun _ _ _ _ => rfl
  have e12 : (b.kind == 12) = false := by rw [beq_eq_false_iff_ne]; omega
  have e13 : (b.kind == 13) = false := by rw [beq_eq_false_iff_ne]; omega
  have e14 : (b.kind == 14) = true := by rw [beq_iff_eq]; omega
  clear hk
  go_enter Tryz.func51, Tryz.ntmps51
  go_wp2_with fail
  go_ret
  exact ⟨rfl, below1 _ _⟩
set_option maxRecDepth 100000 in
theorem check_15 (a b : Ty) (hk : b.kind = 15) (A B A' B' : Option Addr) (ca cb ca' cb' : Nat) (w : World) :
    Calls Tryz.prog 51 #[.agg #[.int .i64 a.kind, .string a.name, .slice A a.labels.length ca, .slice B a.kids.length cb, .int .i64 b.kind, .string b.name, .slice A' b.labels.length ca', .slice B' b.kids.length cb']] w fun e w' => e = .returned (.func (.func 72) #[.agg #[.int .i64 a.kind, .string a.name, .slice A a.labels.length ca, .slice B a.kids.length cb, .int .i64 b.kind, .string b.name, .slice A' b.labels.length ca', .slice B' b.kids.length cb']] #[]) ∧ Below w.heap.size w w' := by
  have hmf : ∀ (fn : Fn) (first cap : Array Value) (w : World), (Instr.makeFunc fn first cap).run Tryz.prog w = .ok (.func fn first cap) w := fun _ _ _ _ => rfl
  have e12 : (b.kind == 12) = false := by rw [beq_eq_false_iff_ne]; omega
  have e13 : (b.kind == 13) = false := by rw [beq_eq_false_iff_ne]; omega
  have e14 : (b.kind == 14) = false := by rw [beq_eq_false_iff_ne]; omega
  have e15 : (b.kind == 15) = true := by rw [beq_iff_eq]; omega
  clear hk
  go_enter Tryz.func51, Tryz.ntmps51
  go_wp2_with fail
  go_ret
  exact ⟨rfl, below1 _ _⟩
set_option maxRecDepth 100000 in
theorem check_16 (a b : Ty) (hk : b.kind = 16) (A B A' B' : Option Addr) (ca cb ca' cb' : Nat) (w : World) :
    Calls Tryz.prog 51 #[.agg #[.int .i64 a.kind, .string a.name, .slice A a.labels.length ca, .slice B a.kids.length cb, .int .i64 b.kind, .string b.name, .slice A' b.labels.length ca', .slice B' b.kids.length cb']] w fun e w' => e = .returned (.func (.func 73) #[.agg #[.int .i64 a.kind, .string a.name, .slice A a.labels.length ca, .slice B a.kids.length cb, .int .i64 b.kind, .string b.name, .slice A' b.labels.length ca', .slice B' b.kids.length cb']] #[]) ∧ Below w.heap.size w w' := by
  have hmf : ∀ (fn : Fn) (first cap : Array Value) (w : World), (Instr.makeFunc fn first cap).run Tryz.prog w = .ok (.func fn first cap) w := fun _ _ _ _ => rfl
  have e12 : (b.kind == 12) = false := by rw [beq_eq_false_iff_ne]; omega
  have e13 : (b.kind == 13) = false := by rw [beq_eq_false_iff_ne]; omega
  have e14 : (b.kind == 14) = false := by rw [beq_eq_false_iff_ne]; omega
  have e15 : (b.kind == 15) = false := by rw [beq_eq_false_iff_ne]; omega
  have e16 : (b.kind == 16) = true := by rw [beq_iff_eq]; omega
  clear hk
  go_enter Tryz.func51, Tryz.ntmps51
  go_wp2_with fail
  go_ret
  exact ⟨rfl, below1 _ _⟩
set_option maxRecDepth 100000 in
theorem check_17 (a b : Ty) (hk : b.kind = 17) (A B A' B' : Option Addr) (ca cb ca' cb' : Nat) (w : World) :
    Calls Tryz.prog 51 #[.agg #[.int .i64 a.kind, .string a.name, .slice A a.labels.length ca, .slice B a.kids.length cb, .int .i64 b.kind, .string b.name, .slice A' b.labels.length ca', .slice B' b.kids.length cb']] w fun e w' => e = .returned (.func (.func 74) #[.agg #[.int .i64 a.kind, .string a.name, .slice A a.labels.length ca, .slice B a.kids.length cb, .int .i64 b.kind, .string b.name, .slice A' b.labels.length ca', .slice B' b.kids.length cb']] #[]) ∧ Below w.heap.size w w' := by
  have hmf : ∀ (fn : Fn) (first cap : Array Value) (w : World), (Instr.makeFunc fn first cap).run Tryz.prog w = .ok (.func fn first cap) w := fun _ _ _ _ => rfl
  have e12 : (b.kind == 12) = false := by rw [beq_eq_false_iff_ne]; omega
  have e13 : (b.kind == 13) = false := by rw [beq_eq_false_iff_ne]; omega
  have e14 : (b.kind == 14) = false := by rw [beq_eq_false_iff_ne]; omega
  have e15 : (b.kind == 15) = false := by rw [beq_eq_false_iff_ne]; omega
  have e16 : (b.kind == 16) = false := by rw [beq_eq_false_iff_ne]; omega
  have e17 : (b.kind == 17) = true := by rw [beq_iff_eq]; omega
  clear hk
  go_enter Tryz.func51, Tryz.ntmps51
  go_wp2_with fail
  go_ret
  exact ⟨rfl, below1 _ _⟩
set_option maxRecDepth 100000 in
theorem check_18 (a b : Ty) (hk : b.kind = 18) (A B A' B' : Option Addr) (ca cb ca' cb' : Nat) (w : World) :
    Calls Tryz.prog 51 #[.agg #[.int .i64 a.kind, .string a.name, .slice A a.labels.length ca, .slice B a.kids.length cb, .int .i64 b.kind, .string b.name, .slice A' b.labels.length ca', .slice B' b.kids.length cb']] w fun e w' => e = .returned (.func (.func 74) #[.agg #[.int .i64 a.kind, .string a.name, .slice A a.labels.length ca, .slice B a.kids.length cb, .int .i64 b.kind, .string b.name, .slice A' b.labels.length ca', .slice B' b.kids.length cb']] #[]) ∧ Below w.heap.size w w' := by
  have hmf : ∀ (fn : Fn) (first cap : Array Value) (w : World), (Instr.makeFunc fn first cap).run Tryz.prog w = .ok (.func fn first cap) w := fun _ _ _ _ => rfl
  have e12 : (b.kind == 12) = false := by rw [beq_eq_false_iff_ne]; omega
  have e13 : (b.kind == 13) = false := by rw [beq_eq_false_iff_ne]; omega
  have e14 : (b.kind == 14) = false := by rw [beq_eq_false_iff_ne]; omega
  have e15 : (b.kind == 15) = false := by rw [beq_eq_false_iff_ne]; omega
  have e16 : (b.kind == 16) = false := by rw [beq_eq_false_iff_ne]; omega
  have e17 : (b.kind == 17) = false := by rw [beq_eq_false_iff_ne]; omega
  have e18 : (b.kind == 18) = true := by rw [beq_iff_eq]; omega
  clear hk
  go_enter Tryz.func51, Tryz.ntmps51
  go_wp2_with fail
  go_ret
  exact ⟨rfl, below1 _ _⟩
set_option maxRecDepth 100000 in
theorem check_19 (a b : Ty) (hk : b.kind = 19) (A B A' B' : Option Addr) (ca cb ca' cb' : Nat) (w : World) :
    Calls Tryz.prog 51 #[.agg #[.int .i64 a.kind, .string a.name, .slice A a.labels.length ca, .slice B a.kids.length cb, .int .i64 b.kind, .string b.name, .slice A' b.labels.length ca', .slice B' b.kids.length cb']] w fun e w' => e = .returned (.func (.func 74) #[.agg #[.int .i64 a.kind, .string a.name, .slice A a.labels.length ca, .slice B a.kids.length cb, .int .i64 b.kind, .string b.name, .slice A' b.labels.length ca', .slice B' b.kids.length cb']] #[]) ∧ Below w.heap.size w w' := by
  have hmf : ∀ (fn : Fn) (first cap : Array Value) (w : World), (Instr.makeFunc fn first cap).run Tryz.prog w = .ok (.func fn first cap) w := fun _ _ _ _ => rfl
  have e12 : (b.kind == 12) = false := by rw [beq_eq_false_iff_ne]; omega
  have e13 : (b.kind == 13) = false := by rw [beq_eq_false_iff_ne]; omega
  have e14 : (b.kind == 14) = false := by rw [beq_eq_false_iff_ne]; omega
  have e15 : (b.kind == 15) = false := by rw [beq_eq_false_iff_ne]; omega
  have e16 : (b.kind == 16) = false := by rw [beq_eq_false_iff_ne]; omega
  have e17 : (b.kind == 17) = false := by rw [beq_eq_false_iff_ne]; omega
  have e18 : (b.kind == 18) = false := by rw [beq_eq_false_iff_ne]; omega
  have e19 : (b.kind == 19) = true := by rw [beq_iff_eq]; omega
  clear hk
  go_enter Tryz.func51, Tryz.ntmps51
  go_wp2_with fail
  go_ret
  exact ⟨rfl, below1 _ _⟩
set_option maxRecDepth 100000 in
theorem check_20 (a b : Ty) (hk : b.kind = 20) (A B A' B' : Option Addr) (ca cb ca' cb' : Nat) (w : World) :
    Calls Tryz.prog 51 #[.agg #[.int .i64 a.kind, .string a.name, .slice A a.labels.length ca, .slice B a.kids.length cb, .int .i64 b.kind, .string b.name, .slice A' b.labels.length ca', .slice B' b.kids.length cb']] w fun e w' => e = .returned (.func (.func 75) #[.agg #[.int .i64 a.kind, .string a.name, .slice A a.labels.length ca, .slice B a.kids.length cb, .int .i64 b.kind, .string b.name, .slice A' b.labels.length ca', .slice B' b.kids.length cb']] #[]) ∧ Below w.heap.size w w' := by
  have hmf : ∀ (fn : Fn) (first cap : Array Value) (w : World), (Instr.makeFunc fn first cap).run Tryz.prog w = .ok (.func fn first cap) w := fun _ _ _ _ => rfl
  have e12 : (b.kind == 12) = false := by rw [beq_eq_false_iff_ne]; omega
  have e13 : (b.kind == 13) = false := by rw [beq_eq_false_iff_ne]; omega
  have e14 : (b.kind == 14) = false := by rw [beq_eq_false_iff_ne]; omega
  have e15 : (b.kind == 15) = false := by rw [beq_eq_false_iff_ne]; omega
  have e16 : (b.kind == 16) = false := by rw [beq_eq_false_iff_ne]; omega
  have e17 : (b.kind == 17) = false := by rw [beq_eq_false_iff_ne]; omega
  have e18 : (b.kind == 18) = false := by rw [beq_eq_false_iff_ne]; omega
  have e19 : (b.kind == 19) = false := by rw [beq_eq_false_iff_ne]; omega
  have e20 : (b.kind == 20) = true := by rw [beq_iff_eq]; omega
  clear hk
  go_enter Tryz.func51, Tryz.ntmps51
  go_wp2_with fail
  go_ret
  exact ⟨rfl, below1 _ _⟩
set_option maxRecDepth 100000 in
theorem check_21 (a b : Ty) (hk : b.kind = 21) (A B A' B' : Option Addr) (ca cb ca' cb' : Nat) (w : World) :
    Calls Tryz.prog 51 #[.agg #[.int .i64 a.kind, .string a.name, .slice A a.labels.length ca, .slice B a.kids.length cb, .int .i64 b.kind, .string b.name, .slice A' b.labels.length ca', .slice B' b.kids.length cb']] w fun e w' => e = .returned (.func (.func 75) #[.agg #[.int .i64 a.kind, .string a.name, .slice A a.labels.length ca, .slice B a.kids.length cb, .int .i64 b.kind, .string b.name, .slice A' b.labels.length ca', .slice B' b.kids.length cb']] #[]) ∧ Below w.heap.size w w' := by
  have hmf : ∀ (fn : Fn) (first cap : Array Value) (w : World), (Instr.makeFunc fn first cap).run Tryz.prog w = .ok (.func fn first cap) w := fun _ _ _ _ => rfl
  have e12 : (b.kind == 12) = false := by rw [beq_eq_false_iff_ne]; omega
  have e13 : (b.kind == 13) = false := by rw [beq_eq_false_iff_ne]; omega
  have e14 : (b.kind == 14) = false := by rw [beq_eq_false_iff_ne]; omega
  have e15 : (b.kind == 15) = false := by rw [beq_eq_false_iff_ne]; omega
  have e16 : (b.kind == 16) = false := by rw [beq_eq_false_iff_ne]; omega
  have e17 : (b.kind == 17) = false := by rw [beq_eq_false_iff_ne]; omega
  have e18 : (b.kind == 18) = false := by rw [beq_eq_false_iff_ne]; omega
  have e19 : (b.kind == 19) = false := by rw [beq_eq_false_iff_ne]; omega
  have e20 : (b.kind == 20) = false := by rw [beq_eq_false_iff_ne]; omega
  have e21 : (b.kind == 21) = true := by rw [beq_iff_eq]; omega
  clear hk
  go_enter Tryz.func51, Tryz.ntmps51
  go_wp2_with fail
  go_ret
  exact ⟨rfl, below1 _ _⟩
set_option maxRecDepth 100000 in
theorem check_22 (a b : Ty) (hk : b.kind = 22) (A B A' B' : Option Addr) (ca cb ca' cb' : Nat) (w : World) :
    Calls Tryz.prog 51 #[.agg #[.int .i64 a.kind, .string a.name, .slice A a.labels.length ca, .slice B a.kids.length cb, .int .i64 b.kind, .string b.name, .slice A' b.labels.length ca', .slice B' b.kids.length cb']] w fun e w' => e = .returned (.func (.func 76) #[.agg #[.int .i64 a.kind, .string a.name, .slice A a.labels.length ca, .slice B a.kids.length cb, .int .i64 b.kind, .string b.name, .slice A' b.labels.length ca', .slice B' b.kids.length cb']] #[]) ∧ Below w.heap.size w w' := by
  have hmf : ∀ (fn : Fn) (first cap : Array Value) (w : World), (Instr.makeFunc fn first cap).run Tryz.prog w = .ok (.func fn first cap) w := fun _ _ _ _ => rfl
  have e12 : (b.kind == 12) = false := by rw [beq_eq_false_iff_ne]; omega
  have e13 : (b.kind == 13) = false := by rw [beq_eq_false_iff_ne]; omega
  have e14 : (b.kind == 14) = false := by rw [beq_eq_false_iff_ne]; omega
  have e15 : (b.kind == 15) = false := by rw [beq_eq_false_iff_ne]; omega
  have e16 : (b.kind == 16) = false := by rw [beq_eq_false_iff_ne]; omega
  have e17 : (b.kind == 17) = false := by rw [beq_eq_false_iff_ne]; omega
  have e18 : (b.kind == 18) = false := by rw [beq_eq_false_iff_ne]; omega
  have e19 : (b.kind == 19) = false := by rw [beq_eq_false_iff_ne]; omega
  have e20 : (b.kind == 20) = false := by rw [beq_eq_false_iff_ne]; omega
  have e21 : (b.kind == 21) = false := by rw [beq_eq_false_iff_ne]; omega
  have e22 : (b.kind == 22) = true := by rw [beq_iff_eq]; omega
  clear hk
  go_enter Tryz.func51, Tryz.ntmps51
  go_wp2_with fail
  go_ret
  exact ⟨rfl, below1 _ _⟩
set_option maxRecDepth 100000 in
theorem check_23 (a b : Ty) (hk : b.kind = 23) (A B A' B' : Option Addr) (ca cb ca' cb' : Nat) (w : World) :
    Calls Tryz.prog 51 #[.agg #[.int .i64 a.kind, .string a.name, .slice A a.labels.length ca, .slice B a.kids.length cb, .int .i64 b.kind, .string b.name, .slice A' b.labels.length ca', .slice B' b.kids.length cb']] w fun e w' => e = .returned (.func (.func 76) #[.agg #[.int .i64 a.kind, .string a.name, .slice A a.labels.length ca, .slice B a.kids.length cb, .int .i64 b.kind, .string b.name, .slice A' b.labels.length ca', .slice B' b.kids.length cb']] #[]) ∧ Below w.heap.size w w' := by
  have hmf : ∀ (fn : Fn) (first cap : Array Value) (w : World), (Instr.makeFunc fn first cap).run Tryz.prog w = .ok (.func fn first cap) w := fun _ _ _ _ => rfl
  have e12 : (b.kind == 12) = false := by rw [beq_eq_false_iff_ne]; omega
  have e13 : (b.kind == 13) = false := by rw [beq_eq_false_iff_ne]; omega
  have e14 : (b.kind == 14) = false := by rw [beq_eq_false_iff_ne]; omega
  have e15 : (b.kind == 15) = false := by rw [beq_eq_false_iff_ne]; omega
  have e16 : (b.kind == 16) = false := by rw [beq_eq_false_iff_ne]; omega
  have e17 : (b.kind == 17) = false := by rw [beq_eq_false_iff_ne]; omega
  have e18 : (b.kind == 18) = false := by rw [beq_eq_false_iff_ne]; omega
  have e19 : (b.kind == 19) = false := by rw [beq_eq_false_iff_ne]; omega
  have e20 : (b.kind == 20) = false := by rw [beq_eq_false_iff_ne]; omega
  have e21 : (b.kind == 21) = false := by rw [beq_eq_false_iff_ne]; omega
  have e22 : (b.kind == 22) = false := by rw [beq_eq_false_iff_ne]; omega
  have e23 : (b.kind == 23) = true := by rw [beq_iff_eq]; omega
  clear hk
  go_enter Tryz.func51, Tryz.ntmps51
  go_wp2_with fail
  go_ret
  exact ⟨rfl, below1 _ _⟩
set_option maxRecDepth 100000 in
theorem check_no (a b : Ty) (hk : b.kind < 12 ∨ 23 < b.kind) (A B A' B' : Option Addr) (ca cb ca' cb' : Nat) (w : World) :
    Calls Tryz.prog 51 #[.agg #[.int .i64 a.kind, .string a.name, .slice A a.labels.length ca, .slice B a.kids.length cb, .int .i64 b.kind, .string b.name, .slice A' b.labels.length ca', .slice B' b.kids.length cb']] w fun e w' => e = .returned (.func (.func 77) #[.agg #[.int .i64 a.kind, .string a.name, .slice A a.labels.length ca, .slice B a.kids.length cb, .int .i64 b.kind, .string b.name, .slice A' b.labels.length ca', .slice B' b.kids.length cb']] #[]) ∧ Below w.heap.size w w' := by
  have hmf : ∀ (fn : Fn) (first cap : Array Value) (w : World), (Instr.makeFunc fn first cap).run Tryz.prog w = .ok (.func fn first cap) w := fun _ _ _ _ => rfl
  have e12 : (b.kind == 12) = false := by rw [beq_eq_false_iff_ne]; omega
  have e13 : (b.kind == 13) = false := by rw [beq_eq_false_iff_ne]; omega
  have e14 : (b.kind == 14) = false := by rw [beq_eq_false_iff_ne]; omega
  have e15 : (b.kind == 15) = false := by rw [beq_eq_false_iff_ne]; omega
  have e16 : (b.kind == 16) = false := by rw [beq_eq_false_iff_ne]; omega
  have e17 : (b.kind == 17) = false := by rw [beq_eq_false_iff_ne]; omega
  have e18 : (b.kind == 18) = false := by rw [beq_eq_false_iff_ne]; omega
  have e19 : (b.kind == 19) = false := by rw [beq_eq_false_iff_ne]; omega
  have e20 : (b.kind == 20) = false := by rw [beq_eq_false_iff_ne]; omega
  have e21 : (b.kind == 21) = false := by rw [beq_eq_false_iff_ne]; omega
  have e22 : (b.kind == 22) = false := by rw [beq_eq_false_iff_ne]; omega
  have e23 : (b.kind == 23) = false := by rw [beq_eq_false_iff_ne]; omega
  clear hk
  go_enter Tryz.func51, Tryz.ntmps51
  go_wp2_with fail
  go_ret
  exact ⟨rfl, below1 _ _⟩
end Go.Proofs.YtifchfecfkdjlaaGreatDoor
