/-
  Walks of both GetBytes and of the law on them.
-/
import Derived.Test.YthdnklhaagofhaaGetLebLaw
namespace Go.Proofs.Ythdnklhaagofhaa
open Go.ChangeShapes Go.WideShapes Go.ChangeAt Go.RowKit
set_option linter.unusedVariables false

set_option maxRecDepth 100000 in
theorem implGetBytes_yes (s : ByteArray) (n m : Nat) (ok : Bool) (w : World) (C : Hid (∀ W, Calls Try.prog 15 #[.string s] W fun e w' => e = .returned (.tuple #[.int .i64 n, .int .i64 m, .bool ok]) ∧ Below W.heap.size W w')) (hn : (n : Int) ≤ 9223372036854775807) (hm : m ≤ s.size) (hsz : (s.size : Int) ≤ 4294967296) (hok : ok = true) (hfit : n + m ≤ s.size) :
    Calls Try.prog 18 #[.string s] w fun e w' => e = .returned (.tuple #[.string (s.extract m (m + n)), .int .i64 ((m : Int) + (n : Int)), .bool true]) ∧ Below w.heap.size w w' := by
  have hmi : (m : Int) ≤ (s.size : Int) := by omega
  subst hok
  have hng : ¬ (s.size : Int) - (m : Int) < (n : Int) := by omega
  have hse : (m : Int) + (n : Int) ≤ (s.size : Int) := by omega
  have hml : (m : Int) ≤ (m : Int) + (n : Int) := by omega
  have hm0 : 0 ≤ (m : Int) := by omega
  have hn0 : 0 ≤ (n : Int) := by omega
  go_enter Try.func18, Try.ntmps18
  go_wp2_with fail
  go_at_call 15
  refine (C.out _).mono ?_
  rintro e w1 ⟨rfl, hb⟩
  go_wp2_with fail
  go_ret3
  exact ⟨rfl, hb⟩

set_option maxRecDepth 100000 in
theorem implGetBytes_short (s : ByteArray) (n m : Nat) (ok : Bool) (w : World) (C : Hid (∀ W, Calls Try.prog 15 #[.string s] W fun e w' => e = .returned (.tuple #[.int .i64 n, .int .i64 m, .bool ok]) ∧ Below W.heap.size W w')) (hn : (n : Int) ≤ 9223372036854775807) (hm : m ≤ s.size) (hsz : (s.size : Int) ≤ 4294967296) (hok : ok = true) (hfit : s.size < n + m) :
    Calls Try.prog 18 #[.string s] w fun e w' => e = .returned (.tuple #[.string ⟨#[]⟩, .int .i64 0, .bool false]) ∧ Below w.heap.size w w' := by
  have hmi : (m : Int) ≤ (s.size : Int) := by omega
  subst hok
  have hng : (s.size : Int) - (m : Int) < (n : Int) := by omega
  go_enter Try.func18, Try.ntmps18
  go_wp2_with fail
  go_at_call 15
  refine (C.out _).mono ?_
  rintro e w1 ⟨rfl, hb⟩
  go_wp2_with fail
  go_ret3
  exact ⟨rfl, hb⟩

set_option maxRecDepth 100000 in
theorem implGetBytes_no (s : ByteArray) (n m : Nat) (ok : Bool) (w : World) (C : Hid (∀ W, Calls Try.prog 15 #[.string s] W fun e w' => e = .returned (.tuple #[.int .i64 n, .int .i64 m, .bool ok]) ∧ Below W.heap.size W w')) (hn : (n : Int) ≤ 9223372036854775807) (hm : m ≤ s.size) (hsz : (s.size : Int) ≤ 4294967296) (hok : ok = false) :
    Calls Try.prog 18 #[.string s] w fun e w' => e = .returned (.tuple #[.string ⟨#[]⟩, .int .i64 0, .bool false]) ∧ Below w.heap.size w w' := by
  have hmi : (m : Int) ≤ (s.size : Int) := by omega
  subst hok
  go_enter Try.func18, Try.ntmps18
  go_wp2_with fail
  go_at_call 15
  refine (C.out _).mono ?_
  rintro e w1 ⟨rfl, hb⟩
  go_wp2_with fail
  go_ret3
  exact ⟨rfl, hb⟩

end Go.Proofs.Ythdnklhaagofhaa
