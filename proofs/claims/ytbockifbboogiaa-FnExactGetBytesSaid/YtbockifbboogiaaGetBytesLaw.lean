/-
  Walks of both GetBytes and of the law on them.
-/
import Derived.Test.YtbockifbboogiaaGetLebLaw
namespace Go.Proofs.Ytbockifbboogiaa
open Go.ChangeShapes Go.WideShapes Go.ChangeAt Go.RowKit
set_option linter.unusedVariables false

set_option maxRecDepth 100000 in
theorem specGetBytes_yes (s : ByteArray) (n m : Nat) (ok : Bool) (w : World) (C : Hid (∀ W, Calls Try.prog 27 #[.string s] W fun e w' => e = .returned (.tuple #[.int .i64 n, .int .i64 m, .bool ok]) ∧ Below W.heap.size W w')) (hn : (n : Int) ≤ 9223372036854775807) (hm : m ≤ s.size) (hsz : (s.size : Int) ≤ 4294967296) (hok : ok = true) (hfit : n + m ≤ s.size) :
    Calls Try.prog 33 #[.string s] w fun e w' => e = .returned (.tuple #[.string (s.extract m (m + n)), .int .i64 ((m : Int) + (n : Int)), .bool true]) ∧ Below w.heap.size w w' := by
  have hmi : (m : Int) ≤ (s.size : Int) := by omega
  subst hok
  have hng : ¬ (s.size : Int) - (m : Int) < (n : Int) := by omega
  have hse : (m : Int) + (n : Int) ≤ (s.size : Int) := by omega
  have hml : (m : Int) ≤ (m : Int) + (n : Int) := by omega
  have hm0 : 0 ≤ (m : Int) := by omega
  have hn0 : 0 ≤ (n : Int) := by omega
  go_enter Try.func33, Try.ntmps33
  go_wp2_with fail
  go_at_call 27
  refine (C.out _).mono ?_
  rintro e w1 ⟨rfl, hb⟩
  go_wp2_with fail
  go_ret3
  exact ⟨rfl, hb⟩

set_option maxRecDepth 100000 in
theorem specGetBytes_short (s : ByteArray) (n m : Nat) (ok : Bool) (w : World) (C : Hid (∀ W, Calls Try.prog 27 #[.string s] W fun e w' => e = .returned (.tuple #[.int .i64 n, .int .i64 m, .bool ok]) ∧ Below W.heap.size W w')) (hn : (n : Int) ≤ 9223372036854775807) (hm : m ≤ s.size) (hsz : (s.size : Int) ≤ 4294967296) (hok : ok = true) (hfit : s.size < n + m) :
    Calls Try.prog 33 #[.string s] w fun e w' => e = .returned (.tuple #[.string ⟨#[]⟩, .int .i64 0, .bool false]) ∧ Below w.heap.size w w' := by
  have hmi : (m : Int) ≤ (s.size : Int) := by omega
  subst hok
  have hng : (s.size : Int) - (m : Int) < (n : Int) := by omega
  go_enter Try.func33, Try.ntmps33
  go_wp2_with fail
  go_at_call 27
  refine (C.out _).mono ?_
  rintro e w1 ⟨rfl, hb⟩
  go_wp2_with fail
  go_ret3
  exact ⟨rfl, hb⟩

set_option maxRecDepth 100000 in
theorem specGetBytes_no (s : ByteArray) (n m : Nat) (ok : Bool) (w : World) (C : Hid (∀ W, Calls Try.prog 27 #[.string s] W fun e w' => e = .returned (.tuple #[.int .i64 n, .int .i64 m, .bool ok]) ∧ Below W.heap.size W w')) (hn : (n : Int) ≤ 9223372036854775807) (hm : m ≤ s.size) (hsz : (s.size : Int) ≤ 4294967296) (hok : ok = false) :
    Calls Try.prog 33 #[.string s] w fun e w' => e = .returned (.tuple #[.string ⟨#[]⟩, .int .i64 0, .bool false]) ∧ Below w.heap.size w w' := by
  have hmi : (m : Int) ≤ (s.size : Int) := by omega
  subst hok
  go_enter Try.func33, Try.ntmps33
  go_wp2_with fail
  go_at_call 27
  refine (C.out _).mono ?_
  rintro e w1 ⟨rfl, hb⟩
  go_wp2_with fail
  go_ret3
  exact ⟨rfl, hb⟩

set_option maxRecDepth 100000 in
theorem implGetBytes_yes (s : ByteArray) (n m : Nat) (ok : Bool) (w : World) (C : Hid (∀ W, Calls Try.prog 17 #[.string s] W fun e w' => e = .returned (.tuple #[.int .i64 n, .int .i64 m, .bool ok]) ∧ Below W.heap.size W w')) (hn : (n : Int) ≤ 9223372036854775807) (hm : m ≤ s.size) (hsz : (s.size : Int) ≤ 4294967296) (hok : ok = true) (hfit : n + m ≤ s.size) :
    Calls Try.prog 20 #[.string s] w fun e w' => e = .returned (.tuple #[.string (s.extract m (m + n)), .int .i64 ((m : Int) + (n : Int)), .bool true]) ∧ Below w.heap.size w w' := by
  have hmi : (m : Int) ≤ (s.size : Int) := by omega
  subst hok
  have hng : ¬ (s.size : Int) - (m : Int) < (n : Int) := by omega
  have hse : (m : Int) + (n : Int) ≤ (s.size : Int) := by omega
  have hml : (m : Int) ≤ (m : Int) + (n : Int) := by omega
  have hm0 : 0 ≤ (m : Int) := by omega
  have hn0 : 0 ≤ (n : Int) := by omega
  go_enter Try.func20, Try.ntmps20
  go_wp2_with fail
  go_at_call 17
  refine (C.out _).mono ?_
  rintro e w1 ⟨rfl, hb⟩
  go_wp2_with fail
  go_ret3
  exact ⟨rfl, hb⟩

set_option maxRecDepth 100000 in
theorem implGetBytes_short (s : ByteArray) (n m : Nat) (ok : Bool) (w : World) (C : Hid (∀ W, Calls Try.prog 17 #[.string s] W fun e w' => e = .returned (.tuple #[.int .i64 n, .int .i64 m, .bool ok]) ∧ Below W.heap.size W w')) (hn : (n : Int) ≤ 9223372036854775807) (hm : m ≤ s.size) (hsz : (s.size : Int) ≤ 4294967296) (hok : ok = true) (hfit : s.size < n + m) :
    Calls Try.prog 20 #[.string s] w fun e w' => e = .returned (.tuple #[.string ⟨#[]⟩, .int .i64 0, .bool false]) ∧ Below w.heap.size w w' := by
  have hmi : (m : Int) ≤ (s.size : Int) := by omega
  subst hok
  have hng : (s.size : Int) - (m : Int) < (n : Int) := by omega
  go_enter Try.func20, Try.ntmps20
  go_wp2_with fail
  go_at_call 17
  refine (C.out _).mono ?_
  rintro e w1 ⟨rfl, hb⟩
  go_wp2_with fail
  go_ret3
  exact ⟨rfl, hb⟩

set_option maxRecDepth 100000 in
theorem implGetBytes_no (s : ByteArray) (n m : Nat) (ok : Bool) (w : World) (C : Hid (∀ W, Calls Try.prog 17 #[.string s] W fun e w' => e = .returned (.tuple #[.int .i64 n, .int .i64 m, .bool ok]) ∧ Below W.heap.size W w')) (hn : (n : Int) ≤ 9223372036854775807) (hm : m ≤ s.size) (hsz : (s.size : Int) ≤ 4294967296) (hok : ok = false) :
    Calls Try.prog 20 #[.string s] w fun e w' => e = .returned (.tuple #[.string ⟨#[]⟩, .int .i64 0, .bool false]) ∧ Below w.heap.size w w' := by
  have hmi : (m : Int) ≤ (s.size : Int) := by omega
  subst hok
  go_enter Try.func20, Try.ntmps20
  go_wp2_with fail
  go_at_call 17
  refine (C.out _).mono ?_
  rintro e w1 ⟨rfl, hb⟩
  go_wp2_with fail
  go_ret3
  exact ⟨rfl, hb⟩

theorem getBytes_both (s : ByteArray) (hsz : (s.size : Int) ≤ 4294967296) : ∃ (x : ByteArray) (y : Int) (ok : Bool), True ∧
    (∀ W, Calls Try.prog 33 #[.string s] W fun e w' => e = .returned (.tuple #[.string x, .int .i64 y, .bool ok]) ∧ Below W.heap.size W w') ∧
    (∀ W, Calls Try.prog 20 #[.string s] W fun e w' => e = .returned (.tuple #[.string x, .int .i64 y, .bool ok]) ∧ Below W.heap.size W w') := by
  obtain ⟨x, y, ok, ⟨h1, h2, h3, h4⟩, m1, m2⟩ := getLeb_both s hsz
  obtain ⟨n, rfl⟩ := Int.eq_ofNat_of_zero_le h1
  obtain ⟨m, rfl⟩ := Int.eq_ofNat_of_zero_le h3
  have C1 := Lib.hid m1
  have C2 := Lib.hid m2
  cases hok : ok with
  | false => exact ⟨_, _, _, trivial, fun W => specGetBytes_no s n m ok W C1 h2 (by omega) hsz hok, fun W => implGetBytes_no s n m ok W C2 h2 (by omega) hsz hok⟩
  | true =>
    by_cases hfit : n + m ≤ s.size
    · exact ⟨_, _, _, trivial, fun W => specGetBytes_yes s n m ok W C1 h2 (by omega) hsz hok hfit, fun W => implGetBytes_yes s n m ok W C2 h2 (by omega) hsz hok hfit⟩
    · exact ⟨_, _, _, trivial, fun W => specGetBytes_short s n m ok W C1 h2 (by omega) hsz hok (by omega), fun W => implGetBytes_short s n m ok W C2 h2 (by omega) hsz hok (by omega)⟩

set_option maxRecDepth 100000 in
theorem getBytesLaw (s : ByteArray) (w : World) (hs : s.size ≤ maxLen) :
    Calls Try.prog 11 #[.string s] w fun e w' => e = .returned (.bool true) ∧ Below w.heap.size w w' := by
  unfold maxLen at hs
  by_cases h : (1048576 : Int) < (s.size : Int)
  · go_enter Try.func11, Try.ntmps11
    go_wp2_with fail
    go_ret
    exact ⟨rfl, Below.refl _ _⟩
  · obtain ⟨x, y, ok, _, m1, m2⟩ := getBytes_both s (by omega)
    have C1 := Lib.hid m1
    have C2 := Lib.hid m2
    clear m1 m2
    go_enter Try.func11, Try.ntmps11
    go_wp2_with fail
    go_at_call 33
    refine (C1.out _).mono ?_
    rintro e w1 ⟨rfl, hb1⟩
    go_wp2_with fail
    go_at_call 20
    refine (C2.out _).mono ?_
    rintro e w2 ⟨rfl, hb2⟩
    have hb := bchain hb1 hb2 hb1.size
    clear hb1 hb2
    go_wp2_with fail
    go_ret
    exact ⟨rfl, hb⟩
end Go.Proofs.Ytbockifbboogiaa
