/-
  The walk of the model's l01Num: some number of int64.
-/
import Derived.Test.YthdnklhaagofhaaSrcLit
namespace Go.Proofs.Ythdnklhaagofhaa
open Go.ChangeShapes Go.WideShapes Go.ChangeAt Go.RowKit

theorem wrap64_in (x : Int) : -9223372036854775808 ≤ wrap64 x ∧ wrap64 x ≤ 9223372036854775807 := by unfold wrap64; omega
theorem mul_in {a b : Int} (h0 : 0 ≤ a) (h1 : a ≤ 70000) (k0 : 0 ≤ b) (k1 : b ≤ 70000) : 0 ≤ a * b ∧ a * b ≤ 4900000000 := by
  refine ⟨Int.mul_nonneg h0 k0, ?_⟩
  have := Int.mul_le_mul h1 k1 k0 (by omega)
  omega

set_option maxRecDepth 100000 in
set_option maxHeartbeats 2000000 in
theorem num_any (B n : Nat) (hn : n ≤ 800000) (sv : Value) (W : World) (h : SrcAt W B n sv) :
    Calls Try.prog 55 #[.pointer (some ⟨B, 0, none⟩)] W (SomeNum B n 12 (-9223372036854775808) 9223372036854775807 sv W) := by
  have HH := Lib.hid h
  clear h
  go_enter Try.func55, Try.ntmps55
  go_wp2_with fail
  go_at_call 85
  refine Calls.mono (among_lit B n (by omega) sv (-9223372036854775808) 9223372036854775807 _ _ _ _ ?hk ?h1 ?h2 ?hok W HH.out) ?_
  case hk => rfl
  case h1 => decide
  case h2 => decide
  case hok => kernel_rfl
  rintro e W1 ⟨x, n1, rfl, hx, hn1, hs1, hk1⟩
  have CO := Lib.hid (one_any B n1 (by omega) sv 2 (by omega) W1 hs1)
  have HK1 := Lib.hid hk1
  have HX := Lib.hid hx
  clear hs1 hk1 HH hx
  go_wp2_with fail
  go_at_call 65
  refine CO.out.mono ?_
  rintro e W2 ⟨r, n2, rfl, hn2, hs2, ho2⟩
  have HK2 := Lib.hid (HK1.out.trans ho2.keep)
  clear CO ho2 HK1
  cases r with
  | false =>
    have CO4 := Lib.hid (one_any B n2 (by omega) sv 4 (by omega) W2 hs2)
    clear hs2
    go_wp2_with fail
    go_at_call 65
    refine CO4.out.mono ?_
    rintro e W3 ⟨r, n3, rfl, hn3, hs3, ho3⟩
    have HK3 := Lib.hid (HK2.out.trans ho3.keep)
    have HS3 := Lib.hid hs3
    clear hs3 ho3 HK2 CO4
    have hx := HX.out
    cases r with
    | false =>
      go_wp2_with fail
      go_ret
      exact ⟨_, n3, rfl, HX.out, by omega, HS3.out, HK3.out⟩
    | true =>
      go_wp2_with fail
      go_ret
      exact ⟨_, n3, rfl, wrap64_in _, by omega, HS3.out, HK3.out⟩
  | true =>
    have CP := Lib.hid (pick_any B n2 (by omega) sv 70000 (by omega) W2 hs2)
    clear hs2
    go_wp2_with fail
    go_at_call 84
    refine CP.out.mono ?_
    rintro e W3 ⟨a, n3, rfl, a0, a1, hn3, hs3, ho3⟩
    have HK3 := Lib.hid (HK2.out.trans ho3.keep)
    have CP2 := Lib.hid (pick_any B n3 (by omega) sv 70000 (by omega) W3 hs3)
    clear hs3 ho3 HK2 CP
    go_wp2_with fail
    go_at_call 84
    refine CP2.out.mono ?_
    rintro e W4 ⟨b, n4, rfl, b0, b1, hn4, hs4, ho4⟩
    have HK4 := Lib.hid (HK3.out.trans ho4.keep)
    have CO4 := Lib.hid (one_any B n4 (by omega) sv 4 (by omega) W4 hs4)
    have hm := mul_in a0 (by omega) b0 (by omega)
    clear hs4 ho4 HK3 CP2
    go_wp2_with fail
    go_at_call 65
    refine CO4.out.mono ?_
    rintro e W5 ⟨r, n5, rfl, hn5, hs5, ho5⟩
    have HK5 := Lib.hid (HK4.out.trans ho5.keep)
    have HS5 := Lib.hid hs5
    clear hs5 ho5 HK4 CO4
    cases r with
    | false =>
      go_wp2_with fail
      go_ret
      exact ⟨_, n5, rfl, by omega, by omega, HS5.out, HK5.out⟩
    | true =>
      go_wp2_with fail
      go_ret
      exact ⟨_, n5, rfl, by omega, by omega, HS5.out, HK5.out⟩
end Go.Proofs.Ythdnklhaagofhaa
