/-
  The walks of the laws on PutLeb and PutSleb.
-/
import Derived.Test.YtbockifbboogiaaPutLeb
import Derived.Test.YtbockifbboogiaaSpecPutLeb
namespace Go.Proofs.Ytbockifbboogiaa
open Go.ChangeShapes Go.WideShapes Go.ChangeAt Go.RowKit

set_option maxRecDepth 100000 in
theorem putLebLaw (a : Int) (w : World) (wa : (Lit.int .i64 a).wf = true) :
    Calls Try.prog 4 #[.int .i64 a] w fun e w' => e = .returned (.bool true) ∧ Below w.heap.size w w' := by
  obtain ⟨ha0, ha1⟩ := wf_i64_bounds wa
  by_cases h : a < 0
  · go_enter Try.func4, Try.ntmps4
    go_wp2
    go_ret
    exact ⟨rfl, Below.refl _ _⟩
  · obtain ⟨n, rfl⟩ := Int.eq_ofNat_of_zero_le (show 0 ≤ a by omega)
    obtain ⟨x, hx⟩ : ∃ x, strOfNums (lebU n) = x := ⟨_, rfl⟩
    have C1 : Hid (∀ W, Calls Try.prog 26 #[.int .i64 n] W fun e w' => e = .returned (.string x) ∧ Below W.heap.size W w') := by rw [← hx]; exact fun W => specPutLeb_any n W (by omega)
    have C2 : Hid (∀ W, Calls Try.prog 16 #[.int .i64 n] W fun e w' => e = .returned (.string x) ∧ Below W.heap.size W w') := by rw [← hx]; exact fun W => implPutLeb_any n W (by omega)
    clear hx
    go_enter Try.func4, Try.ntmps4
    go_wp2_with fail
    go_at_call 26
    refine (C1.out _).mono ?_
    rintro e w1 ⟨rfl, hb1⟩
    go_wp2_with fail
    go_at_call 16
    refine (C2.out _).mono ?_
    rintro e w2 ⟨rfl, hb2⟩
    have hb := bchain hb1 hb2 hb1.size
    clear hb1 hb2
    go_wp2_with fail
    go_ret
    exact ⟨rfl, hb⟩

set_option maxRecDepth 100000 in
theorem putSlebLaw (n : Int) (w : World) (wa : (Lit.int .i64 n).wf = true) :
    Calls Try.prog 6 #[.int .i64 n] w fun e w' => e = .returned (.bool true) ∧ Below w.heap.size w w' := by
  obtain ⟨ha0, ha1⟩ := wf_i64_bounds wa
  obtain ⟨x, hx⟩ : ∃ x, strOfNums (lebS n) = x := ⟨_, rfl⟩
  have C1 : Hid (∀ W, Calls Try.prog 28 #[.int .i64 n] W fun e w' => e = .returned (.string x) ∧ Below W.heap.size W w') := by rw [← hx]; exact fun W => specPutSleb_any n W (by omega) (by omega)
  have C2 : Hid (∀ W, Calls Try.prog 14 #[.int .i64 n] W fun e w' => e = .returned (.string x) ∧ Below W.heap.size W w') := by rw [← hx]; exact fun W => implPutSleb_any n W (by omega) (by omega)
  clear hx
  go_enter Try.func6, Try.ntmps6
  go_wp2_with fail
  go_at_call 28
  refine (C1.out _).mono ?_
  rintro e w1 ⟨rfl, hb1⟩
  go_wp2_with fail
  go_at_call 14
  refine (C2.out _).mono ?_
  rintro e w2 ⟨rfl, hb2⟩
  have hb := bchain hb1 hb2 hb1.size
  clear hb1 hb2
  go_wp2_with fail
  go_ret
  exact ⟨rfl, hb⟩
end Go.Proofs.Ytbockifbboogiaa
