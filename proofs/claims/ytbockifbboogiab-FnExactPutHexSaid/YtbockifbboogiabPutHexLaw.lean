/-
  The walk of the law on PutHex: both texts are one.
-/
import Derived.Test.YtbockifbboogiabPutHex
namespace Go.Proofs.Ytbockifbboogiab
open Go.ChangeShapes Go.WideShapes Go.ChangeAt Go.RowKit

set_option maxRecDepth 100000 in
theorem putHexLaw (s : ByteArray) (w : World) (hs : s.size ≤ maxLen) :
    Calls Try.prog 3 #[.string s] w fun e w' => e = .returned (.bool true) ∧ Below w.heap.size w w' := by
  unfold maxLen at hs
  by_cases h : (1048576 : Int) < (s.size : Int)
  · go_enter Try.func3, Try.ntmps3
    go_wp2_with fail
    go_ret
    exact ⟨rfl, Below.refl _ _⟩
  · have H := Lib.hid (show s.size ≤ 1048576 by omega)
    generalize hx : strOfNums (hexl s.data.toList) = x
    have C1 : Hid (∀ W, Calls Try.prog 7 #[.string s] W fun e w' => e = .returned (.string x) ∧ Below W.heap.size W w') := by rw [← hx]; exact fun W => specPutHex_any s W H.out
    have C2 : Hid (∀ W, Calls Try.prog 8 #[.string s] W fun e w' => e = .returned (.string x) ∧ Below W.heap.size W w') := by rw [← hx]; exact fun W => implPutHex_any s W H.out
    clear hx
    go_enter Try.func3, Try.ntmps3
    go_wp2_with fail
    go_at_call 7
    refine (C1.out _).mono ?_
    rintro e w1 ⟨rfl, hb1⟩
    go_wp2_with fail
    go_at_call 8
    refine (C2.out _).mono ?_
    rintro e w2 ⟨rfl, hb2⟩
    have hb := bchain hb1 hb2 hb1.size
    clear hb1 hb2
    go_wp2_with fail
    go_ret
    exact ⟨rfl, hb⟩
end Go.Proofs.Ytbockifbboogiab
