/-
  A call of b10Long: it answers yes or no and changes nothing.
-/
import Derived.Test.YthdnklhaagofhaaDoorSrcMore
namespace Go.Proofs.YthdnklhaagofhaaDoor
open Go.ChangeShapes Go.WideShapes Go.ChangeAt Go.RowKit

theorem long_any (R0 : Option Addr) (m0 c0 : Nat) (R1 : Option Addr) (m1 c1 : Nat) : ∃ v : Bool, Hid (∀ W : World, Calls Tryd.prog 7 #[.slice R0 m0 c0, .slice R1 m1 c1] W fun e w' => e = .returned (.bool v) ∧ W = w') := by
  by_cases h0 : (1048576 : Int) < (m0 : Int)
  · refine ⟨true, Lib.hid fun W => ?_⟩
    go_enter Tryd.func7, Tryd.ntmps7
    go_wp2
    go_ret
    exact ⟨rfl, rfl⟩
  · by_cases h1 : (1048576 : Int) < (m1 : Int)
    · refine ⟨true, Lib.hid fun W => ?_⟩
      go_enter Tryd.func7, Tryd.ntmps7
      go_wp2
      go_ret
      exact ⟨rfl, rfl⟩
    · refine ⟨false, Lib.hid fun W => ?_⟩
      go_enter Tryd.func7, Tryd.ntmps7
      go_wp2
      go_ret
      exact ⟨rfl, rfl⟩
theorem CodeOk.keep {W W' : World} {sv : Value} (h : CodeOk W sv) (hb : Below W.heap.size W W') : CodeOk W' sv := by
  rcases h with h | ⟨b, o, m, c, e1, e2, e3, e4⟩
  · exact Or.inl h
  · have hsz := hb.size
    exact Or.inr ⟨b, o, m, c, e1, fun k => by have := e2 k; omega, e3, fun i hi => by
      obtain ⟨x, x0, x1, x2⟩ := e4 i hi
      exact ⟨x, x0, x1, keepCell hb x2⟩⟩
/-- A source made anew and used: only new memory is other. -/
theorem KeepB.below0 {W W1 W2 : World} {B : Nat} (h1 : Below W.heap.size W W1) (h2 : KeepB B W1 W2) (hB : W.heap.size ≤ B) : Below W.heap.size W W2 := h1.trans (h2.1.mono hB)
end Go.Proofs.YthdnklhaagofhaaDoor
