/-
  The walk of the law FnExactWordOk.
-/
import Derived.Test.YtoeofhhmkkpjbaaDoorWord
namespace Go.Proofs.YtoeofhhmkkpjbaaDoor
open Go.ChangeShapes Go.WideShapes Go.ChangeAt Go.RowKit

theorem specWord_any (s : ByteArray) (hs : s.size ≤ 1048576) (w : World) :
    Calls Tryd.prog 12 #[.string s] w fun e w' => e = .returned (.bool (wordV s)) ∧ w = w' := by
  have C := Lib.hid (fun W => l15Word_any s hs W)
  clear hs
  go_enter Tryd.func12, Tryd.ntmps12
  go_wp2_with (go_at_call 42; refine (C.out _).mono ?_; rintro e wx ⟨rfl, rfl⟩)
  go_ret
  exact ⟨rfl, rfl⟩

theorem fnExactWordOkLaw (s : ByteArray) (w : World) (hs : s.size ≤ maxLen) :
    Calls Tryd.prog 3 #[.string s] w fun e w' => e = .returned (.bool true) ∧ Below w.heap.size w w' := by
  unfold maxLen at hs
  by_cases hl : s.size ≤ 1048576
  · have CS := Lib.hid (fun W => specWord_any s hl W)
    have CI := Lib.hid (fun W => implWord_any s hl W)
    generalize wordV s = v at *
    have hI : ¬ (1048576 : Int) < (s.size : Int) := by omega
    go_enter Tryd.func3, Tryd.ntmps3
    go_wp2_with (first
      | (go_at_call 12; refine (CS.out _).mono ?_; rintro e wx ⟨rfl, rfl⟩)
      | (go_at_call 13; refine (CI.out _).mono ?_; rintro e wy ⟨rfl, hb⟩))
    go_ret
    exact ⟨rfl, hb⟩
  · have hI : (1048576 : Int) < (s.size : Int) := by omega
    go_enter Tryd.func3, Tryd.ntmps3
    go_wp2
    go_ret
    exact ⟨rfl, Below.refl _ _⟩
end Go.Proofs.YtoeofhhmkkpjbaaDoor
