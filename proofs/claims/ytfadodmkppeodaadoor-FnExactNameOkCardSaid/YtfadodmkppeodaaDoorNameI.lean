/-
  The law FnExactNameOk.
-/
import Derived.Test.YtfadodmkppeodaaDoorNameB
namespace Go.Proofs.YtfadodmkppeodaaDoor
open Go.ChangeShapes Go.WideShapes Go.ChangeAt Go.RowKit

theorem specNameOk_any (s : ByteArray) (v : Bool) (h : ∀ w : World, Calls Tryd.prog 23 #[.string s] w fun e w' => e = .returned (.bool v) ∧ w = w') (w : World) :
    Calls Tryd.prog 10 #[.string s] w fun e w' => e = .returned (.bool v) ∧ w = w' := by
  have C := Lib.hid h
  clear h
  go_enter Tryd.func10, Tryd.ntmps10
  go_wp2_with (go_at_call 23; refine (C.out _).mono ?_; rintro e wx ⟨rfl, rfl⟩)
  go_ret
  exact ⟨rfl, rfl⟩

theorem nameOkLaw (s : ByteArray) (w : World) (hs : s.size ≤ maxLen) (hm : MaxC w) :
    Calls Tryd.prog 4 #[.string s] w fun e w' => e = .returned (.bool true) ∧ Below w.heap.size w w' := by
  unfold maxLen at hs
  by_cases hl : s.size ≤ 1048576
  · obtain ⟨v, c1, c2⟩ := name_both s hl
    have CS := Lib.hid (fun W => specNameOk_any s v c1 W)
    have CI := Lib.hid c2
    have HM := Lib.hid hm
    clear c1 c2 hm
    go_enter Tryd.func4, Tryd.ntmps4
    go_wp2_with (first
      | (go_at_call 10; refine (CS.out _).mono ?_; rintro e wx ⟨rfl, rfl⟩)
      | (go_at_call 11; refine (CI.out _ HM.out).mono ?_; rintro e wy ⟨rfl, hb⟩))
    go_ret
    exact ⟨rfl, hb⟩
  · go_enter Tryd.func4, Tryd.ntmps4
    go_wp2
    go_ret
    exact ⟨rfl, Below.refl _ _⟩
end Go.Proofs.YtfadodmkppeodaaDoor
