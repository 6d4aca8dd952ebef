/-
  The law FnExactServes: both answer the same.
-/
import Derived.Test.YtfadodmkppeodabDoorVLaw4
namespace Go.Proofs.YtfadodmkppeodabDoor
open Go.ChangeShapes Go.WideShapes Go.ChangeAt Go.RowKit

theorem serv_both (s t : ByteArray) (hs : s.size ≤ 1048576) (ht : t.size ≤ 1048576) : ∃ v : Bool, (v = true ↔ Serv (numOf s) (numOf t)) ∧ (∀ w : World, Calls Tryd.prog 18 #[.string s, .string t] w fun e w' => e = .returned (.bool v) ∧ Below w.heap.size w w') ∧
    (∀ w : World, MaxC w → Calls Tryd.prog 19 #[.string s, .string t] w fun e w' => e = .returned (.bool v) ∧ Below w.heap.size w w') := by
  by_cases h : Serv (numOf s) (numOf t)
  · have hv : true = true ↔ Serv (numOf s) (numOf t) := ⟨fun _ => h, fun _ => rfl⟩
    exact ⟨true, hv, fun w => specServ_yes s t hs ht h w, fun w hm => implServ_any s t hs ht true hv w hm⟩
  · have hv : false = true ↔ Serv (numOf s) (numOf t) := ⟨(fun h2 => by cases h2), fun h2 => absurd h2 h⟩
    exact ⟨false, hv, fun w => specServ_no s t hs ht h w, fun w hm => implServ_any s t hs ht false hv w hm⟩

theorem servesLaw (s t : ByteArray) (w : World) (hs : s.size ≤ maxLen) (ht : t.size ≤ maxLen) (hm : MaxC w) :
    Calls Tryd.prog 6 #[.string s, .string t] w fun e w' => e = .returned (.bool true) ∧ Below w.heap.size w w' := by
  unfold maxLen at hs ht
  by_cases hl : s.size ≤ 1048576
  · by_cases hl2 : t.size ≤ 1048576
    · obtain ⟨v, _, c1, c2⟩ := serv_both s t hl hl2
      have CS := Lib.hid c1
      have CI := Lib.hid c2
      have HM := Lib.hid hm
      clear hm c1 c2
      go_enter Tryd.func6, Tryd.ntmps6
      go_wp2_with (first
        | (go_at_call 18; refine (CS.out _).mono ?_; rintro e wx ⟨rfl, ha⟩)
        | (go_at_call 19; refine (CI.out _ (HM.out.keep ha)).mono ?_; rintro e wy ⟨rfl, hb⟩))
      go_ret
      exact ⟨rfl, bchain ha hb ha.size⟩
    · go_enter Tryd.func6, Tryd.ntmps6
      go_wp2
      go_ret
      exact ⟨rfl, Below.refl _ _⟩
  · go_enter Tryd.func6, Tryd.ntmps6
    go_wp2
    go_ret
    exact ⟨rfl, Below.refl _ _⟩
end Go.Proofs.YtfadodmkppeodabDoor
