/-
  The law FnExactTextOk: both answer the same.
-/
import Derived.Test.YtfadodmkppeodabDoorUtfLaw2
namespace Go.Proofs.YtfadodmkppeodabDoor
open Go.ChangeShapes Go.WideShapes Go.ChangeAt Go.RowKit

/-- The decoder's two tables. -/
def Tabs (w : World) : Prop := Lib.Utf8Tabs 0 1 w
theorem Tabs.keep {w w' : World} (h : Tabs w) (hb : Below w.heap.size w w') : Tabs w' :=
  ⟨fun c hc => keepCell hb (h.1 c hc), fun i hi => ⟨keepCell hb (h.2 i hi).1, keepCell hb (h.2 i hi).2⟩⟩
theorem firstEq : (Rows.laid_unicode_utf8_first : DataW Unit) = Lib.firstData := by kernel_rfl
theorem acceptEq : (Rows.laid_unicode_utf8_acceptRanges : DataW Unit) = Lib.acceptData := by kernel_rfl
theorem tabs {W : World} (h : laidMetH Tryd.prog Rows.fnExactTextOkRow.laid W) : Tabs W := by
  have h0 : laidMet Tryd.prog [("unicode/utf8.acceptRanges", Rows.laid_unicode_utf8_acceptRanges), ("unicode/utf8.first", Rows.laid_unicode_utf8_first)] W := h
  rw [firstEq, acceptEq] at h0
  exact utf8Tabs_of_readsT (U8Types.of196 Tryd.laysVS) ⟨by kernel_rfl, by kernel_rfl, by kernel_rfl, by kernel_rfl, by kernel_rfl, by kernel_rfl, by kernel_rfl⟩ (Lib.laidMet.reads h0 (.tail _ (.head _))) (Lib.laidMet.reads h0 (.head _))

theorem valid_any (s : ByteArray) (hs : s.size ≤ 24) (w : World) (hT : Tabs w) :
    Calls Tryd.prog 47 #[.string s] w fun e w' => e = .returned (.bool (Lib.validD s.data.toList)) ∧ Below w.heap.size w w' :=
  Any.utf8_ValidString Tryd.laysVS s w (by omega) hT

theorem specTextOk_long (s : ByteArray) (h : 24 < s.size) (hs : s.size ≤ 1048576) (w : World) :
    Calls Tryd.prog 30 #[.string s] w fun e w' => e = .returned (.bool false) ∧ Below w.heap.size w w' := by
  go_enter Tryd.func30, Tryd.ntmps30
  go_wp2
  go_ret
  exact ⟨rfl, Below.refl _ _⟩
theorem implTextOk_long (s : ByteArray) (h : 24 < s.size) (hs : s.size ≤ 1048576) (w : World) :
    Calls Tryd.prog 31 #[.string s] w fun e w' => e = .returned (.bool false) ∧ Below w.heap.size w w' := by
  have h2 : ¬ s.size ≤ 24 := by omega
  have h3 : decide (s.size ≤ 24) = false := decide_eq_false h2
  go_enter Tryd.func31, Tryd.ntmps31
  go_wp2
  go_ret
  exact ⟨rfl, Below.refl _ _⟩
theorem specTextOk_short (s : ByteArray) (h : s.size ≤ 24) (w : World) :
    Calls Tryd.prog 30 #[.string s] w fun e w' => e = .returned (.bool (Lib.validD s.data.toList)) ∧ Below w.heap.size w w' := by
  have C := Lib.hid (fun W => points_any s h W)
  generalize Lib.validD s.data.toList = R at *
  have h2 : ¬ 24 < s.size := by omega
  go_enter Tryd.func30, Tryd.ntmps30
  go_wp2_with (go_at_call 46; (with_reducible refine (C.out _).mono ?_); rintro e wx ⟨v, rfl, hbx⟩)
  go_ret
  exact ⟨rfl, hbx⟩
theorem implTextOk_short (s : ByteArray) (h : s.size ≤ 24) (w : World) (hT : Tabs w) :
    Calls Tryd.prog 31 #[.string s] w fun e w' => e = .returned (.bool (Lib.validD s.data.toList)) ∧ Below w.heap.size w w' := by
  have C := Lib.hid (fun W hW => valid_any s h W hW)
  generalize Lib.validD s.data.toList = R at *
  have HT := Lib.hid hT
  have h2 : (s.size : Int) ≤ 24 := by omega
  have h3 : decide ((s.size : Int) ≤ 24) = true := decide_eq_true h2
  clear hT
  go_enter Tryd.func31, Tryd.ntmps31
  go_wp2_with (go_at_call 47; (with_reducible refine (C.out _ HT.out).mono ?_); rintro e wx ⟨rfl, hbx⟩)
  go_ret
  exact ⟨rfl, hbx⟩

theorem textOk_both (s : ByteArray) (hs : s.size ≤ 1048576) : ∃ v : Bool, (∀ w : World, Calls Tryd.prog 30 #[.string s] w fun e w' => e = .returned (.bool v) ∧ Below w.heap.size w w') ∧
    (∀ w : World, Tabs w → Calls Tryd.prog 31 #[.string s] w fun e w' => e = .returned (.bool v) ∧ Below w.heap.size w w') := by
  by_cases h : s.size ≤ 24
  · exact ⟨_, fun w => specTextOk_short s h w, fun w hT => implTextOk_short s h w hT⟩
  · exact ⟨false, fun w => specTextOk_long s (by omega) hs w, fun w _ => implTextOk_long s (by omega) hs w⟩

theorem textOkLaw (s : ByteArray) (w : World) (hs : s.size ≤ maxLen) (hT : Tabs w) :
    Calls Tryd.prog 11 #[.string s] w fun e w' => e = .returned (.bool true) ∧ Below w.heap.size w w' := by
  unfold maxLen at hs
  by_cases hl : s.size ≤ 1048576
  · obtain ⟨v, c1, c2⟩ := textOk_both s hl
    have CS := Lib.hid c1
    have CI := Lib.hid c2
    have HT := Lib.hid hT
    clear c1 c2 hT
    go_enter Tryd.func11, Tryd.ntmps11
    go_wp2_with (first
      | (go_at_call 30; refine (CS.out _).mono ?_; rintro e wx ⟨rfl, ha⟩)
      | (go_at_call 31; refine (CI.out _ (HT.out.keep ha)).mono ?_; rintro e wy ⟨rfl, hb⟩))
    go_ret
    exact ⟨rfl, bchain ha hb ha.size⟩
  · go_enter Tryd.func11, Tryd.ntmps11
    go_wp2
    go_ret
    exact ⟨rfl, Below.refl _ _⟩
end Go.Proofs.YtfadodmkppeodabDoor
