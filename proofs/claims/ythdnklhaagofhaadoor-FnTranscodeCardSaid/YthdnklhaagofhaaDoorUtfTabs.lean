/-
  The decoder's two tables; the program's look whether a text is one.
-/
import Derived.Test.YthdnklhaagofhaaDoorUtfLaw
namespace Go.Proofs.YthdnklhaagofhaaDoor
open Go.ChangeShapes Go.WideShapes Go.ChangeAt Go.RowKit

/-- The decoder's two tables. -/
def Tabs (w : World) : Prop := Lib.Utf8Tabs 0 1 w
theorem Tabs.keep {w w' : World} (h : Tabs w) (hb : Below w.heap.size w w') : Tabs w' :=
  ⟨fun c hc => keepCell hb (h.1 c hc), fun i hi => ⟨keepCell hb (h.2 i hi).1, keepCell hb (h.2 i hi).2⟩⟩
theorem firstEq : (Rows.laid_unicode_utf8_first : DataW Unit) = Lib.firstData := by kernel_rfl
theorem acceptEq : (Rows.laid_unicode_utf8_acceptRanges : DataW Unit) = Lib.acceptData := by kernel_rfl
theorem tabs {W : World} (h : laidMet Tryd.prog [("unicode/utf8.acceptRanges", Rows.laid_unicode_utf8_acceptRanges), ("unicode/utf8.first", Rows.laid_unicode_utf8_first)] W) : Tabs W := by
  have h0 := h
  rw [firstEq, acceptEq] at h0
  exact utf8Tabs_of_readsT (U8Types.of196 Tryd.laysVS) ⟨by kernel_rfl, by kernel_rfl, by kernel_rfl, by kernel_rfl, by kernel_rfl, by kernel_rfl, by kernel_rfl⟩ (Lib.laidMet.reads h0 (.tail _ (.head _))) (Lib.laidMet.reads h0 (.head _))

theorem valid_any (s : ByteArray) (hs : s.size ≤ 24) (w : World) (hT : Tabs w) :
    Calls Tryd.prog 102 #[.string s] w fun e w' => e = .returned (.bool (Lib.validD s.data.toList)) ∧ Below w.heap.size w w' :=
  Any.utf8_ValidString Tryd.laysVS s w (by omega) hT

theorem implTextOk_long (s : ByteArray) (h : 24 < s.size) (hs : s.size ≤ 1048576) (w : World) :
    Calls Tryd.prog 65 #[.string s] w fun e w' => e = .returned (.bool false) ∧ Below w.heap.size w w' := by
  have h2 : ¬ s.size ≤ 24 := by omega
  have h3 : decide (s.size ≤ 24) = false := decide_eq_false h2
  go_enter Tryd.func65, Tryd.ntmps65
  go_wp2
  go_ret
  exact ⟨rfl, Below.refl _ _⟩
theorem implTextOk_short (s : ByteArray) (h : s.size ≤ 24) (w : World) (hT : Tabs w) :
    Calls Tryd.prog 65 #[.string s] w fun e w' => e = .returned (.bool (Lib.validD s.data.toList)) ∧ Below w.heap.size w w' := by
  have C := Lib.hid (fun W hW => valid_any s h W hW)
  generalize Lib.validD s.data.toList = R at *
  have HT := Lib.hid hT
  have h2 : (s.size : Int) ≤ 24 := by omega
  have h3 : decide ((s.size : Int) ≤ 24) = true := decide_eq_true h2
  clear hT
  go_enter Tryd.func65, Tryd.ntmps65
  go_wp2_with (go_at_call 102; (with_reducible refine (C.out _ HT.out).mono ?_); rintro e wx ⟨rfl, hbx⟩)
  go_ret
  exact ⟨rfl, hbx⟩

end Go.Proofs.YthdnklhaagofhaaDoor
