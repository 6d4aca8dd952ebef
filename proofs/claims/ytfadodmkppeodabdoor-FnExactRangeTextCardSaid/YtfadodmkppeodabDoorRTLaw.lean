/-
  The law FnExactRangeText: both answer the same text.
-/
import Derived.Test.YtfadodmkppeodabDoorSRText
import Derived.Test.YtfadodmkppeodabDoorVText
namespace Go.Proofs.YtfadodmkppeodabDoor
open Go.ChangeShapes Go.WideShapes Go.ChangeAt Go.RowKit

theorem specRT_no (a b : Int) (h : ¬ rOk a b) (w : World) :
    Calls Tryd.prog 26 #[.agg #[.int .i64 a, .int .i64 b]] w fun e w' => e = .returned (.string ⟨#[]⟩) ∧ Below w.heap.size w w' := by
  go_enter Tryd.func26, Tryd.ntmps26
  go_wp2_with (go_at_call 40; refine (specRangeOk_no _ _ _ h).mono ?_; rintro e wx ⟨rfl, hbx⟩)
  go_ret
  exact ⟨rfl, bchain (below1 _ _) hbx (by simp)⟩
theorem implRT_no (a b : Int) (h : ¬ rOk a b) (w : World) :
    Calls Tryd.prog 27 #[.agg #[.int .i64 a, .int .i64 b]] w fun e w' => e = .returned (.string ⟨#[]⟩) ∧ Below w.heap.size w w' := by
  go_enter Tryd.func27, Tryd.ntmps27
  go_wp2_with (go_at_call 41; refine (implRangeOk_no _ _ _ h).mono ?_; rintro e wx ⟨rfl, hbx⟩)
  go_ret
  exact ⟨rfl, bchain (below1 _ _) hbx (by simp)⟩

theorem rt_both (a b : Int) : ∃ v : ByteArray, (∀ w : World, Calls Tryd.prog 26 #[.agg #[.int .i64 a, .int .i64 b]] w fun e w' => e = .returned (.string v) ∧ Below w.heap.size w w') ∧
    (∀ w : World, Pows w → Calls Tryd.prog 27 #[.agg #[.int .i64 a, .int .i64 b]] w fun e w' => e = .returned (.string v) ∧ Below w.heap.size w w') := by
  by_cases h : rOk a b
  · exact ⟨_, fun w => specRT_ok a b h w, fun w ht => implRT_ok a b h w ht⟩
  · exact ⟨_, fun w => specRT_no a b h w, fun w _ => implRT_no a b h w⟩

theorem rangeTextLaw (a b : Int) (w : World) (_ : (Lit.int .i64 a).wf = true) (_ : (Lit.int .i64 b).wf = true) (htab : Pows w) :
    Calls Tryd.prog 9 #[.agg #[.int .i64 a, .int .i64 b]] w fun e w' => e = .returned (.bool true) ∧ Below w.heap.size w w' := by
  obtain ⟨v, c1, c2⟩ := rt_both a b
  have CS := Lib.hid c1
  have CI := Lib.hid c2
  have HT := Lib.hid htab
  clear c1 c2 htab
  go_enter Tryd.func9, Tryd.ntmps9
  go_wp2_with (first
    | (go_at_call 24; refine (toRange_any _ _ _).mono ?_; rintro e wx ⟨rfl, hbx⟩; obtain ⟨hcx, hfx⟩ := bcell hbx; have hzx : w.heap.size < wx.heap.size := (by have h1 := hbx.size; (try simp at h1); omega); have hall : Below w.heap.size w wx := (by first | exact bchain hall hbx hall.size | exact bchain (below1 _ _) hbx (by simp)); clear hbx)
    | (go_at_call 26; refine (CS.out _).mono ?_; rintro e wx ⟨rfl, hbx⟩; obtain ⟨hcx, hfx⟩ := bcell hbx; have hzx : w.heap.size < wx.heap.size := (by have h1 := hbx.size; (try simp at h1); omega); have hall : Below w.heap.size w wx := (by first | exact bchain hall hbx hall.size | exact bchain (below1 _ _) hbx (by simp)); clear hbx)
    | (go_at_call 27; refine (CI.out _ (HT.out.keep hall)).mono ?_; rintro e wx ⟨rfl, hbx⟩; obtain ⟨hcx, hfx⟩ := bcell hbx; have hzx : w.heap.size < wx.heap.size := (by have h1 := hbx.size; (try simp at h1); omega); have hall : Below w.heap.size w wx := (by first | exact bchain hall hbx hall.size | exact bchain (below1 _ _) hbx (by simp)); clear hbx))
  go_ret
  exact ⟨rfl, hall⟩

set_option maxRecDepth 100000 in
/-- The table of powers, out of what RangeText's row lists. -/
theorem powsRT {W : World} (h : laidMetH Tryd.prog Rows.fnExactRangeTextRow.laid W) : Pows W := pows h
end Go.Proofs.YtfadodmkppeodabDoor
