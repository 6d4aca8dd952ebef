/-
  The walk of the law FnExactInsOf.
-/
import Derived.Test.YtbjcldekapipaaaDoorInsOfS
import Derived.Test.YtbjcldekapipaaaDoorStWIn
namespace Go.Proofs.YtbjcldekapipaaaDoor
open Go.ChangeShapes Go.WideShapes Go.ChangeAt Go.RowKit

theorem insOf_both (s : ByteArray) (hs : s.size ≤ 1048576) : ∃ (o a m : Int) (ok : Bool),
    (∀ W, Calls Tryd.prog 14 #[.string s] W (InsOfA o a m ok W)) ∧
    (∀ W, OpTab W → Calls Tryd.prog 15 #[.string s] W (InsOfA o a m ok W)) := by
  by_cases h : ∃ op a r, IsIns s op a r
  · obtain ⟨op, a, r, h⟩ := h
    exact ⟨op, a, _, true, fun W => (specInsOf_any s hs W).1 op a r h, fun W ht => implInsOf_yes s op a r hs h W ht⟩
  · have h2 : ∀ op a r, ¬ IsIns s op a r := fun op a r hh => h ⟨op, a, r, hh⟩
    exact ⟨0, 0, 0, false, fun W => (specInsOf_any s hs W).2 h2, fun W ht => implInsOf_no s hs h2 W ht⟩

set_option maxHeartbeats 1000000 in
set_option maxRecDepth 100000 in
theorem fnExactInsOfLaw (s : ByteArray) (w : World) (hs : s.size ≤ maxLen) (ht : OpTab w) :
    Calls Tryd.prog 5 #[.string s] w fun e w' => e = .returned (.bool true) ∧ Below w.heap.size w w' := by
  unfold maxLen at hs
  by_cases h : (1048576 : Int) < (s.size : Int)
  · clear ht
    go_enter Tryd.func5, Tryd.ntmps5
    go_wp2_with fail
    go_ret
    exact ⟨rfl, Below.refl _ _⟩
  · obtain ⟨o, a, m, ok, CS0, CI0⟩ := insOf_both s (by omega)
    have CS := Lib.hid CS0
    have CI := Lib.hid (fun W (hb : Below w.heap.size w W) => CI0 W (ht.keep hb))
    have CE := Lib.hid (fun W => eqIns_any ⟨o, a⟩ (by show (0 : Int) ≤ 1048576; omega) 0 0 W)
    clear CS0 CI0 ht
    go_enter Tryd.func5, Tryd.ntmps5
    go_wp2_with (first
      | (go_at_call 14; refine (CS.out _).mono ?_; rintro e w1 ⟨rfl, hb1⟩; have HB1 := Lib.hid hb1; clear hb1)
      | (go_at_call 15; refine (CI.out _ (HB1.out.alloc HB1.out.size _)).mono ?_; rintro e w2 ⟨rfl, hb2⟩; have HB2 := Lib.hid (bnext (HB1.out.alloc HB1.out.size _) hb2); have c0 := keepCell (a := ⟨w1.heap.size, 0, none⟩) (v := .int .i64 o) hb2 (by go_simp); have c1 := keepCell (a := ⟨w1.heap.size, 1, none⟩) (v := .int .i64 a) hb2 (by go_simp); have k0 := fun O => keepCell (below1 w2 O) c0; have k1 := fun O => keepCell (below1 w2 O) c1; clear hb2)
      | (go_at_call 16; refine (CE.out _).mono ?_; rintro e w3 ⟨rfl, hb3⟩; have HB3 := Lib.hid (bnext (HB2.out.alloc HB2.out.size _) hb3); clear hb3))
    go_ret
    exact ⟨rfl, HB3.out⟩
end Go.Proofs.YtbjcldekapipaaaDoor
