/-
  The walk of the law FnExactInsOk.
-/
import Derived.Test.YtoeofhhmkkpjbaaDoorIns
namespace Go.Proofs.YtoeofhhmkkpjbaaDoor
open Go.ChangeShapes Go.WideShapes Go.ChangeAt Go.RowKit

theorem toInsL_any (op a : Int) (w : World) :
    Calls Tryd.prog 17 #[.agg #[.int .i64 op, .int .i64 a]] w fun e w' => e = .returned (.agg #[.int .i64 op, .int .i64 a]) ∧ Below w.heap.size w w' := by
  go_enter Tryd.func17, Tryd.ntmps17
  go_wp2
  exact bodyPost_ret (v := .agg #[.int .i64 op, .int .i64 a]) (by simp [results, Tryd.results17, go_sem]) rfl ⟨rfl, below3 _ _ _ _⟩
theorem specInsOk_any (op a : Int) (w : World) :
    Calls Tryd.prog 16 #[.agg #[.int .i64 op, .int .i64 a]] w fun e w' => e = .returned (.bool (insV op a)) ∧ Below w.heap.size w w' := by
  have C := Lib.hid (fun W => l15Ins_any op a W)
  generalize insV op a = v at *
  go_enter Tryd.func16, Tryd.ntmps16
  go_wp2_with (go_at_call 46; refine (C.out _).mono ?_; rintro e wx ⟨rfl, hb⟩)
  go_ret
  exact ⟨rfl, bchain (below1 _ _) hb (by simp)⟩

theorem fnExactInsOkLaw (op a : Int) (w : World) (ht : OpTab w) :
    Calls Tryd.prog 5 #[.agg #[.int .i64 op, .int .i64 a]] w fun e w' => e = .returned (.bool true) ∧ Below w.heap.size w w' := by
  have CT := Lib.hid (fun W => toInsL_any op a W)
  have CS := Lib.hid (fun W => specInsOk_any op a W)
  have CI := Lib.hid (fun W hb => implInsOk_any op a W (ht.keep hb))
  clear ht
  generalize insV op a = v at *
  go_enter Tryd.func5, Tryd.ntmps5
  go_wp2_with (first
    | (go_at_call 16; refine (CS.out _).mono ?_; rintro e w2 ⟨rfl, hb2⟩; have HB2 := Lib.hid (bnext HB1.out hb2); have c0 := keepCell hb2 b0; have c1 := keepCell hb2 b1; clear hb2)
    | (go_at_call 18; refine (CI.out _ HB3.out).mono ?_; rintro e w4 ⟨rfl, hb4⟩; have HB4 := Lib.hid (bnext HB3.out hb4); clear hb4)
    | (go_at_call 17; refine (CT.out _).mono ?_; first
        | (rintro e w3 ⟨rfl, hb3⟩; have HB3 := Lib.hid (bnext HB2.out hb3); clear hb3)
        | (rintro e w1 ⟨rfl, hb1⟩; have b0 := keepCell (a := ⟨w.heap.size, 0, none⟩) (v := .int .i64 op) hb1 (by go_simp); have b1 := keepCell (a := ⟨w.heap.size, 1, none⟩) (v := .int .i64 a) hb1 (by go_simp); have HB1 := Lib.hid (bnext (below1 _ _) hb1); clear hb1)))
  go_ret
  exact ⟨rfl, HB4.out⟩
end Go.Proofs.YtoeofhhmkkpjbaaDoor
