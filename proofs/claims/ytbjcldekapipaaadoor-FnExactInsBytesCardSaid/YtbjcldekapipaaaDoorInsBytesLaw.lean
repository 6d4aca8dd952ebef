/-
  The walk of the law FnExactInsBytes.
-/
import Derived.Test.YtbjcldekapipaaaDoorInsBy
namespace Go.Proofs.YtbjcldekapipaaaDoor
open Go.ChangeShapes Go.WideShapes Go.ChangeAt Go.RowKit

theorem fnExactInsBytesLaw (op a : Int) (w : World) (ho : -9223372036854775808 ≤ op ∧ op ≤ 9223372036854775807) (ha : -9223372036854775808 ≤ a ∧ a ≤ 9223372036854775807) (ht : OpTab w) :
    Calls Tryd.prog 4 #[.agg #[.int .i64 op, .int .i64 a]] w fun e w' => e = .returned (.bool true) ∧ Below w.heap.size w w' := by
  have CT := Lib.hid (fun W => toInsL_any op a W)
  have CS := Lib.hid (fun W => specInsBytes_any op a ha.1 ha.2 W)
  have CI := Lib.hid (fun W hb => implInsBytes_any op a ho.1 ho.2 ha.1 ha.2 W (ht.keep hb))
  clear ht ha ho
  generalize (if insV op a = true then insBy op a else (⟨#[]⟩ : ByteArray)) = T at *
  go_enter Tryd.func4, Tryd.ntmps4
  go_wp2_with (first
    | (go_at_call 11; refine (CS.out _).mono ?_; rintro e w2 ⟨rfl, hb2⟩; have HB2 := Lib.hid (bnext HB1.out hb2); have c0 := keepCell hb2 b0; have c1 := keepCell hb2 b1; clear hb2)
    | (go_at_call 13; refine (CI.out _ HB3.out).mono ?_; rintro e w4 ⟨rfl, hb4⟩; have HB4 := Lib.hid (bnext HB3.out hb4); clear hb4)
    | (go_at_call 12; refine (CT.out _).mono ?_; first
        | (rintro e w3 ⟨rfl, hb3⟩; have HB3 := Lib.hid (bnext HB2.out hb3); clear hb3)
        | (rintro e w1 ⟨rfl, hb1⟩; have b0 := keepCell (a := ⟨w.heap.size, 0, none⟩) (v := .int .i64 op) hb1 (by go_simp); have b1 := keepCell (a := ⟨w.heap.size, 1, none⟩) (v := .int .i64 a) hb1 (by go_simp); have HB1 := Lib.hid (bnext (below1 _ _) hb1); clear hb1)))
  go_ret
  exact ⟨rfl, HB4.out⟩
end Go.Proofs.YtbjcldekapipaaaDoor
