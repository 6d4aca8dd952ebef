/-
  The walk of the law FnExactInsText.
-/
import Derived.Test.YtoeofhhmkkpjbaaDoorInsText
import Derived.Test.YtoeofhhmkkpjbaaDoorInsOkLaw
namespace Go.Proofs.YtoeofhhmkkpjbaaDoor
open Go.ChangeShapes Go.WideShapes Go.ChangeAt Go.RowKit

theorem specInsText_any (op a : Int) (ha0 : -9223372036854775808 ≤ a) (ha1 : a ≤ 9223372036854775807) (w : World) :
    Calls Tryd.prog 19 #[.agg #[.int .i64 op, .int .i64 a]] w fun e w' => e = .returned (.string (if insV op a = true then insT op a else ⟨#[]⟩)) ∧ Below w.heap.size w w' := by
  have CI := Lib.hid (fun W => l15Ins_any op a W)
  have CT := (fun W (h : insV op a = true) => l15InsText_any op a h ha0 ha1 W)
  generalize insT op a = T at *
  clear ha0 ha1
  cases hv : insV op a with
  | false =>
    rw [hv] at CI
    clear CT hv
    go_enter Tryd.func19, Tryd.ntmps19
    go_wp2_with (go_at_call 46; refine (CI.out _).mono ?_; rintro e w1 ⟨rfl, h1⟩; have HB1 := Lib.hid (bnext (below1 _ _) h1); clear h1)
    go_ret
    exact ⟨rfl, HB1.out⟩
  | true =>
    have CT := Lib.hid (fun W => CT W hv)
    rw [hv] at CI
    clear hv
    go_enter Tryd.func19, Tryd.ntmps19
    go_wp2_with (first
      | (go_at_call 46; refine (CI.out _).mono ?_; rintro e w1 ⟨rfl, h1⟩; have HB1 := Lib.hid (bnext (below1 _ _) h1); have c0 := keepCell (a := ⟨w.heap.size, 0, none⟩) (v := .int .i64 op) h1 (by go_simp); have c1 := keepCell (a := ⟨w.heap.size, 1, none⟩) (v := .int .i64 a) h1 (by go_simp); clear h1)
      | (go_at_call 49; refine (CT.out _).mono ?_; rintro e w2 ⟨rfl, h2⟩; have HB2 := Lib.hid (bnext HB1.out h2); clear h2))
    go_ret
    exact ⟨rfl, HB2.out⟩

theorem fnExactInsTextLaw (op a : Int) (w : World) (_ : -9223372036854775808 ≤ op ∧ op ≤ 9223372036854775807) (ha : -9223372036854775808 ≤ a ∧ a ≤ 9223372036854775807) (hp : PowsJ w) (ht : OpTab w) :
    Calls Tryd.prog 6 #[.agg #[.int .i64 op, .int .i64 a]] w fun e w' => e = .returned (.bool true) ∧ Below w.heap.size w w' := by
  have CT := Lib.hid (fun W => toInsL_any op a W)
  have CS := Lib.hid (fun W => specInsText_any op a ha.1 ha.2 W)
  have CI := Lib.hid (fun W hb => implInsText_any op a ha.1 ha.2 W (ht.keep hb) (hp.keep hb))
  clear ht hp ha
  generalize (if insV op a = true then insT op a else (⟨#[]⟩ : ByteArray)) = T at *
  go_enter Tryd.func6, Tryd.ntmps6
  go_wp2_with (first
    | (go_at_call 19; refine (CS.out _).mono ?_; rintro e w2 ⟨rfl, hb2⟩; have HB2 := Lib.hid (bnext HB1.out hb2); have c0 := keepCell hb2 b0; have c1 := keepCell hb2 b1; clear hb2)
    | (go_at_call 20; refine (CI.out _ HB3.out).mono ?_; rintro e w4 ⟨rfl, hb4⟩; have HB4 := Lib.hid (bnext HB3.out hb4); clear hb4)
    | (go_at_call 17; refine (CT.out _).mono ?_; first
        | (rintro e w3 ⟨rfl, hb3⟩; have HB3 := Lib.hid (bnext HB2.out hb3); clear hb3)
        | (rintro e w1 ⟨rfl, hb1⟩; have b0 := keepCell (a := ⟨w.heap.size, 0, none⟩) (v := .int .i64 op) hb1 (by go_simp); have b1 := keepCell (a := ⟨w.heap.size, 1, none⟩) (v := .int .i64 a) hb1 (by go_simp); have HB1 := Lib.hid (bnext (below1 _ _) hb1); clear hb1)))
  go_ret
  exact ⟨rfl, HB4.out⟩
end Go.Proofs.YtoeofhhmkkpjbaaDoor
