/-
  The walks of the law on NumRange; the table of the ranges is a hypothesis on the world.
-/
import Derived.Test.YtmofgjngigbnpacDoorBase
import Derived.Lib.LaidTab
import Derived.OpenShut
import Derived.ChangeSame
namespace Go.Proofs.YtmofgjngigbnpacDoor
open Go.ChangeShapes Go.WideShapes Go.ChangeAt Go.RowKit

/-- The ranges, at the numbers of their kinds. -/
def ranges : List (Int × Int) := [(0, 0), (0, 0), (0, 0), (0, 255), (-128, 127), (0, 65535), (-32768, 32767), (0, 4294967295), (-2147483648, 2147483647), (-9223372036854775808, 9223372036854775807)]
/-- What the row's list gives: the table's cells hold the ranges. -/
def RTable (w : World) : Prop := ∀ i a b, ranges[i]? = some (a, b) → w.cell? ⟨0, 2 * i, none⟩ = some (.int .i64 a) ∧ w.cell? ⟨0, 2 * i + 1, none⟩ = some (.int .i64 b)

theorem RTable.keep {w w' : World} (h : RTable w) (hb : Below w.heap.size w w') : RTable w' := fun i a b hi => ⟨keepCell hb (h i a b hi).1, keepCell hb (h i a b hi).2⟩

theorem gNR : Tryd.prog.globalNamed "loop.example/g00901/impl.numRanges" = some 0 := by kernel_rfl
theorem gNRType : (Tryd.prog.globals[0]?).map (·.type) = some 27 := by kernel_rfl
theorem cellsNR : Tryd.prog.cellsOf 26 = 2 := by kernel_rfl
theorem cellsI64 : Tryd.prog.cellsOf 2 = 1 := by kernel_rfl
theorem nrData : (Rows.laid_loop_example_g00901_impl_numRanges : DataW Unit) = .agg (ranges.map fun x => .agg [.lit (.int .i64 x.1), .lit (.int .i64 x.2)]) := by kernel_rfl

set_option maxRecDepth 100000 in
theorem rtable {W : World} (h : laidMetH Tryd.prog Rows.fnExactNumRangeRow.laid W) : RTable W := by
  have h0 : laidMet Tryd.prog [("loop.example/g00901/impl.numRanges", Rows.laid_loop_example_g00901_impl_numRanges)] W := h
  obtain ⟨ps, ⟨g', t', cs, fuel, p, q, hg', ht', hvar, hd, _, _⟩, _⟩ := h0
  obtain rfl := Option.some.inj (gNR.symm.trans hg')
  obtain rfl := Option.some.inj (gNRType.symm.trans ht')
  obtain ⟨xs, m, rfl, hx, hlen, hxl, hi⟩ := DataW.trod_array Tryd.underlying27 hd
  have h6 : xs.map (·.1) = ranges.map fun x => DataW.agg [.lit (.int .i64 x.1), .lit (.int .i64 x.2)] := by
    have h7 := congrArg Prod.fst hx
    simp only at h7
    rw [nrData] at h7
    injection h7 with h8
    exact h8.symm
  intro i a b hab
  have hi10 : i < 10 := (List.getElem?_eq_some_iff.mp hab).1
  have hxi : i < xs.length := by omega
  have h1 := hi i hi10
  rw [cellsNR, List.getElem?_eq_getElem hxi] at h1
  obtain ⟨y0, y1, n, hy, hl2, k0, k1⟩ := trod_struct2 Tryd.underlying26 h1
  have h5 : (xs.map (·.1))[i]? = some (.agg [y0.1, y1.1]) := by
    rw [List.getElem?_map, List.getElem?_eq_getElem hxi, hy]
    rfl
  rw [h6, List.getElem?_map, hab] at h5
  injection h5 with h5
  injection h5 with h5
  simp only [List.cons.injEq, and_true] at h5
  obtain ⟨d0, e0, f0, _⟩ := DataW.trod_int Tryd.underlying2 k0
  obtain ⟨d1, e1, f1, _⟩ := DataW.trod_int Tryd.underlying2 k1
  rw [f0, f1] at h5
  obtain ⟨h50, h51⟩ := h5
  injection h50 with h50
  injection h50 with _ h50
  injection h51 with h51
  injection h51 with _ h51
  subst h50 h51
  have c0 : cs[2 * i]? = some (.int .i64 a) := by
    have h3 := congrArg (fun l => l[0]?) e0
    simpa [cellsI64, Nat.mul_comm] using h3
  have c1 : cs[2 * i + 1]? = some (.int .i64 b) := by
    have h3 := congrArg (fun l => l[0]?) e1
    simpa [cellsI64, Nat.mul_comm] using h3
  rw [World.var?_cell gNR hvar (2 * i), World.var?_cell gNR hvar (2 * i + 1)]
  exact ⟨c0, c1⟩

theorem ownDrewN {B : Nat} {a w : World} (h : Below B a w) (n : Nat) : Below B a (w.drewN n) := ⟨h.os, h.tape, h.output, h.size, h.block⟩

/-- What both NumRange answer. -/
def nrV (k : Int) : Int × Int × Bool := if 3 ≤ k ∧ k ≤ 9 then ((ranges.getD k.toNat (0, 0)).1, (ranges.getD k.toNat (0, 0)).2, true) else (0, 0, false)

theorem implNR_out (k : Int) (h : k < 3 ∨ 9 < k) (w : World) :
    Calls Tryd.prog 5 #[.int .i64 k] w fun e w' => e = .returned (.tuple #[.int .i64 0, .int .i64 0, .bool false]) ∧ Below w.heap.size w w' := by
  by_cases h1 : k < 3
  · go_enter Tryd.func5, Tryd.ntmps5
    go_wp2
    go_ret3
    exact ⟨rfl, Below.refl _ _⟩
  · have h2 : 9 < k := by omega
    clear h
    go_enter Tryd.func5, Tryd.ntmps5
    go_wp2
    go_ret3
    exact ⟨rfl, Below.refl _ _⟩
theorem specNR_out (k : Int) (h : k < 3 ∨ 9 < k) (w : World) :
    Calls Tryd.prog 4 #[.int .i64 k] w fun e w' => e = .returned (.tuple #[.int .i64 0, .int .i64 0, .bool false]) ∧ Below w.heap.size w w' := by
  have h3 : (k == 3) = false := by rw [beq_eq_false_iff_ne]; omega
  have h4 : (k == 4) = false := by rw [beq_eq_false_iff_ne]; omega
  have h5 : (k == 5) = false := by rw [beq_eq_false_iff_ne]; omega
  have h6 : (k == 6) = false := by rw [beq_eq_false_iff_ne]; omega
  have h7 : (k == 7) = false := by rw [beq_eq_false_iff_ne]; omega
  have h8 : (k == 8) = false := by rw [beq_eq_false_iff_ne]; omega
  have h9 : (k == 9) = false := by rw [beq_eq_false_iff_ne]; omega
  clear h
  go_enter Tryd.func4, Tryd.ntmps4
  go_wp2
  go_ret3
  exact ⟨rfl, Below.refl _ _⟩

theorem implNR_3 (w : World) (h0 : w.cell? ⟨0, 6, none⟩ = some (.int .i64 0)) (h1 : w.cell? ⟨0, 7, none⟩ = some (.int .i64 255)) :
    Calls Tryd.prog 5 #[.int .i64 3] w fun e w' => e = .returned (.tuple #[.int .i64 0, .int .i64 255, .bool true]) ∧ Below w.heap.size w w' := by
  go_enter Tryd.func5, Tryd.ntmps5
  go_wp2_with fail
  go_quiet (fail)
  go_wp2_with fail
  go_ret3
  exact ⟨rfl, ownDrewN (below1 _ _) _⟩
theorem specNR_3 (w : World) :
    Calls Tryd.prog 4 #[.int .i64 3] w fun e w' => e = .returned (.tuple #[.int .i64 0, .int .i64 255, .bool true]) ∧ Below w.heap.size w w' := by
  go_enter Tryd.func4, Tryd.ntmps4
  go_wp2
  go_ret3
  exact ⟨rfl, Below.refl _ _⟩

theorem implNR_4 (w : World) (h0 : w.cell? ⟨0, 8, none⟩ = some (.int .i64 (-128))) (h1 : w.cell? ⟨0, 9, none⟩ = some (.int .i64 127)) :
    Calls Tryd.prog 5 #[.int .i64 4] w fun e w' => e = .returned (.tuple #[.int .i64 (-128), .int .i64 127, .bool true]) ∧ Below w.heap.size w w' := by
  go_enter Tryd.func5, Tryd.ntmps5
  go_wp2_with fail
  go_quiet (fail)
  go_wp2_with fail
  go_ret3
  exact ⟨rfl, ownDrewN (below1 _ _) _⟩
theorem specNR_4 (w : World) :
    Calls Tryd.prog 4 #[.int .i64 4] w fun e w' => e = .returned (.tuple #[.int .i64 (-128), .int .i64 127, .bool true]) ∧ Below w.heap.size w w' := by
  go_enter Tryd.func4, Tryd.ntmps4
  go_wp2
  go_ret3
  exact ⟨rfl, Below.refl _ _⟩

theorem implNR_5 (w : World) (h0 : w.cell? ⟨0, 10, none⟩ = some (.int .i64 0)) (h1 : w.cell? ⟨0, 11, none⟩ = some (.int .i64 65535)) :
    Calls Tryd.prog 5 #[.int .i64 5] w fun e w' => e = .returned (.tuple #[.int .i64 0, .int .i64 65535, .bool true]) ∧ Below w.heap.size w w' := by
  go_enter Tryd.func5, Tryd.ntmps5
  go_wp2_with fail
  go_quiet (fail)
  go_wp2_with fail
  go_ret3
  exact ⟨rfl, ownDrewN (below1 _ _) _⟩
theorem specNR_5 (w : World) :
    Calls Tryd.prog 4 #[.int .i64 5] w fun e w' => e = .returned (.tuple #[.int .i64 0, .int .i64 65535, .bool true]) ∧ Below w.heap.size w w' := by
  go_enter Tryd.func4, Tryd.ntmps4
  go_wp2
  go_ret3
  exact ⟨rfl, Below.refl _ _⟩

theorem implNR_6 (w : World) (h0 : w.cell? ⟨0, 12, none⟩ = some (.int .i64 (-32768))) (h1 : w.cell? ⟨0, 13, none⟩ = some (.int .i64 32767)) :
    Calls Tryd.prog 5 #[.int .i64 6] w fun e w' => e = .returned (.tuple #[.int .i64 (-32768), .int .i64 32767, .bool true]) ∧ Below w.heap.size w w' := by
  go_enter Tryd.func5, Tryd.ntmps5
  go_wp2_with fail
  go_quiet (fail)
  go_wp2_with fail
  go_ret3
  exact ⟨rfl, ownDrewN (below1 _ _) _⟩
theorem specNR_6 (w : World) :
    Calls Tryd.prog 4 #[.int .i64 6] w fun e w' => e = .returned (.tuple #[.int .i64 (-32768), .int .i64 32767, .bool true]) ∧ Below w.heap.size w w' := by
  go_enter Tryd.func4, Tryd.ntmps4
  go_wp2
  go_ret3
  exact ⟨rfl, Below.refl _ _⟩

theorem implNR_7 (w : World) (h0 : w.cell? ⟨0, 14, none⟩ = some (.int .i64 0)) (h1 : w.cell? ⟨0, 15, none⟩ = some (.int .i64 4294967295)) :
    Calls Tryd.prog 5 #[.int .i64 7] w fun e w' => e = .returned (.tuple #[.int .i64 0, .int .i64 4294967295, .bool true]) ∧ Below w.heap.size w w' := by
  go_enter Tryd.func5, Tryd.ntmps5
  go_wp2_with fail
  go_quiet (fail)
  go_wp2_with fail
  go_ret3
  exact ⟨rfl, ownDrewN (below1 _ _) _⟩
theorem specNR_7 (w : World) :
    Calls Tryd.prog 4 #[.int .i64 7] w fun e w' => e = .returned (.tuple #[.int .i64 0, .int .i64 4294967295, .bool true]) ∧ Below w.heap.size w w' := by
  go_enter Tryd.func4, Tryd.ntmps4
  go_wp2
  go_ret3
  exact ⟨rfl, Below.refl _ _⟩

theorem implNR_8 (w : World) (h0 : w.cell? ⟨0, 16, none⟩ = some (.int .i64 (-2147483648))) (h1 : w.cell? ⟨0, 17, none⟩ = some (.int .i64 2147483647)) :
    Calls Tryd.prog 5 #[.int .i64 8] w fun e w' => e = .returned (.tuple #[.int .i64 (-2147483648), .int .i64 2147483647, .bool true]) ∧ Below w.heap.size w w' := by
  go_enter Tryd.func5, Tryd.ntmps5
  go_wp2_with fail
  go_quiet (fail)
  go_wp2_with fail
  go_ret3
  exact ⟨rfl, ownDrewN (below1 _ _) _⟩
theorem specNR_8 (w : World) :
    Calls Tryd.prog 4 #[.int .i64 8] w fun e w' => e = .returned (.tuple #[.int .i64 (-2147483648), .int .i64 2147483647, .bool true]) ∧ Below w.heap.size w w' := by
  go_enter Tryd.func4, Tryd.ntmps4
  go_wp2
  go_ret3
  exact ⟨rfl, Below.refl _ _⟩

theorem implNR_9 (w : World) (h0 : w.cell? ⟨0, 18, none⟩ = some (.int .i64 (-9223372036854775808))) (h1 : w.cell? ⟨0, 19, none⟩ = some (.int .i64 9223372036854775807)) :
    Calls Tryd.prog 5 #[.int .i64 9] w fun e w' => e = .returned (.tuple #[.int .i64 (-9223372036854775808), .int .i64 9223372036854775807, .bool true]) ∧ Below w.heap.size w w' := by
  go_enter Tryd.func5, Tryd.ntmps5
  go_wp2_with fail
  go_quiet (fail)
  go_wp2_with fail
  go_ret3
  exact ⟨rfl, ownDrewN (below1 _ _) _⟩
theorem specNR_9 (w : World) :
    Calls Tryd.prog 4 #[.int .i64 9] w fun e w' => e = .returned (.tuple #[.int .i64 (-9223372036854775808), .int .i64 9223372036854775807, .bool true]) ∧ Below w.heap.size w w' := by
  go_enter Tryd.func4, Tryd.ntmps4
  go_wp2
  go_ret3
  exact ⟨rfl, Below.refl _ _⟩

theorem nr_both (k : Int) : ∃ (a b : Int) (v : Bool), (∀ w : World, Calls Tryd.prog 4 #[.int .i64 k] w fun e w' => e = .returned (.tuple #[.int .i64 a, .int .i64 b, .bool v]) ∧ Below w.heap.size w w') ∧
    (∀ w : World, RTable w → Calls Tryd.prog 5 #[.int .i64 k] w fun e w' => e = .returned (.tuple #[.int .i64 a, .int .i64 b, .bool v]) ∧ Below w.heap.size w w') := by
  by_cases h : k < 3 ∨ 9 < k
  · exact ⟨0, 0, false, fun w => specNR_out k h w, fun w _ => implNR_out k h w⟩
  · have h2 : k = 3 ∨ k = 4 ∨ k = 5 ∨ k = 6 ∨ k = 7 ∨ k = 8 ∨ k = 9 := by omega
    rcases h2 with rfl | rfl | rfl | rfl | rfl | rfl | rfl
    · exact ⟨_, _, _, fun w => specNR_3 w, fun w ht => implNR_3 w (ht 3 _ _ rfl).1 (ht 3 _ _ rfl).2⟩
    · exact ⟨_, _, _, fun w => specNR_4 w, fun w ht => implNR_4 w (ht 4 _ _ rfl).1 (ht 4 _ _ rfl).2⟩
    · exact ⟨_, _, _, fun w => specNR_5 w, fun w ht => implNR_5 w (ht 5 _ _ rfl).1 (ht 5 _ _ rfl).2⟩
    · exact ⟨_, _, _, fun w => specNR_6 w, fun w ht => implNR_6 w (ht 6 _ _ rfl).1 (ht 6 _ _ rfl).2⟩
    · exact ⟨_, _, _, fun w => specNR_7 w, fun w ht => implNR_7 w (ht 7 _ _ rfl).1 (ht 7 _ _ rfl).2⟩
    · exact ⟨_, _, _, fun w => specNR_8 w, fun w ht => implNR_8 w (ht 8 _ _ rfl).1 (ht 8 _ _ rfl).2⟩
    · exact ⟨_, _, _, fun w => specNR_9 w, fun w ht => implNR_9 w (ht 9 _ _ rfl).1 (ht 9 _ _ rfl).2⟩

theorem numRangeLaw (k : Int) (w : World) (_ : (Lit.int .i64 k).wf = true) (hT : RTable w) :
    Calls Tryd.prog 3 #[.int .i64 k] w fun e w' => e = .returned (.bool true) ∧ Below w.heap.size w w' := by
  obtain ⟨a, b, v, c1, c2⟩ := nr_both k
  have CS := Lib.hid c1
  have CI := Lib.hid c2
  have HT := Lib.hid hT
  clear c1 c2 hT
  go_enter Tryd.func3, Tryd.ntmps3
  go_wp2_with (first
    | (go_at_call 4; refine (CS.out _).mono ?_; rintro e wx ⟨rfl, ha⟩)
    | (go_at_call 5; refine (CI.out _ (HT.out.keep ha)).mono ?_; rintro e wy ⟨rfl, hb⟩))
  go_ret
  exact ⟨rfl, bchain ha hb ha.size⟩
end Go.Proofs.YtmofgjngigbnpacDoor
