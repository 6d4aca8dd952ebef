/-
  The table of the ranges is a hypothesis on the world, out of the one table that the row lists.
-/
import Derived.Test.YtmnkkpahbmcekabDoorBase
import Derived.Lib.LaidTab
import Derived.OpenShut
import Derived.ChangeSame
namespace Go.Proofs.YtmnkkpahbmcekabDoor
open Go.ChangeShapes Go.WideShapes Go.ChangeAt Go.RowKit

/-- The ranges, at the numbers of their kinds. -/
def ranges : List (Int × Int) := [(0, 0), (0, 0), (0, 0), (0, 255), (-128, 127), (0, 65535), (-32768, 32767), (0, 4294967295), (-2147483648, 2147483647), (-9223372036854775808, 9223372036854775807)]
/-- What the row's list gives: the table's cells hold the ranges. -/
def RTable (w : World) : Prop := ∀ i a b, ranges[i]? = some (a, b) → w.cell? ⟨0, 2 * i, none⟩ = some (.int .i64 a) ∧ w.cell? ⟨0, 2 * i + 1, none⟩ = some (.int .i64 b)

theorem RTable.keep {w w' : World} (h : RTable w) (hb : Below w.heap.size w w') : RTable w' := fun i a b hi => ⟨keepCell hb (h i a b hi).1, keepCell hb (h i a b hi).2⟩

theorem gNR : Tryd.prog.globalNamed "loop.example/g00901/impl.numRanges" = some 0 := by kernel_rfl
theorem gNRType : (Tryd.prog.globals[0]?).map (·.type) = some 52 := by kernel_rfl
theorem cellsNR : Tryd.prog.cellsOf 51 = 2 := by kernel_rfl
theorem cellsI64 : Tryd.prog.cellsOf 2 = 1 := by kernel_rfl
theorem nrData : (Rows.laid_loop_example_g00901_impl_numRanges : DataW Unit) = .agg (ranges.map fun x => .agg [.lit (.int .i64 x.1), .lit (.int .i64 x.2)]) := by kernel_rfl

set_option maxRecDepth 100000 in
theorem rtable {W : World} (h : laidMetH Tryd.prog Rows.fnExactFromSmallRow.laid W) : RTable W := by
  have h0 : laidMet Tryd.prog [("loop.example/g00901/impl.numRanges", Rows.laid_loop_example_g00901_impl_numRanges)] W := h
  obtain ⟨ps, ⟨g', t', cs, fuel, p, q, hg', ht', hvar, hd, _, _⟩, _⟩ := h0
  obtain rfl := Option.some.inj (gNR.symm.trans hg')
  obtain rfl := Option.some.inj (gNRType.symm.trans ht')
  obtain ⟨xs, m, rfl, hx, hlen, hxl, hi⟩ := DataW.trod_array Tryd.underlying52 hd
  have h6 : xs.map (·.1) = ranges.map fun x => DataW.agg [.lit (.int .i64 x.1), .lit (.int .i64 x.2)] := by
    have h7 := congrArg Prod.fst hx
    simp only at h7
    rw [nrData] at h7
    injection h7 with h8
    exact h8.symm
  intro i a b hab
  have hi10 : i < 10 := (List.getElem?_eq_some_iff.mp hab).1
  have hxi : i < xs.length := by omega
  have h1 := hi i hi10
  rw [cellsNR, List.getElem?_eq_getElem hxi] at h1
  obtain ⟨y0, y1, n, hy, hl2, k0, k1⟩ := trod_struct2 Tryd.underlying51 h1
  have h5 : (xs.map (·.1))[i]? = some (.agg [y0.1, y1.1]) := by
    rw [List.getElem?_map, List.getElem?_eq_getElem hxi, hy]
    rfl
  rw [h6, List.getElem?_map, hab] at h5
  injection h5 with h5
  injection h5 with h5
  simp only [List.cons.injEq, and_true] at h5
  obtain ⟨d0, e0, f0, _⟩ := DataW.trod_int Tryd.underlying2 k0
  obtain ⟨d1, e1, f1, _⟩ := DataW.trod_int Tryd.underlying2 k1
  rw [f0, f1] at h5
  obtain ⟨h50, h51⟩ := h5
  injection h50 with h50
  injection h50 with _ h50
  injection h51 with h51
  injection h51 with _ h51
  subst h50 h51
  have c0 : cs[2 * i]? = some (.int .i64 a) := by
    have h3 := congrArg (fun l => l[0]?) e0
    simpa [cellsI64, Nat.mul_comm] using h3
  have c1 : cs[2 * i + 1]? = some (.int .i64 b) := by
    have h3 := congrArg (fun l => l[0]?) e1
    simpa [cellsI64, Nat.mul_comm] using h3
  rw [World.var?_cell gNR hvar (2 * i), World.var?_cell gNR hvar (2 * i + 1)]
  exact ⟨c0, c1⟩

end Go.Proofs.YtmnkkpahbmcekabDoor
