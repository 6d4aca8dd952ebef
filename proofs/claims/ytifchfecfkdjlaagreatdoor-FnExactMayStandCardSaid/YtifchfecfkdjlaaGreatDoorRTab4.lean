/-
  The table of the ranges, out of the four tables that the rows of MayStand and WhyNot list.
-/
import Derived.Test.YtifchfecfkdjlaaGreatDoorMA
namespace Go.Proofs.YtifchfecfkdjlaaGreatDoor
open Go.ChangeShapes Go.WideShapes Go.ChangeAt Go.RowKit


set_option maxRecDepth 100000 in
theorem rtable4 {W : World} (h0 : laidMet Tryz.prog [("math/bits.deBruijn32tab", Rows.laid_math_bits_deBruijn32tab), ("math/bits.deBruijn64tab", Rows.laid_math_bits_deBruijn64tab), ("internal/strconv.uint64pow10", Rows.laid_internal_strconv_uint64pow10), ("loop.example/g00901/impl.numRanges", Rows.laid_loop_example_g00901_impl_numRanges)] W) : RTable W := by
  obtain ⟨ps, ⟨_, _, _, _, _, _, _, _, _, _, ⟨_, _, _, _, _, _, _, _, _, _, ⟨_, _, _, _, _, _, _, _, _, _, ⟨g', t', cs, fuel, p, q, hg', ht', hvar, hd, _, _⟩, _⟩, _⟩, _⟩, _⟩ := h0
  obtain rfl := Option.some.inj (gNR.symm.trans hg')
  obtain rfl := Option.some.inj (gNRType.symm.trans ht')
  obtain ⟨xs, m, rfl, hx, hlen, hxl, hi⟩ := DataW.trod_array Tryz.underlying98 hd
  have h6 : xs.map (·.1) = ranges.map fun x => DataW.agg [.lit (.int .i64 x.1), .lit (.int .i64 x.2)] := by
    have h7 := congrArg Prod.fst hx
    simp only at h7
    rw [nrData] at h7
    injection h7 with h8
    exact h8.symm
  intro i a b hab
  have hi10 : i < 10 := (List.getElem?_eq_some_iff.mp hab).1
  have hxi : i < xs.length := by omega
  have h1 := hi i hi10
  rw [cellsNR, List.getElem?_eq_getElem hxi] at h1
  obtain ⟨y0, y1, n, hy, hl2, k0, k1⟩ := trod_struct2 Tryz.underlying97 h1
  have h5 : (xs.map (·.1))[i]? = some (.agg [y0.1, y1.1]) := by
    rw [List.getElem?_map, List.getElem?_eq_getElem hxi, hy]
    rfl
  rw [h6, List.getElem?_map, hab] at h5
  injection h5 with h5
  injection h5 with h5
  simp only [List.cons.injEq, and_true] at h5
  obtain ⟨d0, e0, f0, _⟩ := DataW.trod_int Tryz.underlying2 k0
  obtain ⟨d1, e1, f1, _⟩ := DataW.trod_int Tryz.underlying2 k1
  rw [f0, f1] at h5
  obtain ⟨h50, h51⟩ := h5
  injection h50 with h50
  injection h50 with _ h50
  injection h51 with h51
  injection h51 with _ h51
  subst h50 h51
  have c0 : cs[2 * i]? = some (.int .i64 a) := by
    have h3 := congrArg (fun l => l[0]?) e0
    simpa [cellsI64, Nat.mul_comm] using h3
  have c1 : cs[2 * i + 1]? = some (.int .i64 b) := by
    have h3 := congrArg (fun l => l[0]?) e1
    simpa [cellsI64, Nat.mul_comm] using h3
  rw [World.var?_cell gNR hvar (2 * i), World.var?_cell gNR hvar (2 * i + 1)]
  exact ⟨c0, c1⟩

end Go.Proofs.YtifchfecfkdjlaaGreatDoor
