/-
  What the row of FnExactInsText lists: the powers of ten, and the mnemonics.
-/
import Derived.Test.YtoeofhhmkkpjbaaDoorInsTextLaw
import Derived.Lib.LaidTab
namespace Go.Proofs.YtoeofhhmkkpjbaaDoor
open Go.ChangeShapes Go.WideShapes Go.ChangeAt Go.RowKit

theorem gPowJ : Tryd.prog.globalNamed "internal/strconv.uint64pow10" = some 6 := by kernel_rfl
theorem gPowTypeJ : (Tryd.prog.globals[6]?).map (·.type) = some 172 := by kernel_rfl
theorem cellsU64J : Tryd.prog.cellsOf 144 = 1 := by kernel_rfl
theorem cellsPowJ : Tryd.prog.cellsOf 172 = 20 := by kernel_rfl
theorem powDataJ : (Rows.laid_internal_strconv_uint64pow10 : DataW Unit) = Lib.tabData .u64 Lib.pow10Tab := by kernel_rfl
set_option maxRecDepth 100000 in
theorem powsIT {W : World} (h : laidMetH Tryd.prog Rows.fnExactInsTextRow.laid W) : PowsJ W := by
  have h0 : laidMet Tryd.prog [("math/bits.deBruijn32tab", Rows.laid_math_bits_deBruijn32tab), ("math/bits.deBruijn64tab", Rows.laid_math_bits_deBruijn64tab), ("internal/strconv.uint64pow10", Rows.laid_internal_strconv_uint64pow10), ("loop.example/g00901/impl.mnemonics", Rows.laid_loop_example_g00901_impl_mnemonics)] W := h
  obtain ⟨ps, ⟨_, _, _, _, _, _, _, _, _, _, ⟨_, _, _, _, _, _, _, _, _, _, ⟨g', t', cs, fuel, p, q, hg', ht', hvar, hd, _, _⟩, _⟩, _⟩, _⟩ := h0
  obtain rfl := Option.some.inj (gPowJ.symm.trans hg')
  obtain rfl := Option.some.inj (gPowTypeJ.symm.trans ht')
  rw [powDataJ] at hd
  unfold PowsJ Lib.TabIs
  rw [hvar, ← Lib.cells_of_tab Tryd.underlying172 Tryd.underlying144 cellsU64J cellsPowJ hd]
set_option maxRecDepth 100000 in
theorem opTabIT {W : World} (h : laidMetH Tryd.prog Rows.fnExactInsTextRow.laid W) : OpTab W := by
  have h0 : laidMet Tryd.prog [("math/bits.deBruijn32tab", Rows.laid_math_bits_deBruijn32tab), ("math/bits.deBruijn64tab", Rows.laid_math_bits_deBruijn64tab), ("internal/strconv.uint64pow10", Rows.laid_internal_strconv_uint64pow10), ("loop.example/g00901/impl.mnemonics", Rows.laid_loop_example_g00901_impl_mnemonics)] W := h
  obtain ⟨ps, ⟨_, _, _, _, _, _, _, _, _, _, ⟨_, _, _, _, _, _, _, _, _, _, ⟨_, _, _, _, _, _, _, _, _, _, ⟨g', t', cs, fuel, p, q, hg', ht', hvar, hd, _, _⟩, _⟩, _⟩, _⟩, _⟩ := h0
  obtain rfl := Option.some.inj (gOp.symm.trans hg')
  obtain rfl := Option.some.inj (gOpType.symm.trans ht')
  obtain ⟨xs, m, rfl, hx, hlen, hxl, hi⟩ := DataW.trod_array Tryd.underlying71 hd
  intro i hi41
  have h1 := hi i hi41
  rw [cellsOp, Nat.mul_one] at h1
  rw [World.var?_cell gOp hvar i]
  have hxi : i < xs.length := by omega
  rw [List.getElem?_eq_getElem hxi] at h1
  obtain ⟨s, hs, hxs, _⟩ := DataW.trod_string Tryd.underlying9 h1
  have h2 : cs.toList[i]? = some (.string s) := by
    have h3 : ((cs.toList.drop i).take 1)[0]? = some (.string s) := by rw [hs]; rfl
    simpa using h3
  have h4 : cs[i]? = some (.string s) := by simpa using h2
  rw [h4]
  have h5 : (xs.map (·.1))[i]? = some (.lit (.string s.data.toList)) := by
    rw [List.getElem?_map, List.getElem?_eq_getElem hxi, hxs]; rfl
  have h6 : xs.map (·.1) = opWs.map fun l => DataW.lit (.string l) := by
    have h7 := congrArg Prod.fst hx
    simp only at h7
    injection h7 with h8
    exact h8.symm
  rw [h6, List.getElem?_map] at h5
  have h9 : opWs[i]? = some s.data.toList := by
    cases hw : opWs[i]? with
    | none => rw [hw] at h5; cases h5
    | some l =>
      rw [hw] at h5
      injection h5 with h5
      injection h5 with h5
      injection h5 with h5
      rw [h5]
  unfold opB
  rw [List.getD_eq_getElem?_getD, h9]
  rfl

end Go.Proofs.YtoeofhhmkkpjbaaDoor
