/-
  What the row of FnExactReadIns lists: the powers of ten, the two errors of strconv, and the mnemonics.
-/
import Derived.Test.YtoeofhhmkkpjbaaDoorReadInsLaw
import Derived.LaidLaws
import Derived.Lib.LaidTab
namespace Go.Proofs.YtoeofhhmkkpjbaaDoor
open Go.ChangeShapes Go.WideShapes Go.ChangeAt Go.RowKit

theorem gPowR : Tryd.prog.globalNamed "internal/strconv.uint64pow10" = some 6 := by kernel_rfl
theorem gPowTypeR : (Tryd.prog.globals[6]?).map (·.type) = some 172 := by kernel_rfl
theorem cellsU64R : Tryd.prog.cellsOf 144 = 1 := by kernel_rfl
theorem cellsPowR : Tryd.prog.cellsOf 172 = 20 := by kernel_rfl
theorem powDataR : (Rows.laid_internal_strconv_uint64pow10 : DataW Unit) = Lib.tabData .u64 Lib.pow10Tab := by kernel_rfl
set_option maxRecDepth 100000 in
theorem powsR {W : World} (h : laidMetH Tryd.prog Rows.fnExactReadInsRow.laid W) : PowsJ W := by
  have h0 : laidMet Tryd.prog [("math/bits.deBruijn32tab", Rows.laid_math_bits_deBruijn32tab), ("math/bits.deBruijn64tab", Rows.laid_math_bits_deBruijn64tab), ("internal/strconv.uint64pow10", Rows.laid_internal_strconv_uint64pow10), ("strconv.ErrRange", Rows.laid_strconv_ErrRange), ("strconv.ErrSyntax", Rows.laid_strconv_ErrSyntax), ("loop.example/g00901/impl.mnemonics", Rows.laid_loop_example_g00901_impl_mnemonics)] W := h
  obtain ⟨ps, ⟨_, _, _, _, _, _, _, _, _, _, ⟨_, _, _, _, _, _, _, _, _, _, ⟨g', t', cs, fuel, p, q, hg', ht', hvar, hd, _, _⟩, _⟩, _⟩, _⟩ := h0
  obtain rfl := Option.some.inj (gPowR.symm.trans hg')
  obtain rfl := Option.some.inj (gPowTypeR.symm.trans ht')
  rw [powDataR] at hd
  unfold PowsJ Lib.TabIs
  rw [hvar, ← Lib.cells_of_tab Tryd.underlying172 Tryd.underlying144 cellsU64R cellsPowR hd]
set_option maxRecDepth 100000 in
theorem errRangeR {W : World} (h : laidMetH Tryd.prog Rows.fnExactReadInsRow.laid W) : ∃ ev, W.cell? ⟨3, 0, none⟩ = some ev ∧ (ev = .nilIface ∨ ∃ te pe, ev = .iface te pe) := by
  have h0 : laidMet Tryd.prog [("math/bits.deBruijn32tab", Rows.laid_math_bits_deBruijn32tab), ("math/bits.deBruijn64tab", Rows.laid_math_bits_deBruijn64tab), ("internal/strconv.uint64pow10", Rows.laid_internal_strconv_uint64pow10), ("strconv.ErrRange", Rows.laid_strconv_ErrRange), ("strconv.ErrSyntax", Rows.laid_strconv_ErrSyntax), ("loop.example/g00901/impl.mnemonics", Rows.laid_loop_example_g00901_impl_mnemonics)] W := h
  obtain ⟨ps, ⟨_, _, _, _, _, _, _, _, _, _, ⟨_, _, _, _, _, _, _, _, _, _, ⟨_, _, _, _, _, _, _, _, _, _, ⟨g', t', cs, fuel, p, q, hg', ht', hvar, hd, _, _⟩, _⟩, _⟩, _⟩, _⟩ := h0
  obtain rfl := Option.some.inj ((show Tryd.prog.globalNamed "strconv.ErrRange" = some 3 by kernel_rfl).symm.trans hg')
  obtain rfl := Option.some.inj ((show (Tryd.prog.globals[3]?).map (·.type) = some 78 by kernel_rfl).symm.trans ht')
  obtain ⟨f1, u, v, hcs, _⟩ := iface_of_trod Tryd.underlying78 hd
  obtain ⟨l⟩ := cs
  obtain rfl : l = [.iface u v] := hcs
  refine ⟨.iface u v, ?_, Or.inr ⟨u, v, rfl⟩⟩
  have h1 := World.var?_cell (show Tryd.prog.globalNamed "strconv.ErrRange" = some 3 by kernel_rfl) hvar 0
  rw [h1]
  rfl
set_option maxRecDepth 100000 in
theorem errSyntaxR {W : World} (h : laidMetH Tryd.prog Rows.fnExactReadInsRow.laid W) : ∃ ev, W.cell? ⟨2, 0, none⟩ = some ev ∧ (ev = .nilIface ∨ ∃ te pe, ev = .iface te pe) := by
  have h0 : laidMet Tryd.prog [("math/bits.deBruijn32tab", Rows.laid_math_bits_deBruijn32tab), ("math/bits.deBruijn64tab", Rows.laid_math_bits_deBruijn64tab), ("internal/strconv.uint64pow10", Rows.laid_internal_strconv_uint64pow10), ("strconv.ErrRange", Rows.laid_strconv_ErrRange), ("strconv.ErrSyntax", Rows.laid_strconv_ErrSyntax), ("loop.example/g00901/impl.mnemonics", Rows.laid_loop_example_g00901_impl_mnemonics)] W := h
  obtain ⟨ps, ⟨_, _, _, _, _, _, _, _, _, _, ⟨_, _, _, _, _, _, _, _, _, _, ⟨_, _, _, _, _, _, _, _, _, _, ⟨_, _, _, _, _, _, _, _, _, _, ⟨g', t', cs, fuel, p, q, hg', ht', hvar, hd, _, _⟩, _⟩, _⟩, _⟩, _⟩, _⟩ := h0
  obtain rfl := Option.some.inj ((show Tryd.prog.globalNamed "strconv.ErrSyntax" = some 2 by kernel_rfl).symm.trans hg')
  obtain rfl := Option.some.inj ((show (Tryd.prog.globals[2]?).map (·.type) = some 78 by kernel_rfl).symm.trans ht')
  obtain ⟨f1, u, v, hcs, _⟩ := iface_of_trod Tryd.underlying78 hd
  obtain ⟨l⟩ := cs
  obtain rfl : l = [.iface u v] := hcs
  refine ⟨.iface u v, ?_, Or.inr ⟨u, v, rfl⟩⟩
  have h1 := World.var?_cell (show Tryd.prog.globalNamed "strconv.ErrSyntax" = some 2 by kernel_rfl) hvar 0
  rw [h1]
  rfl
set_option maxRecDepth 100000 in
theorem opTabR {W : World} (h : laidMetH Tryd.prog Rows.fnExactReadInsRow.laid W) : OpTab W := by
  have h0 : laidMet Tryd.prog [("math/bits.deBruijn32tab", Rows.laid_math_bits_deBruijn32tab), ("math/bits.deBruijn64tab", Rows.laid_math_bits_deBruijn64tab), ("internal/strconv.uint64pow10", Rows.laid_internal_strconv_uint64pow10), ("strconv.ErrRange", Rows.laid_strconv_ErrRange), ("strconv.ErrSyntax", Rows.laid_strconv_ErrSyntax), ("loop.example/g00901/impl.mnemonics", Rows.laid_loop_example_g00901_impl_mnemonics)] W := h
  obtain ⟨ps, ⟨_, _, _, _, _, _, _, _, _, _, ⟨_, _, _, _, _, _, _, _, _, _, ⟨_, _, _, _, _, _, _, _, _, _, ⟨_, _, _, _, _, _, _, _, _, _, ⟨_, _, _, _, _, _, _, _, _, _, ⟨g', t', cs, fuel, p, q, hg', ht', hvar, hd, _, _⟩, _⟩, _⟩, _⟩, _⟩, _⟩, _⟩ := h0
  obtain rfl := Option.some.inj (gOp.symm.trans hg')
  obtain rfl := Option.some.inj (gOpType.symm.trans ht')
  obtain ⟨xs, m, rfl, hx, hlen, hxl, hi⟩ := DataW.trod_array Tryd.underlying71 hd
  intro i hi41
  have h1 := hi i hi41
  rw [cellsOp, Nat.mul_one] at h1
  rw [World.var?_cell gOp hvar i]
  have hxi : i < xs.length := by omega
  rw [List.getElem?_eq_getElem hxi] at h1
  obtain ⟨s, hs, hxs, _⟩ := DataW.trod_string Tryd.underlying9 h1
  have h2 : cs.toList[i]? = some (.string s) := by
    have h3 : ((cs.toList.drop i).take 1)[0]? = some (.string s) := by rw [hs]; rfl
    simpa using h3
  have h4 : cs[i]? = some (.string s) := by simpa using h2
  rw [h4]
  have h5 : (xs.map (·.1))[i]? = some (.lit (.string s.data.toList)) := by
    rw [List.getElem?_map, List.getElem?_eq_getElem hxi, hxs]; rfl
  have h6 : xs.map (·.1) = opWs.map fun l => DataW.lit (.string l) := by
    have h7 := congrArg Prod.fst hx
    simp only at h7
    injection h7 with h8
    exact h8.symm
  rw [h6, List.getElem?_map] at h5
  have h9 : opWs[i]? = some s.data.toList := by
    cases hw : opWs[i]? with
    | none => rw [hw] at h5; cases h5
    | some l =>
      rw [hw] at h5
      injection h5 with h5
      injection h5 with h5
      injection h5 with h5
      rw [h5]
  unfold opB
  rw [List.getD_eq_getElem?_getD, h9]
  rfl
theorem errR {W : World} (h : laidMetH Tryd.prog Rows.fnExactReadInsRow.laid W) : ErrV W := ⟨errSyntaxR h, errRangeR h⟩
end Go.Proofs.YtoeofhhmkkpjbaaDoor
