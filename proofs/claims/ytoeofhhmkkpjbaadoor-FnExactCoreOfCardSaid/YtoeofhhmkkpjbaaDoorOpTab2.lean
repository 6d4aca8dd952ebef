/-
  What the rows of ModuleShape, CoreOf and ImportOf list: the mnemonics stand second.
-/
import Derived.Test.YtoeofhhmkkpjbaaDoorOpTab
import Derived.Lib.LaidTab
namespace Go.Proofs.YtoeofhhmkkpjbaaDoor
open Go.ChangeShapes Go.WideShapes Go.ChangeAt Go.RowKit

set_option maxRecDepth 100000 in
theorem opTab2 {W : World} (h0 : laidMet Tryd.prog [("unicode/utf8.acceptRanges", Rows.laid_unicode_utf8_acceptRanges), ("loop.example/g00901/impl.mnemonics", Rows.laid_loop_example_g00901_impl_mnemonics), ("unicode/utf8.first", Rows.laid_unicode_utf8_first)] W) : OpTab W := by
  obtain ⟨ps, ⟨_, _, _, _, _, _, _, _, _, _, ⟨g', t', cs, fuel, p, q, hg', ht', hvar, hd, _, _⟩, _⟩, _⟩ := h0
  obtain rfl := Option.some.inj (gOp.symm.trans hg')
  obtain rfl := Option.some.inj (gOpType.symm.trans ht')
  obtain ⟨xs, m, rfl, hx, hlen, hxl, hi⟩ := DataW.trod_array Tryd.underlying71 hd
  intro i hi41
  have h1 := hi i hi41
  rw [cellsOp, Nat.mul_one] at h1
  rw [World.var?_cell gOp hvar i]
  have hxi : i < xs.length := by omega
  rw [List.getElem?_eq_getElem hxi] at h1
  obtain ⟨s, hs, hxs, _⟩ := DataW.trod_string Tryd.underlying9 h1
  have h2 : cs.toList[i]? = some (.string s) := by
    have h3 : ((cs.toList.drop i).take 1)[0]? = some (.string s) := by rw [hs]; rfl
    simpa using h3
  have h4 : cs[i]? = some (.string s) := by simpa using h2
  rw [h4]
  have h5 : (xs.map (·.1))[i]? = some (.lit (.string s.data.toList)) := by
    rw [List.getElem?_map, List.getElem?_eq_getElem hxi, hxs]; rfl
  have h6 : xs.map (·.1) = opWs.map fun l => DataW.lit (.string l) := by
    have h7 := congrArg Prod.fst hx
    simp only at h7
    injection h7 with h8
    exact h8.symm
  rw [h6, List.getElem?_map] at h5
  have h9 : opWs[i]? = some s.data.toList := by
    cases hw : opWs[i]? with
    | none => rw [hw] at h5; cases h5
    | some l =>
      rw [hw] at h5
      injection h5 with h5
      injection h5 with h5
      injection h5 with h5
      rw [h5]
  unfold opB
  rw [List.getD_eq_getElem?_getD, h9]
  rfl

end Go.Proofs.YtoeofhhmkkpjbaaDoor
