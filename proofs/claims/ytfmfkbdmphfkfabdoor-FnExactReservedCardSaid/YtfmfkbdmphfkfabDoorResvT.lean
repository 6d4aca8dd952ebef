/-
  The walks of both Reserved; the table of the words is a hypothesis on the world.
-/
import Derived.Test.YtfmfkbdmphfkfabDoorBase
import Derived.Lib.LaidTab
import Derived.OpenShut
import Derived.OwnWalk
import Derived.Laws.AppendOwn
import Derived.Laws.OwnMore
namespace Go.Proofs.YtfmfkbdmphfkfabDoor
open Go.ChangeShapes Go.WideShapes Go.ChangeAt Go.RowKit

/-- The words, as Go's bytes. -/
def words : List (List UInt8) := [[], [117, 110, 105, 116], [98, 111, 111, 108], [117, 56], [115, 56], [117, 49, 54], [115, 49, 54], [117, 51, 50], [115, 51, 50], [115, 54, 52], [99, 104, 97, 114], [116, 101, 120, 116], [108, 105, 115, 116], [111, 112, 116, 105, 111, 110], [114, 101, 115, 117, 108, 116], [116, 117, 112, 108, 101], [114, 101, 99, 111, 114, 100], [118, 97, 114, 105, 97, 110, 116], [101, 110, 117, 109], [102, 108, 97, 103, 115], [111, 119, 110], [98, 111, 114, 114, 111, 119], [115, 116, 114, 101, 97, 109], [102, 117, 116, 117, 114, 101]]
def wordB (i : Nat) : ByteArray := ⟨(words.getD i []).toArray⟩
/-- What the row's list gives: the table's cells hold the words. -/
def Table (w : World) : Prop := ∀ i, i < 24 → w.cell? ⟨0, i, none⟩ = some (.string ⟨(words.getD i []).toArray⟩)

theorem gTab : Tryd.prog.globalNamed "loop.example/g00901/impl.typeWords" = some 0 := by kernel_rfl
theorem gTabType : (Tryd.prog.globals[0]?).map (·.type) = some 60 := by kernel_rfl
theorem cells9 : Tryd.prog.cellsOf 9 = 1 := by kernel_rfl
set_option maxRecDepth 100000 in
theorem table {W : World} (h : laidMetH Tryd.prog Rows.fnExactReservedRow.laid W) : Table W := by
  have h0 : laidMet Tryd.prog [("loop.example/g00901/impl.typeWords", Rows.laid_loop_example_g00901_impl_typeWords)] W := h
  obtain ⟨ps, ⟨g', t', cs, fuel, p, q, hg', ht', hvar, hd, _, _⟩, _⟩ := h0
  obtain rfl := Option.some.inj (gTab.symm.trans hg')
  obtain rfl := Option.some.inj (gTabType.symm.trans ht')
  obtain ⟨xs, m, rfl, hx, hlen, hxl, hi⟩ := DataW.trod_array Tryd.underlying60 hd
  intro i hi24
  have h1 := hi i hi24
  rw [cells9, Nat.mul_one] at h1
  rw [World.var?_cell gTab hvar i]
  have hxi : i < xs.length := by omega
  rw [List.getElem?_eq_getElem hxi] at h1
  obtain ⟨s, hs, hxs, _⟩ := DataW.trod_string Tryd.underlying9 h1
  have h2 : cs.toList[i]? = some (.string s) := by
    have h3 : ((cs.toList.drop i).take 1)[0]? = some (.string s) := by rw [hs]; rfl
    simpa using h3
  have h4 : cs[i]? = some (.string s) := by simpa using h2
  rw [h4]
  have h5 : (xs.map (·.1))[i]? = some (.lit (.string s.data.toList)) := by
    rw [List.getElem?_map, List.getElem?_eq_getElem hxi, hxs]; rfl
  have h6 : xs.map (·.1) = words.map fun l => DataW.lit (.string l) := by
    have h7 := congrArg Prod.fst hx
    simp only at h7
    injection h7 with h8
    exact h8.symm
  rw [h6, List.getElem?_map] at h5
  have h9 : words[i]? = some s.data.toList := by
    cases hw : words[i]? with
    | none => rw [hw] at h5; cases h5
    | some l =>
      rw [hw] at h5
      injection h5 with h5
      injection h5 with h5
      injection h5 with h5
      rw [h5]
  rw [List.getD_eq_getElem?_getD, h9]
  rfl


end Go.Proofs.YtfmfkbdmphfkfabDoor
