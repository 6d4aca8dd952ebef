/-
  The mnemonics: the table of the program, and the list of the model.
-/
import Derived.Test.YtbjcldekapipaaaGreatDoorIn
import Derived.Lib.LaidTab
import Derived.OpenShut
import Derived.OwnWalk
import Derived.Laws.AppendOwn
import Derived.Laws.OwnMore
namespace Go.Proofs.YtbjcldekapipaaaGreatDoor
open Go.ChangeShapes Go.WideShapes Go.ChangeAt Go.RowKit

/-- The mnemonics, as Go's bytes. -/
def opWs : List (List UInt8) := [[], [99, 111, 110, 115, 116], [103, 101, 116], [115, 101, 116], [116, 101, 101], [100, 114, 111, 112], [97, 100, 100], [115, 117, 98], [109, 117, 108], [100, 105, 118], [114, 101, 109], [97, 110, 100], [111, 114], [120, 111, 114], [115, 104, 108], [115, 104, 114], [101, 113], [110, 101], [108, 116], [103, 116], [108, 101], [103, 101], [101, 113, 122], [115, 101, 108, 101, 99, 116], [98, 108, 111, 99, 107], [108, 111, 111, 112], [105, 102], [101, 108, 115, 101], [101, 110, 100], [98, 114], [98, 114, 105, 102], [114, 101, 116, 117, 114, 110], [99, 97, 108, 108], [104, 111, 115, 116], [108, 111, 97, 100, 56], [108, 111, 97, 100, 51, 50], [108, 111, 97, 100, 54, 52], [115, 116, 111, 114, 101, 56], [115, 116, 111, 114, 101, 51, 50], [115, 116, 111, 114, 101, 54, 52], [116, 114, 97, 112]]
def opB (i : Nat) : ByteArray := ⟨(opWs.getD i []).toArray⟩
/-- What the row's list gives: the table's cells hold the mnemonics. -/
def OpTab (w : World) : Prop := ∀ i, i < 41 → w.cell? ⟨0, i, none⟩ = some (.string (opB i))
theorem OpTab.keep {w w' : World} (h : OpTab w) (hb : Below w.heap.size w w') : OpTab w' := fun i hi => keepCell hb (h i hi)
theorem gOp : Tryz.prog.globalNamed "loop.example/g00901/impl.mnemonics" = some 0 := by kernel_rfl
theorem gOpType : (Tryz.prog.globals[0]?).map (·.type) = some 161 := by kernel_rfl
theorem cellsOp : Tryz.prog.cellsOf 9 = 1 := by kernel_rfl
set_option maxRecDepth 100000 in
theorem opTab1 {W : World} (h0 : laidMet Tryz.prog [("loop.example/g00901/impl.mnemonics", Rows.laid_loop_example_g00901_impl_mnemonics)] W) : OpTab W := by
  obtain ⟨ps, ⟨g', t', cs, fuel, p, q, hg', ht', hvar, hd, _, _⟩, _⟩ := h0
  obtain rfl := Option.some.inj (gOp.symm.trans hg')
  obtain rfl := Option.some.inj (gOpType.symm.trans ht')
  obtain ⟨xs, m, rfl, hx, hlen, hxl, hi⟩ := DataW.trod_array Tryz.underlying161 hd
  intro i hi41
  have h1 := hi i hi41
  rw [cellsOp, Nat.mul_one] at h1
  rw [World.var?_cell gOp hvar i]
  have hxi : i < xs.length := by omega
  rw [List.getElem?_eq_getElem hxi] at h1
  obtain ⟨s, hs, hxs, _⟩ := DataW.trod_string Tryz.underlying9 h1
  have h2 : cs.toList[i]? = some (.string s) := by
    have h3 : ((cs.toList.drop i).take 1)[0]? = some (.string s) := by rw [hs]; rfl
    simpa using h3
  have h4 : cs[i]? = some (.string s) := by simpa using h2
  rw [h4]
  have h5 : (xs.map (·.1))[i]? = some (.lit (.string s.data.toList)) := by
    rw [List.getElem?_map, List.getElem?_eq_getElem hxi, hxs]; rfl
  have h6 : xs.map (·.1) = opWs.map fun l => DataW.lit (.string l) := by
    have h7 := congrArg Prod.fst hx
    simp only at h7
    injection h7 with h8
    exact h8.symm
  rw [h6, List.getElem?_map] at h5
  have h9 : opWs[i]? = some s.data.toList := by
    cases hw : opWs[i]? with
    | none => rw [hw] at h5; cases h5
    | some l =>
      rw [hw] at h5
      injection h5 with h5
      injection h5 with h5
      injection h5 with h5
      rw [h5]
  unfold opB
  rw [List.getD_eq_getElem?_getD, h9]
  rfl

/-- The model's list. -/
def OpL : Array Value := #[.string ⟨#[99, 111, 110, 115, 116]⟩, .string ⟨#[103, 101, 116]⟩, .string ⟨#[115, 101, 116]⟩, .string ⟨#[116, 101, 101]⟩, .string ⟨#[100, 114, 111, 112]⟩, .string ⟨#[97, 100, 100]⟩, .string ⟨#[115, 117, 98]⟩, .string ⟨#[109, 117, 108]⟩, .string ⟨#[100, 105, 118]⟩, .string ⟨#[114, 101, 109]⟩, .string ⟨#[97, 110, 100]⟩, .string ⟨#[111, 114]⟩, .string ⟨#[120, 111, 114]⟩, .string ⟨#[115, 104, 108]⟩, .string ⟨#[115, 104, 114]⟩, .string ⟨#[101, 113]⟩, .string ⟨#[110, 101]⟩, .string ⟨#[108, 116]⟩, .string ⟨#[103, 116]⟩, .string ⟨#[108, 101]⟩, .string ⟨#[103, 101]⟩, .string ⟨#[101, 113, 122]⟩, .string ⟨#[115, 101, 108, 101, 99, 116]⟩, .string ⟨#[98, 108, 111, 99, 107]⟩, .string ⟨#[108, 111, 111, 112]⟩, .string ⟨#[105, 102]⟩, .string ⟨#[101, 108, 115, 101]⟩, .string ⟨#[101, 110, 100]⟩, .string ⟨#[98, 114]⟩, .string ⟨#[98, 114, 105, 102]⟩, .string ⟨#[114, 101, 116, 117, 114, 110]⟩, .string ⟨#[99, 97, 108, 108]⟩, .string ⟨#[104, 111, 115, 116]⟩, .string ⟨#[108, 111, 97, 100, 56]⟩, .string ⟨#[108, 111, 97, 100, 51, 50]⟩, .string ⟨#[108, 111, 97, 100, 54, 52]⟩, .string ⟨#[115, 116, 111, 114, 101, 56]⟩, .string ⟨#[115, 116, 111, 114, 101, 51, 50]⟩, .string ⟨#[115, 116, 111, 114, 101, 54, 52]⟩, .string ⟨#[116, 114, 97, 112]⟩]
theorem OpL_get : ∀ i : Nat, i < 40 → OpL[i]? = some (.string (opB (i + 1))) := by
  intro i hi
  have h : ∀ j : Fin 40, OpL[j.val]? = some (.string (opB (j.val + 1))) := by
    intro j
    match j with
    | ⟨0, _⟩ => rfl
    | ⟨1, _⟩ => rfl
    | ⟨2, _⟩ => rfl
    | ⟨3, _⟩ => rfl
    | ⟨4, _⟩ => rfl
    | ⟨5, _⟩ => rfl
    | ⟨6, _⟩ => rfl
    | ⟨7, _⟩ => rfl
    | ⟨8, _⟩ => rfl
    | ⟨9, _⟩ => rfl
    | ⟨10, _⟩ => rfl
    | ⟨11, _⟩ => rfl
    | ⟨12, _⟩ => rfl
    | ⟨13, _⟩ => rfl
    | ⟨14, _⟩ => rfl
    | ⟨15, _⟩ => rfl
    | ⟨16, _⟩ => rfl
    | ⟨17, _⟩ => rfl
    | ⟨18, _⟩ => rfl
    | ⟨19, _⟩ => rfl
    | ⟨20, _⟩ => rfl
    | ⟨21, _⟩ => rfl
    | ⟨22, _⟩ => rfl
    | ⟨23, _⟩ => rfl
    | ⟨24, _⟩ => rfl
    | ⟨25, _⟩ => rfl
    | ⟨26, _⟩ => rfl
    | ⟨27, _⟩ => rfl
    | ⟨28, _⟩ => rfl
    | ⟨29, _⟩ => rfl
    | ⟨30, _⟩ => rfl
    | ⟨31, _⟩ => rfl
    | ⟨32, _⟩ => rfl
    | ⟨33, _⟩ => rfl
    | ⟨34, _⟩ => rfl
    | ⟨35, _⟩ => rfl
    | ⟨36, _⟩ => rfl
    | ⟨37, _⟩ => rfl
    | ⟨38, _⟩ => rfl
    | ⟨39, _⟩ => rfl
    | ⟨n + 40, h⟩ => omega
  exact h ⟨i, hi⟩
/-- A row that holds the mnemonics. -/
def OpRow (w : World) (b : Nat) : Prop := ∀ j, j < 40 → w.cell? ⟨b, j, none⟩ = some (.string (opB (j + 1)))
theorem OpRow.keep {w w' : World} {b : Nat} (h : OpRow w b) (hb : Below w.heap.size w w') : OpRow w' b := fun i hi => keepCell hb (h i hi)

set_option maxRecDepth 100000 in
theorem l15Words_any (w : World) :
    Calls Tryz.prog 111 #[] w fun e w' => e = .returned (.slice (some ⟨w.heap.size, 0, none⟩) 40 40) ∧ Below w.heap.size w w' ∧ OpRow w' w.heap.size := by
  go_enter Tryz.func111, Tryz.ntmps111
  go_wp2
  go_ret
  refine ⟨rfl, below1 _ _, fun j hj => ?_⟩
  rw [World.cell?_alloc_new]
  exact OpL_get j hj
end Go.Proofs.YtbjcldekapipaaaGreatDoor
