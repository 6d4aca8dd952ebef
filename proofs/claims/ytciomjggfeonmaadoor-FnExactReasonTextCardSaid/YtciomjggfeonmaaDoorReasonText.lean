/-
  The walks of both ReasonText; the table of the messages is a hypothesis on the world.
-/
import Derived.Test.YtciomjggfeonmaaDoorIn
import Derived.Lib.LaidTab
import Derived.OpenShut
namespace Go.Proofs.YtciomjggfeonmaaDoor
open Go.ChangeShapes Go.WideShapes Go.ChangeAt Go.RowKit

theorem bnext {W a b : World} (h : Below W.heap.size W a) (k : Below a.heap.size a b) : Below W.heap.size W b := bchain h k h.size
/-- The messages, as Go's bytes. -/
def msgs : List (List UInt8) := [[], [97, 110, 111, 116, 104, 101, 114, 32, 107, 105, 110, 100], [110, 117, 109, 98, 101, 114, 115, 32, 100, 111, 32, 110, 111, 116, 32, 102, 105, 116], [111, 116, 104, 101, 114, 32, 112, 97, 114, 116, 115], [97, 32, 108, 97, 98, 101, 108, 32, 108, 97, 99, 107, 115], [97, 110, 32, 117, 110, 107, 110, 111, 119, 110, 32, 99, 97, 115, 101], [97, 110, 111, 116, 104, 101, 114, 32, 114, 101, 115, 111, 117, 114, 99, 101], [111, 116, 104, 101, 114, 32, 112, 97, 114, 97, 109, 115], [97, 115, 121, 110, 99], [97, 32, 102, 117, 110, 99, 116, 105, 111, 110, 32, 108, 97, 99, 107, 115], [97, 110, 111, 116, 104, 101, 114, 32, 118, 101, 114, 115, 105, 111, 110], [97, 110, 111, 116, 104, 101, 114, 32, 105, 110, 116, 101, 114, 102, 97, 99, 101]]
/-- What the row's list gives: the table's cells hold the messages. -/
def MTab (w : World) : Prop := ∀ i, i < 12 → w.cell? ⟨0, i, none⟩ = some (.string ⟨(msgs.getD i []).toArray⟩)
theorem MTab.keep {w w' : World} (h : MTab w) (hb : Below w.heap.size w w') : MTab w' := fun i hi => keepCell hb (h i hi)
theorem gM : Tryd.prog.globalNamed "loop.example/g00901/impl.reasonTexts" = some 0 := by kernel_rfl
theorem gMType : (Tryd.prog.globals[0]?).map (·.type) = some 51 := by kernel_rfl
theorem cellsM : Tryd.prog.cellsOf 9 = 1 := by kernel_rfl
set_option maxRecDepth 100000 in
theorem mtab {W : World} (h : laidMetH Tryd.prog Rows.fnExactReasonTextRow.laid W) : MTab W := by
  have h0 : laidMet Tryd.prog [("loop.example/g00901/impl.reasonTexts", Rows.laid_loop_example_g00901_impl_reasonTexts)] W := h
  obtain ⟨ps, ⟨g', t', cs, fuel, p, q, hg', ht', hvar, hd, _, _⟩, _⟩ := h0
  obtain rfl := Option.some.inj (gM.symm.trans hg')
  obtain rfl := Option.some.inj (gMType.symm.trans ht')
  obtain ⟨xs, m, rfl, hx, hlen, hxl, hi⟩ := DataW.trod_array Tryd.underlying51 hd
  intro i hi12
  have h1 := hi i hi12
  rw [cellsM, Nat.mul_one] at h1
  rw [World.var?_cell gM hvar i]
  have hxi : i < xs.length := by omega
  rw [List.getElem?_eq_getElem hxi] at h1
  obtain ⟨s, hs, hxs, _⟩ := DataW.trod_string Tryd.underlying9 h1
  have h2 : cs.toList[i]? = some (.string s) := by
    have h3 : ((cs.toList.drop i).take 1)[0]? = some (.string s) := by rw [hs]; rfl
    simpa using h3
  have h4 : cs[i]? = some (.string s) := by simpa using h2
  rw [h4]
  have h5 : (xs.map (·.1))[i]? = some (.lit (.string s.data.toList)) := by
    rw [List.getElem?_map, List.getElem?_eq_getElem hxi, hxs]; rfl
  have h6 : xs.map (·.1) = msgs.map fun l => DataW.lit (.string l) := by
    have h7 := congrArg Prod.fst hx
    simp only at h7
    injection h7 with h8
    exact h8.symm
  rw [h6, List.getElem?_map] at h5
  have h9 : msgs[i]? = some s.data.toList := by
    cases hw : msgs[i]? with
    | none => rw [hw] at h5; cases h5
    | some l =>
      rw [hw] at h5
      injection h5 with h5
      injection h5 with h5
      injection h5 with h5
      rw [h5]
  rw [List.getD_eq_getElem?_getD, h9]
  rfl

theorem specRT_out (k : Int) (p : ByteArray) (h : k < 1 ∨ 11 < k) (w : World) :
    Calls Tryd.prog 6 #[.agg #[.int .i64 k, .string p]] w fun e w' => e = .returned (.string ⟨#[]⟩) ∧ Below w.heap.size w w' := by
  go_enter Tryd.func6, Tryd.ntmps6
  go_wp2_with (go_at_call 18; refine (l00In_no _ _ _ _ h).mono ?_; rintro e w' ⟨rfl, rfl⟩)
  go_ret
  exact ⟨rfl, below1 _ _⟩
theorem implRT_out (k : Int) (p : ByteArray) (h : k < 1 ∨ 11 < k) (w : World) :
    Calls Tryd.prog 8 #[.agg #[.int .i64 k, .string p]] w fun e w' => e = .returned (.string ⟨#[]⟩) ∧ Below w.heap.size w w' := by
  by_cases h1 : k < 1
  · go_enter Tryd.func8, Tryd.ntmps8
    go_wp2
    go_ret
    exact ⟨rfl, below1 _ _⟩
  · have h2 : 11 < k := by omega
    clear h
    go_enter Tryd.func8, Tryd.ntmps8
    go_wp2
    go_ret
    exact ⟨rfl, below1 _ _⟩
set_option maxRecDepth 100000 in
theorem specRT_1e (w : World) :
    Calls Tryd.prog 6 #[.agg #[.int .i64 1, .string ⟨#[]⟩]] w fun e w' => e = .returned (.string ⟨#[97, 110, 111, 116, 104, 101, 114, 32, 107, 105, 110, 100]⟩) ∧ Below w.heap.size w w' := by
  go_enter Tryd.func6, Tryd.ntmps6
  go_wp2_with (go_at_call 18; refine (l00In_yes _ _ _ _ (by omega) (by omega)).mono ?_; rintro e w' ⟨rfl, rfl⟩)
  go_ret
  exact ⟨rfl, below2 _ _ _⟩
set_option maxRecDepth 100000 in
theorem specRT_1n (p : ByteArray) (hp : p.toList.isEmpty = false) (hs : p.size ≤ 1048576) (w : World) :
    Calls Tryd.prog 6 #[.agg #[.int .i64 1, .string p]] w fun e w' => e = .returned (.string (p ++ ⟨#[58, 32]⟩ ++ ⟨#[97, 110, 111, 116, 104, 101, 114, 32, 107, 105, 110, 100]⟩)) ∧ Below w.heap.size w w' := by
  have hp1 : (p.toList == []) = false := by simpa using hp
  have hp2 : ¬ p.toList = [] := by simpa using hp
  go_enter Tryd.func6, Tryd.ntmps6
  go_wp2_with (go_at_call 18; refine (l00In_yes _ _ _ _ (by omega) (by omega)).mono ?_; rintro e w' ⟨rfl, rfl⟩)
  go_ret
  exact ⟨rfl, below2 _ _ _⟩
set_option maxRecDepth 100000 in
theorem implRT_1e (w : World) (h0 : w.cell? ⟨0, 1, none⟩ = some (.string ⟨#[97, 110, 111, 116, 104, 101, 114, 32, 107, 105, 110, 100]⟩)) :
    Calls Tryd.prog 8 #[.agg #[.int .i64 1, .string ⟨#[]⟩]] w fun e w' => e = .returned (.string ⟨#[97, 110, 111, 116, 104, 101, 114, 32, 107, 105, 110, 100]⟩) ∧ Below w.heap.size w w' := by
  have hz : 0 < w.heap.size := World.block_lt_of_cell? w _ h0
  have h1 := fun o => keepCell (below1 w o) h0
  go_enter Tryd.func8, Tryd.ntmps8
  go_wp2
  go_ret
  exact ⟨rfl, below1 _ _⟩
set_option maxRecDepth 100000 in
theorem implRT_1n (p : ByteArray) (hp : p.toList.isEmpty = false) (hs : p.size ≤ 1048576) (w : World) (h0 : w.cell? ⟨0, 1, none⟩ = some (.string ⟨#[97, 110, 111, 116, 104, 101, 114, 32, 107, 105, 110, 100]⟩)) :
    Calls Tryd.prog 8 #[.agg #[.int .i64 1, .string p]] w fun e w' => e = .returned (.string (p ++ ⟨#[58, 32]⟩ ++ ⟨#[97, 110, 111, 116, 104, 101, 114, 32, 107, 105, 110, 100]⟩)) ∧ Below w.heap.size w w' := by
  have hp1 : (p.toList == []) = false := by simpa using hp
  have hp2 : ¬ p.toList = [] := by simpa using hp
  have hz : 0 < w.heap.size := World.block_lt_of_cell? w _ h0
  have h1 := fun o => keepCell (below1 w o) h0
  go_enter Tryd.func8, Tryd.ntmps8
  go_wp2
  go_ret
  exact ⟨rfl, below1 _ _⟩
set_option maxRecDepth 100000 in
theorem specRT_2e (w : World) :
    Calls Tryd.prog 6 #[.agg #[.int .i64 2, .string ⟨#[]⟩]] w fun e w' => e = .returned (.string ⟨#[110, 117, 109, 98, 101, 114, 115, 32, 100, 111, 32, 110, 111, 116, 32, 102, 105, 116]⟩) ∧ Below w.heap.size w w' := by
  go_enter Tryd.func6, Tryd.ntmps6
  go_wp2_with (go_at_call 18; refine (l00In_yes _ _ _ _ (by omega) (by omega)).mono ?_; rintro e w' ⟨rfl, rfl⟩)
  go_ret
  exact ⟨rfl, below2 _ _ _⟩
set_option maxRecDepth 100000 in
theorem specRT_2n (p : ByteArray) (hp : p.toList.isEmpty = false) (hs : p.size ≤ 1048576) (w : World) :
    Calls Tryd.prog 6 #[.agg #[.int .i64 2, .string p]] w fun e w' => e = .returned (.string (p ++ ⟨#[58, 32]⟩ ++ ⟨#[110, 117, 109, 98, 101, 114, 115, 32, 100, 111, 32, 110, 111, 116, 32, 102, 105, 116]⟩)) ∧ Below w.heap.size w w' := by
  have hp1 : (p.toList == []) = false := by simpa using hp
  have hp2 : ¬ p.toList = [] := by simpa using hp
  go_enter Tryd.func6, Tryd.ntmps6
  go_wp2_with (go_at_call 18; refine (l00In_yes _ _ _ _ (by omega) (by omega)).mono ?_; rintro e w' ⟨rfl, rfl⟩)
  go_ret
  exact ⟨rfl, below2 _ _ _⟩
set_option maxRecDepth 100000 in
theorem implRT_2e (w : World) (h0 : w.cell? ⟨0, 2, none⟩ = some (.string ⟨#[110, 117, 109, 98, 101, 114, 115, 32, 100, 111, 32, 110, 111, 116, 32, 102, 105, 116]⟩)) :
    Calls Tryd.prog 8 #[.agg #[.int .i64 2, .string ⟨#[]⟩]] w fun e w' => e = .returned (.string ⟨#[110, 117, 109, 98, 101, 114, 115, 32, 100, 111, 32, 110, 111, 116, 32, 102, 105, 116]⟩) ∧ Below w.heap.size w w' := by
  have hz : 0 < w.heap.size := World.block_lt_of_cell? w _ h0
  have h1 := fun o => keepCell (below1 w o) h0
  go_enter Tryd.func8, Tryd.ntmps8
  go_wp2
  go_ret
  exact ⟨rfl, below1 _ _⟩
set_option maxRecDepth 100000 in
theorem implRT_2n (p : ByteArray) (hp : p.toList.isEmpty = false) (hs : p.size ≤ 1048576) (w : World) (h0 : w.cell? ⟨0, 2, none⟩ = some (.string ⟨#[110, 117, 109, 98, 101, 114, 115, 32, 100, 111, 32, 110, 111, 116, 32, 102, 105, 116]⟩)) :
    Calls Tryd.prog 8 #[.agg #[.int .i64 2, .string p]] w fun e w' => e = .returned (.string (p ++ ⟨#[58, 32]⟩ ++ ⟨#[110, 117, 109, 98, 101, 114, 115, 32, 100, 111, 32, 110, 111, 116, 32, 102, 105, 116]⟩)) ∧ Below w.heap.size w w' := by
  have hp1 : (p.toList == []) = false := by simpa using hp
  have hp2 : ¬ p.toList = [] := by simpa using hp
  have hz : 0 < w.heap.size := World.block_lt_of_cell? w _ h0
  have h1 := fun o => keepCell (below1 w o) h0
  go_enter Tryd.func8, Tryd.ntmps8
  go_wp2
  go_ret
  exact ⟨rfl, below1 _ _⟩
set_option maxRecDepth 100000 in
theorem specRT_3e (w : World) :
    Calls Tryd.prog 6 #[.agg #[.int .i64 3, .string ⟨#[]⟩]] w fun e w' => e = .returned (.string ⟨#[111, 116, 104, 101, 114, 32, 112, 97, 114, 116, 115]⟩) ∧ Below w.heap.size w w' := by
  go_enter Tryd.func6, Tryd.ntmps6
  go_wp2_with (go_at_call 18; refine (l00In_yes _ _ _ _ (by omega) (by omega)).mono ?_; rintro e w' ⟨rfl, rfl⟩)
  go_ret
  exact ⟨rfl, below2 _ _ _⟩
set_option maxRecDepth 100000 in
theorem specRT_3n (p : ByteArray) (hp : p.toList.isEmpty = false) (hs : p.size ≤ 1048576) (w : World) :
    Calls Tryd.prog 6 #[.agg #[.int .i64 3, .string p]] w fun e w' => e = .returned (.string (p ++ ⟨#[58, 32]⟩ ++ ⟨#[111, 116, 104, 101, 114, 32, 112, 97, 114, 116, 115]⟩)) ∧ Below w.heap.size w w' := by
  have hp1 : (p.toList == []) = false := by simpa using hp
  have hp2 : ¬ p.toList = [] := by simpa using hp
  go_enter Tryd.func6, Tryd.ntmps6
  go_wp2_with (go_at_call 18; refine (l00In_yes _ _ _ _ (by omega) (by omega)).mono ?_; rintro e w' ⟨rfl, rfl⟩)
  go_ret
  exact ⟨rfl, below2 _ _ _⟩
set_option maxRecDepth 100000 in
theorem implRT_3e (w : World) (h0 : w.cell? ⟨0, 3, none⟩ = some (.string ⟨#[111, 116, 104, 101, 114, 32, 112, 97, 114, 116, 115]⟩)) :
    Calls Tryd.prog 8 #[.agg #[.int .i64 3, .string ⟨#[]⟩]] w fun e w' => e = .returned (.string ⟨#[111, 116, 104, 101, 114, 32, 112, 97, 114, 116, 115]⟩) ∧ Below w.heap.size w w' := by
  have hz : 0 < w.heap.size := World.block_lt_of_cell? w _ h0
  have h1 := fun o => keepCell (below1 w o) h0
  go_enter Tryd.func8, Tryd.ntmps8
  go_wp2
  go_ret
  exact ⟨rfl, below1 _ _⟩
set_option maxRecDepth 100000 in
theorem implRT_3n (p : ByteArray) (hp : p.toList.isEmpty = false) (hs : p.size ≤ 1048576) (w : World) (h0 : w.cell? ⟨0, 3, none⟩ = some (.string ⟨#[111, 116, 104, 101, 114, 32, 112, 97, 114, 116, 115]⟩)) :
    Calls Tryd.prog 8 #[.agg #[.int .i64 3, .string p]] w fun e w' => e = .returned (.string (p ++ ⟨#[58, 32]⟩ ++ ⟨#[111, 116, 104, 101, 114, 32, 112, 97, 114, 116, 115]⟩)) ∧ Below w.heap.size w w' := by
  have hp1 : (p.toList == []) = false := by simpa using hp
  have hp2 : ¬ p.toList = [] := by simpa using hp
  have hz : 0 < w.heap.size := World.block_lt_of_cell? w _ h0
  have h1 := fun o => keepCell (below1 w o) h0
  go_enter Tryd.func8, Tryd.ntmps8
  go_wp2
  go_ret
  exact ⟨rfl, below1 _ _⟩
set_option maxRecDepth 100000 in
theorem specRT_4e (w : World) :
    Calls Tryd.prog 6 #[.agg #[.int .i64 4, .string ⟨#[]⟩]] w fun e w' => e = .returned (.string ⟨#[97, 32, 108, 97, 98, 101, 108, 32, 108, 97, 99, 107, 115]⟩) ∧ Below w.heap.size w w' := by
  go_enter Tryd.func6, Tryd.ntmps6
  go_wp2_with (go_at_call 18; refine (l00In_yes _ _ _ _ (by omega) (by omega)).mono ?_; rintro e w' ⟨rfl, rfl⟩)
  go_ret
  exact ⟨rfl, below2 _ _ _⟩
set_option maxRecDepth 100000 in
theorem specRT_4n (p : ByteArray) (hp : p.toList.isEmpty = false) (hs : p.size ≤ 1048576) (w : World) :
    Calls Tryd.prog 6 #[.agg #[.int .i64 4, .string p]] w fun e w' => e = .returned (.string (p ++ ⟨#[58, 32]⟩ ++ ⟨#[97, 32, 108, 97, 98, 101, 108, 32, 108, 97, 99, 107, 115]⟩)) ∧ Below w.heap.size w w' := by
  have hp1 : (p.toList == []) = false := by simpa using hp
  have hp2 : ¬ p.toList = [] := by simpa using hp
  go_enter Tryd.func6, Tryd.ntmps6
  go_wp2_with (go_at_call 18; refine (l00In_yes _ _ _ _ (by omega) (by omega)).mono ?_; rintro e w' ⟨rfl, rfl⟩)
  go_ret
  exact ⟨rfl, below2 _ _ _⟩
set_option maxRecDepth 100000 in
theorem implRT_4e (w : World) (h0 : w.cell? ⟨0, 4, none⟩ = some (.string ⟨#[97, 32, 108, 97, 98, 101, 108, 32, 108, 97, 99, 107, 115]⟩)) :
    Calls Tryd.prog 8 #[.agg #[.int .i64 4, .string ⟨#[]⟩]] w fun e w' => e = .returned (.string ⟨#[97, 32, 108, 97, 98, 101, 108, 32, 108, 97, 99, 107, 115]⟩) ∧ Below w.heap.size w w' := by
  have hz : 0 < w.heap.size := World.block_lt_of_cell? w _ h0
  have h1 := fun o => keepCell (below1 w o) h0
  go_enter Tryd.func8, Tryd.ntmps8
  go_wp2
  go_ret
  exact ⟨rfl, below1 _ _⟩
set_option maxRecDepth 100000 in
theorem implRT_4n (p : ByteArray) (hp : p.toList.isEmpty = false) (hs : p.size ≤ 1048576) (w : World) (h0 : w.cell? ⟨0, 4, none⟩ = some (.string ⟨#[97, 32, 108, 97, 98, 101, 108, 32, 108, 97, 99, 107, 115]⟩)) :
    Calls Tryd.prog 8 #[.agg #[.int .i64 4, .string p]] w fun e w' => e = .returned (.string (p ++ ⟨#[58, 32]⟩ ++ ⟨#[97, 32, 108, 97, 98, 101, 108, 32, 108, 97, 99, 107, 115]⟩)) ∧ Below w.heap.size w w' := by
  have hp1 : (p.toList == []) = false := by simpa using hp
  have hp2 : ¬ p.toList = [] := by simpa using hp
  have hz : 0 < w.heap.size := World.block_lt_of_cell? w _ h0
  have h1 := fun o => keepCell (below1 w o) h0
  go_enter Tryd.func8, Tryd.ntmps8
  go_wp2
  go_ret
  exact ⟨rfl, below1 _ _⟩
set_option maxRecDepth 100000 in
theorem specRT_5e (w : World) :
    Calls Tryd.prog 6 #[.agg #[.int .i64 5, .string ⟨#[]⟩]] w fun e w' => e = .returned (.string ⟨#[97, 110, 32, 117, 110, 107, 110, 111, 119, 110, 32, 99, 97, 115, 101]⟩) ∧ Below w.heap.size w w' := by
  go_enter Tryd.func6, Tryd.ntmps6
  go_wp2_with (go_at_call 18; refine (l00In_yes _ _ _ _ (by omega) (by omega)).mono ?_; rintro e w' ⟨rfl, rfl⟩)
  go_ret
  exact ⟨rfl, below2 _ _ _⟩
set_option maxRecDepth 100000 in
theorem specRT_5n (p : ByteArray) (hp : p.toList.isEmpty = false) (hs : p.size ≤ 1048576) (w : World) :
    Calls Tryd.prog 6 #[.agg #[.int .i64 5, .string p]] w fun e w' => e = .returned (.string (p ++ ⟨#[58, 32]⟩ ++ ⟨#[97, 110, 32, 117, 110, 107, 110, 111, 119, 110, 32, 99, 97, 115, 101]⟩)) ∧ Below w.heap.size w w' := by
  have hp1 : (p.toList == []) = false := by simpa using hp
  have hp2 : ¬ p.toList = [] := by simpa using hp
  go_enter Tryd.func6, Tryd.ntmps6
  go_wp2_with (go_at_call 18; refine (l00In_yes _ _ _ _ (by omega) (by omega)).mono ?_; rintro e w' ⟨rfl, rfl⟩)
  go_ret
  exact ⟨rfl, below2 _ _ _⟩
set_option maxRecDepth 100000 in
theorem implRT_5e (w : World) (h0 : w.cell? ⟨0, 5, none⟩ = some (.string ⟨#[97, 110, 32, 117, 110, 107, 110, 111, 119, 110, 32, 99, 97, 115, 101]⟩)) :
    Calls Tryd.prog 8 #[.agg #[.int .i64 5, .string ⟨#[]⟩]] w fun e w' => e = .returned (.string ⟨#[97, 110, 32, 117, 110, 107, 110, 111, 119, 110, 32, 99, 97, 115, 101]⟩) ∧ Below w.heap.size w w' := by
  have hz : 0 < w.heap.size := World.block_lt_of_cell? w _ h0
  have h1 := fun o => keepCell (below1 w o) h0
  go_enter Tryd.func8, Tryd.ntmps8
  go_wp2
  go_ret
  exact ⟨rfl, below1 _ _⟩
set_option maxRecDepth 100000 in
theorem implRT_5n (p : ByteArray) (hp : p.toList.isEmpty = false) (hs : p.size ≤ 1048576) (w : World) (h0 : w.cell? ⟨0, 5, none⟩ = some (.string ⟨#[97, 110, 32, 117, 110, 107, 110, 111, 119, 110, 32, 99, 97, 115, 101]⟩)) :
    Calls Tryd.prog 8 #[.agg #[.int .i64 5, .string p]] w fun e w' => e = .returned (.string (p ++ ⟨#[58, 32]⟩ ++ ⟨#[97, 110, 32, 117, 110, 107, 110, 111, 119, 110, 32, 99, 97, 115, 101]⟩)) ∧ Below w.heap.size w w' := by
  have hp1 : (p.toList == []) = false := by simpa using hp
  have hp2 : ¬ p.toList = [] := by simpa using hp
  have hz : 0 < w.heap.size := World.block_lt_of_cell? w _ h0
  have h1 := fun o => keepCell (below1 w o) h0
  go_enter Tryd.func8, Tryd.ntmps8
  go_wp2
  go_ret
  exact ⟨rfl, below1 _ _⟩
set_option maxRecDepth 100000 in
theorem specRT_6e (w : World) :
    Calls Tryd.prog 6 #[.agg #[.int .i64 6, .string ⟨#[]⟩]] w fun e w' => e = .returned (.string ⟨#[97, 110, 111, 116, 104, 101, 114, 32, 114, 101, 115, 111, 117, 114, 99, 101]⟩) ∧ Below w.heap.size w w' := by
  go_enter Tryd.func6, Tryd.ntmps6
  go_wp2_with (go_at_call 18; refine (l00In_yes _ _ _ _ (by omega) (by omega)).mono ?_; rintro e w' ⟨rfl, rfl⟩)
  go_ret
  exact ⟨rfl, below2 _ _ _⟩
set_option maxRecDepth 100000 in
theorem specRT_6n (p : ByteArray) (hp : p.toList.isEmpty = false) (hs : p.size ≤ 1048576) (w : World) :
    Calls Tryd.prog 6 #[.agg #[.int .i64 6, .string p]] w fun e w' => e = .returned (.string (p ++ ⟨#[58, 32]⟩ ++ ⟨#[97, 110, 111, 116, 104, 101, 114, 32, 114, 101, 115, 111, 117, 114, 99, 101]⟩)) ∧ Below w.heap.size w w' := by
  have hp1 : (p.toList == []) = false := by simpa using hp
  have hp2 : ¬ p.toList = [] := by simpa using hp
  go_enter Tryd.func6, Tryd.ntmps6
  go_wp2_with (go_at_call 18; refine (l00In_yes _ _ _ _ (by omega) (by omega)).mono ?_; rintro e w' ⟨rfl, rfl⟩)
  go_ret
  exact ⟨rfl, below2 _ _ _⟩
set_option maxRecDepth 100000 in
theorem implRT_6e (w : World) (h0 : w.cell? ⟨0, 6, none⟩ = some (.string ⟨#[97, 110, 111, 116, 104, 101, 114, 32, 114, 101, 115, 111, 117, 114, 99, 101]⟩)) :
    Calls Tryd.prog 8 #[.agg #[.int .i64 6, .string ⟨#[]⟩]] w fun e w' => e = .returned (.string ⟨#[97, 110, 111, 116, 104, 101, 114, 32, 114, 101, 115, 111, 117, 114, 99, 101]⟩) ∧ Below w.heap.size w w' := by
  have hz : 0 < w.heap.size := World.block_lt_of_cell? w _ h0
  have h1 := fun o => keepCell (below1 w o) h0
  go_enter Tryd.func8, Tryd.ntmps8
  go_wp2
  go_ret
  exact ⟨rfl, below1 _ _⟩
set_option maxRecDepth 100000 in
theorem implRT_6n (p : ByteArray) (hp : p.toList.isEmpty = false) (hs : p.size ≤ 1048576) (w : World) (h0 : w.cell? ⟨0, 6, none⟩ = some (.string ⟨#[97, 110, 111, 116, 104, 101, 114, 32, 114, 101, 115, 111, 117, 114, 99, 101]⟩)) :
    Calls Tryd.prog 8 #[.agg #[.int .i64 6, .string p]] w fun e w' => e = .returned (.string (p ++ ⟨#[58, 32]⟩ ++ ⟨#[97, 110, 111, 116, 104, 101, 114, 32, 114, 101, 115, 111, 117, 114, 99, 101]⟩)) ∧ Below w.heap.size w w' := by
  have hp1 : (p.toList == []) = false := by simpa using hp
  have hp2 : ¬ p.toList = [] := by simpa using hp
  have hz : 0 < w.heap.size := World.block_lt_of_cell? w _ h0
  have h1 := fun o => keepCell (below1 w o) h0
  go_enter Tryd.func8, Tryd.ntmps8
  go_wp2
  go_ret
  exact ⟨rfl, below1 _ _⟩
set_option maxRecDepth 100000 in
theorem specRT_7e (w : World) :
    Calls Tryd.prog 6 #[.agg #[.int .i64 7, .string ⟨#[]⟩]] w fun e w' => e = .returned (.string ⟨#[111, 116, 104, 101, 114, 32, 112, 97, 114, 97, 109, 115]⟩) ∧ Below w.heap.size w w' := by
  go_enter Tryd.func6, Tryd.ntmps6
  go_wp2_with (go_at_call 18; refine (l00In_yes _ _ _ _ (by omega) (by omega)).mono ?_; rintro e w' ⟨rfl, rfl⟩)
  go_ret
  exact ⟨rfl, below2 _ _ _⟩
set_option maxRecDepth 100000 in
theorem specRT_7n (p : ByteArray) (hp : p.toList.isEmpty = false) (hs : p.size ≤ 1048576) (w : World) :
    Calls Tryd.prog 6 #[.agg #[.int .i64 7, .string p]] w fun e w' => e = .returned (.string (p ++ ⟨#[58, 32]⟩ ++ ⟨#[111, 116, 104, 101, 114, 32, 112, 97, 114, 97, 109, 115]⟩)) ∧ Below w.heap.size w w' := by
  have hp1 : (p.toList == []) = false := by simpa using hp
  have hp2 : ¬ p.toList = [] := by simpa using hp
  go_enter Tryd.func6, Tryd.ntmps6
  go_wp2_with (go_at_call 18; refine (l00In_yes _ _ _ _ (by omega) (by omega)).mono ?_; rintro e w' ⟨rfl, rfl⟩)
  go_ret
  exact ⟨rfl, below2 _ _ _⟩
set_option maxRecDepth 100000 in
theorem implRT_7e (w : World) (h0 : w.cell? ⟨0, 7, none⟩ = some (.string ⟨#[111, 116, 104, 101, 114, 32, 112, 97, 114, 97, 109, 115]⟩)) :
    Calls Tryd.prog 8 #[.agg #[.int .i64 7, .string ⟨#[]⟩]] w fun e w' => e = .returned (.string ⟨#[111, 116, 104, 101, 114, 32, 112, 97, 114, 97, 109, 115]⟩) ∧ Below w.heap.size w w' := by
  have hz : 0 < w.heap.size := World.block_lt_of_cell? w _ h0
  have h1 := fun o => keepCell (below1 w o) h0
  go_enter Tryd.func8, Tryd.ntmps8
  go_wp2
  go_ret
  exact ⟨rfl, below1 _ _⟩
set_option maxRecDepth 100000 in
theorem implRT_7n (p : ByteArray) (hp : p.toList.isEmpty = false) (hs : p.size ≤ 1048576) (w : World) (h0 : w.cell? ⟨0, 7, none⟩ = some (.string ⟨#[111, 116, 104, 101, 114, 32, 112, 97, 114, 97, 109, 115]⟩)) :
    Calls Tryd.prog 8 #[.agg #[.int .i64 7, .string p]] w fun e w' => e = .returned (.string (p ++ ⟨#[58, 32]⟩ ++ ⟨#[111, 116, 104, 101, 114, 32, 112, 97, 114, 97, 109, 115]⟩)) ∧ Below w.heap.size w w' := by
  have hp1 : (p.toList == []) = false := by simpa using hp
  have hp2 : ¬ p.toList = [] := by simpa using hp
  have hz : 0 < w.heap.size := World.block_lt_of_cell? w _ h0
  have h1 := fun o => keepCell (below1 w o) h0
  go_enter Tryd.func8, Tryd.ntmps8
  go_wp2
  go_ret
  exact ⟨rfl, below1 _ _⟩
set_option maxRecDepth 100000 in
theorem specRT_8e (w : World) :
    Calls Tryd.prog 6 #[.agg #[.int .i64 8, .string ⟨#[]⟩]] w fun e w' => e = .returned (.string ⟨#[97, 115, 121, 110, 99]⟩) ∧ Below w.heap.size w w' := by
  go_enter Tryd.func6, Tryd.ntmps6
  go_wp2_with (go_at_call 18; refine (l00In_yes _ _ _ _ (by omega) (by omega)).mono ?_; rintro e w' ⟨rfl, rfl⟩)
  go_ret
  exact ⟨rfl, below2 _ _ _⟩
set_option maxRecDepth 100000 in
theorem specRT_8n (p : ByteArray) (hp : p.toList.isEmpty = false) (hs : p.size ≤ 1048576) (w : World) :
    Calls Tryd.prog 6 #[.agg #[.int .i64 8, .string p]] w fun e w' => e = .returned (.string (p ++ ⟨#[58, 32]⟩ ++ ⟨#[97, 115, 121, 110, 99]⟩)) ∧ Below w.heap.size w w' := by
  have hp1 : (p.toList == []) = false := by simpa using hp
  have hp2 : ¬ p.toList = [] := by simpa using hp
  go_enter Tryd.func6, Tryd.ntmps6
  go_wp2_with (go_at_call 18; refine (l00In_yes _ _ _ _ (by omega) (by omega)).mono ?_; rintro e w' ⟨rfl, rfl⟩)
  go_ret
  exact ⟨rfl, below2 _ _ _⟩
set_option maxRecDepth 100000 in
theorem implRT_8e (w : World) (h0 : w.cell? ⟨0, 8, none⟩ = some (.string ⟨#[97, 115, 121, 110, 99]⟩)) :
    Calls Tryd.prog 8 #[.agg #[.int .i64 8, .string ⟨#[]⟩]] w fun e w' => e = .returned (.string ⟨#[97, 115, 121, 110, 99]⟩) ∧ Below w.heap.size w w' := by
  have hz : 0 < w.heap.size := World.block_lt_of_cell? w _ h0
  have h1 := fun o => keepCell (below1 w o) h0
  go_enter Tryd.func8, Tryd.ntmps8
  go_wp2
  go_ret
  exact ⟨rfl, below1 _ _⟩
set_option maxRecDepth 100000 in
theorem implRT_8n (p : ByteArray) (hp : p.toList.isEmpty = false) (hs : p.size ≤ 1048576) (w : World) (h0 : w.cell? ⟨0, 8, none⟩ = some (.string ⟨#[97, 115, 121, 110, 99]⟩)) :
    Calls Tryd.prog 8 #[.agg #[.int .i64 8, .string p]] w fun e w' => e = .returned (.string (p ++ ⟨#[58, 32]⟩ ++ ⟨#[97, 115, 121, 110, 99]⟩)) ∧ Below w.heap.size w w' := by
  have hp1 : (p.toList == []) = false := by simpa using hp
  have hp2 : ¬ p.toList = [] := by simpa using hp
  have hz : 0 < w.heap.size := World.block_lt_of_cell? w _ h0
  have h1 := fun o => keepCell (below1 w o) h0
  go_enter Tryd.func8, Tryd.ntmps8
  go_wp2
  go_ret
  exact ⟨rfl, below1 _ _⟩
set_option maxRecDepth 100000 in
theorem specRT_9e (w : World) :
    Calls Tryd.prog 6 #[.agg #[.int .i64 9, .string ⟨#[]⟩]] w fun e w' => e = .returned (.string ⟨#[97, 32, 102, 117, 110, 99, 116, 105, 111, 110, 32, 108, 97, 99, 107, 115]⟩) ∧ Below w.heap.size w w' := by
  go_enter Tryd.func6, Tryd.ntmps6
  go_wp2_with (go_at_call 18; refine (l00In_yes _ _ _ _ (by omega) (by omega)).mono ?_; rintro e w' ⟨rfl, rfl⟩)
  go_ret
  exact ⟨rfl, below2 _ _ _⟩
set_option maxRecDepth 100000 in
theorem specRT_9n (p : ByteArray) (hp : p.toList.isEmpty = false) (hs : p.size ≤ 1048576) (w : World) :
    Calls Tryd.prog 6 #[.agg #[.int .i64 9, .string p]] w fun e w' => e = .returned (.string (p ++ ⟨#[58, 32]⟩ ++ ⟨#[97, 32, 102, 117, 110, 99, 116, 105, 111, 110, 32, 108, 97, 99, 107, 115]⟩)) ∧ Below w.heap.size w w' := by
  have hp1 : (p.toList == []) = false := by simpa using hp
  have hp2 : ¬ p.toList = [] := by simpa using hp
  go_enter Tryd.func6, Tryd.ntmps6
  go_wp2_with (go_at_call 18; refine (l00In_yes _ _ _ _ (by omega) (by omega)).mono ?_; rintro e w' ⟨rfl, rfl⟩)
  go_ret
  exact ⟨rfl, below2 _ _ _⟩
set_option maxRecDepth 100000 in
theorem implRT_9e (w : World) (h0 : w.cell? ⟨0, 9, none⟩ = some (.string ⟨#[97, 32, 102, 117, 110, 99, 116, 105, 111, 110, 32, 108, 97, 99, 107, 115]⟩)) :
    Calls Tryd.prog 8 #[.agg #[.int .i64 9, .string ⟨#[]⟩]] w fun e w' => e = .returned (.string ⟨#[97, 32, 102, 117, 110, 99, 116, 105, 111, 110, 32, 108, 97, 99, 107, 115]⟩) ∧ Below w.heap.size w w' := by
  have hz : 0 < w.heap.size := World.block_lt_of_cell? w _ h0
  have h1 := fun o => keepCell (below1 w o) h0
  go_enter Tryd.func8, Tryd.ntmps8
  go_wp2
  go_ret
  exact ⟨rfl, below1 _ _⟩
set_option maxRecDepth 100000 in
theorem implRT_9n (p : ByteArray) (hp : p.toList.isEmpty = false) (hs : p.size ≤ 1048576) (w : World) (h0 : w.cell? ⟨0, 9, none⟩ = some (.string ⟨#[97, 32, 102, 117, 110, 99, 116, 105, 111, 110, 32, 108, 97, 99, 107, 115]⟩)) :
    Calls Tryd.prog 8 #[.agg #[.int .i64 9, .string p]] w fun e w' => e = .returned (.string (p ++ ⟨#[58, 32]⟩ ++ ⟨#[97, 32, 102, 117, 110, 99, 116, 105, 111, 110, 32, 108, 97, 99, 107, 115]⟩)) ∧ Below w.heap.size w w' := by
  have hp1 : (p.toList == []) = false := by simpa using hp
  have hp2 : ¬ p.toList = [] := by simpa using hp
  have hz : 0 < w.heap.size := World.block_lt_of_cell? w _ h0
  have h1 := fun o => keepCell (below1 w o) h0
  go_enter Tryd.func8, Tryd.ntmps8
  go_wp2
  go_ret
  exact ⟨rfl, below1 _ _⟩
set_option maxRecDepth 100000 in
theorem specRT_10e (w : World) :
    Calls Tryd.prog 6 #[.agg #[.int .i64 10, .string ⟨#[]⟩]] w fun e w' => e = .returned (.string ⟨#[97, 110, 111, 116, 104, 101, 114, 32, 118, 101, 114, 115, 105, 111, 110]⟩) ∧ Below w.heap.size w w' := by
  go_enter Tryd.func6, Tryd.ntmps6
  go_wp2_with (go_at_call 18; refine (l00In_yes _ _ _ _ (by omega) (by omega)).mono ?_; rintro e w' ⟨rfl, rfl⟩)
  go_ret
  exact ⟨rfl, below2 _ _ _⟩
set_option maxRecDepth 100000 in
theorem specRT_10n (p : ByteArray) (hp : p.toList.isEmpty = false) (hs : p.size ≤ 1048576) (w : World) :
    Calls Tryd.prog 6 #[.agg #[.int .i64 10, .string p]] w fun e w' => e = .returned (.string (p ++ ⟨#[58, 32]⟩ ++ ⟨#[97, 110, 111, 116, 104, 101, 114, 32, 118, 101, 114, 115, 105, 111, 110]⟩)) ∧ Below w.heap.size w w' := by
  have hp1 : (p.toList == []) = false := by simpa using hp
  have hp2 : ¬ p.toList = [] := by simpa using hp
  go_enter Tryd.func6, Tryd.ntmps6
  go_wp2_with (go_at_call 18; refine (l00In_yes _ _ _ _ (by omega) (by omega)).mono ?_; rintro e w' ⟨rfl, rfl⟩)
  go_ret
  exact ⟨rfl, below2 _ _ _⟩
set_option maxRecDepth 100000 in
theorem implRT_10e (w : World) (h0 : w.cell? ⟨0, 10, none⟩ = some (.string ⟨#[97, 110, 111, 116, 104, 101, 114, 32, 118, 101, 114, 115, 105, 111, 110]⟩)) :
    Calls Tryd.prog 8 #[.agg #[.int .i64 10, .string ⟨#[]⟩]] w fun e w' => e = .returned (.string ⟨#[97, 110, 111, 116, 104, 101, 114, 32, 118, 101, 114, 115, 105, 111, 110]⟩) ∧ Below w.heap.size w w' := by
  have hz : 0 < w.heap.size := World.block_lt_of_cell? w _ h0
  have h1 := fun o => keepCell (below1 w o) h0
  go_enter Tryd.func8, Tryd.ntmps8
  go_wp2
  go_ret
  exact ⟨rfl, below1 _ _⟩
set_option maxRecDepth 100000 in
theorem implRT_10n (p : ByteArray) (hp : p.toList.isEmpty = false) (hs : p.size ≤ 1048576) (w : World) (h0 : w.cell? ⟨0, 10, none⟩ = some (.string ⟨#[97, 110, 111, 116, 104, 101, 114, 32, 118, 101, 114, 115, 105, 111, 110]⟩)) :
    Calls Tryd.prog 8 #[.agg #[.int .i64 10, .string p]] w fun e w' => e = .returned (.string (p ++ ⟨#[58, 32]⟩ ++ ⟨#[97, 110, 111, 116, 104, 101, 114, 32, 118, 101, 114, 115, 105, 111, 110]⟩)) ∧ Below w.heap.size w w' := by
  have hp1 : (p.toList == []) = false := by simpa using hp
  have hp2 : ¬ p.toList = [] := by simpa using hp
  have hz : 0 < w.heap.size := World.block_lt_of_cell? w _ h0
  have h1 := fun o => keepCell (below1 w o) h0
  go_enter Tryd.func8, Tryd.ntmps8
  go_wp2
  go_ret
  exact ⟨rfl, below1 _ _⟩
set_option maxRecDepth 100000 in
theorem specRT_11e (w : World) :
    Calls Tryd.prog 6 #[.agg #[.int .i64 11, .string ⟨#[]⟩]] w fun e w' => e = .returned (.string ⟨#[97, 110, 111, 116, 104, 101, 114, 32, 105, 110, 116, 101, 114, 102, 97, 99, 101]⟩) ∧ Below w.heap.size w w' := by
  go_enter Tryd.func6, Tryd.ntmps6
  go_wp2_with (go_at_call 18; refine (l00In_yes _ _ _ _ (by omega) (by omega)).mono ?_; rintro e w' ⟨rfl, rfl⟩)
  go_ret
  exact ⟨rfl, below2 _ _ _⟩
set_option maxRecDepth 100000 in
theorem specRT_11n (p : ByteArray) (hp : p.toList.isEmpty = false) (hs : p.size ≤ 1048576) (w : World) :
    Calls Tryd.prog 6 #[.agg #[.int .i64 11, .string p]] w fun e w' => e = .returned (.string (p ++ ⟨#[58, 32]⟩ ++ ⟨#[97, 110, 111, 116, 104, 101, 114, 32, 105, 110, 116, 101, 114, 102, 97, 99, 101]⟩)) ∧ Below w.heap.size w w' := by
  have hp1 : (p.toList == []) = false := by simpa using hp
  have hp2 : ¬ p.toList = [] := by simpa using hp
  go_enter Tryd.func6, Tryd.ntmps6
  go_wp2_with (go_at_call 18; refine (l00In_yes _ _ _ _ (by omega) (by omega)).mono ?_; rintro e w' ⟨rfl, rfl⟩)
  go_ret
  exact ⟨rfl, below2 _ _ _⟩
set_option maxRecDepth 100000 in
theorem implRT_11e (w : World) (h0 : w.cell? ⟨0, 11, none⟩ = some (.string ⟨#[97, 110, 111, 116, 104, 101, 114, 32, 105, 110, 116, 101, 114, 102, 97, 99, 101]⟩)) :
    Calls Tryd.prog 8 #[.agg #[.int .i64 11, .string ⟨#[]⟩]] w fun e w' => e = .returned (.string ⟨#[97, 110, 111, 116, 104, 101, 114, 32, 105, 110, 116, 101, 114, 102, 97, 99, 101]⟩) ∧ Below w.heap.size w w' := by
  have hz : 0 < w.heap.size := World.block_lt_of_cell? w _ h0
  have h1 := fun o => keepCell (below1 w o) h0
  go_enter Tryd.func8, Tryd.ntmps8
  go_wp2
  go_ret
  exact ⟨rfl, below1 _ _⟩
set_option maxRecDepth 100000 in
theorem implRT_11n (p : ByteArray) (hp : p.toList.isEmpty = false) (hs : p.size ≤ 1048576) (w : World) (h0 : w.cell? ⟨0, 11, none⟩ = some (.string ⟨#[97, 110, 111, 116, 104, 101, 114, 32, 105, 110, 116, 101, 114, 102, 97, 99, 101]⟩)) :
    Calls Tryd.prog 8 #[.agg #[.int .i64 11, .string p]] w fun e w' => e = .returned (.string (p ++ ⟨#[58, 32]⟩ ++ ⟨#[97, 110, 111, 116, 104, 101, 114, 32, 105, 110, 116, 101, 114, 102, 97, 99, 101]⟩)) ∧ Below w.heap.size w w' := by
  have hp1 : (p.toList == []) = false := by simpa using hp
  have hp2 : ¬ p.toList = [] := by simpa using hp
  have hz : 0 < w.heap.size := World.block_lt_of_cell? w _ h0
  have h1 := fun o => keepCell (below1 w o) h0
  go_enter Tryd.func8, Tryd.ntmps8
  go_wp2
  go_ret
  exact ⟨rfl, below1 _ _⟩

theorem rt_both (k : Int) (p : ByteArray) (hs : p.size ≤ 1048576) : ∃ R : ByteArray, (∀ w : World, Calls Tryd.prog 6 #[.agg #[.int .i64 k, .string p]] w fun e w' => e = .returned (.string R) ∧ Below w.heap.size w w') ∧
    (∀ w : World, MTab w → Calls Tryd.prog 8 #[.agg #[.int .i64 k, .string p]] w fun e w' => e = .returned (.string R) ∧ Below w.heap.size w w') := by
  by_cases h : k < 1 ∨ 11 < k
  · exact ⟨_, fun w => specRT_out k p h w, fun w _ => implRT_out k p h w⟩
  have h2 : k = 1 ∨ k = 2 ∨ k = 3 ∨ k = 4 ∨ k = 5 ∨ k = 6 ∨ k = 7 ∨ k = 8 ∨ k = 9 ∨ k = 10 ∨ k = 11 := by omega
  by_cases hp : p.size = 0
  · obtain rfl : p = ⟨#[]⟩ := by
      cases p with
      | mk d =>
        have : d = #[] := Array.eq_empty_of_size_eq_zero hp
        rw [this]
    rcases h2 with rfl | rfl | rfl | rfl | rfl | rfl | rfl | rfl | rfl | rfl | rfl
    · exact ⟨_, fun w => specRT_1e w, fun w ht => implRT_1e w (ht 1 (by omega))⟩
    · exact ⟨_, fun w => specRT_2e w, fun w ht => implRT_2e w (ht 2 (by omega))⟩
    · exact ⟨_, fun w => specRT_3e w, fun w ht => implRT_3e w (ht 3 (by omega))⟩
    · exact ⟨_, fun w => specRT_4e w, fun w ht => implRT_4e w (ht 4 (by omega))⟩
    · exact ⟨_, fun w => specRT_5e w, fun w ht => implRT_5e w (ht 5 (by omega))⟩
    · exact ⟨_, fun w => specRT_6e w, fun w ht => implRT_6e w (ht 6 (by omega))⟩
    · exact ⟨_, fun w => specRT_7e w, fun w ht => implRT_7e w (ht 7 (by omega))⟩
    · exact ⟨_, fun w => specRT_8e w, fun w ht => implRT_8e w (ht 8 (by omega))⟩
    · exact ⟨_, fun w => specRT_9e w, fun w ht => implRT_9e w (ht 9 (by omega))⟩
    · exact ⟨_, fun w => specRT_10e w, fun w ht => implRT_10e w (ht 10 (by omega))⟩
    · exact ⟨_, fun w => specRT_11e w, fun w ht => implRT_11e w (ht 11 (by omega))⟩
  · have hn : p.toList.isEmpty = false := by
      cases hl : p.toList with
      | nil =>
        rw [ByteArray.toList_eq] at hl
        exact absurd (show p.size = 0 by show p.data.size = 0; rw [← Array.length_toList, hl]; rfl) hp
      | cons x xs => rfl
    rcases h2 with rfl | rfl | rfl | rfl | rfl | rfl | rfl | rfl | rfl | rfl | rfl
    · exact ⟨_, fun w => specRT_1n p hn hs w, fun w ht => implRT_1n p hn hs w (ht 1 (by omega))⟩
    · exact ⟨_, fun w => specRT_2n p hn hs w, fun w ht => implRT_2n p hn hs w (ht 2 (by omega))⟩
    · exact ⟨_, fun w => specRT_3n p hn hs w, fun w ht => implRT_3n p hn hs w (ht 3 (by omega))⟩
    · exact ⟨_, fun w => specRT_4n p hn hs w, fun w ht => implRT_4n p hn hs w (ht 4 (by omega))⟩
    · exact ⟨_, fun w => specRT_5n p hn hs w, fun w ht => implRT_5n p hn hs w (ht 5 (by omega))⟩
    · exact ⟨_, fun w => specRT_6n p hn hs w, fun w ht => implRT_6n p hn hs w (ht 6 (by omega))⟩
    · exact ⟨_, fun w => specRT_7n p hn hs w, fun w ht => implRT_7n p hn hs w (ht 7 (by omega))⟩
    · exact ⟨_, fun w => specRT_8n p hn hs w, fun w ht => implRT_8n p hn hs w (ht 8 (by omega))⟩
    · exact ⟨_, fun w => specRT_9n p hn hs w, fun w ht => implRT_9n p hn hs w (ht 9 (by omega))⟩
    · exact ⟨_, fun w => specRT_10n p hn hs w, fun w ht => implRT_10n p hn hs w (ht 10 (by omega))⟩
    · exact ⟨_, fun w => specRT_11n p hn hs w, fun w ht => implRT_11n p hn hs w (ht 11 (by omega))⟩

theorem szR_out (k : Int) (p : ByteArray) (h : 1048576 < p.size) (hm : p.size ≤ 9223372036854775807) (w : World) :
    Calls Tryd.prog 5 #[.agg #[.int .i64 k, .string p], .int .i64 1048576] w fun e w' => e = .returned (.int .i64 (-1)) ∧ Below w.heap.size w w' := by
  go_enter Tryd.func5, Tryd.ntmps5
  go_wp2
  go_ret
  exact ⟨rfl, below1 _ _⟩
theorem szR_in (k : Int) (p : ByteArray) (h : p.size ≤ 1048576) (w : World) :
    Calls Tryd.prog 5 #[.agg #[.int .i64 k, .string p], .int .i64 1048576] w fun e w' => e = .returned (.int .i64 (1048576 - p.size)) ∧ Below w.heap.size w w' := by
  go_enter Tryd.func5, Tryd.ntmps5
  go_wp2
  go_ret
  exact ⟨rfl, below1 _ _⟩
theorem toR (k : Int) (p : ByteArray) (w : World) :
    Calls Tryd.prog 7 #[.agg #[.int .i64 k, .string p]] w fun e w' => e = .returned (.agg #[.int .i64 k, .string p]) ∧ Below w.heap.size w w' := by
  go_enter Tryd.func7, Tryd.ntmps7
  go_wp2
  exact bodyPost_ret (v := .agg #[.int .i64 k, .string p]) (by simp [results, Tryd.results7, go_sem]) rfl ⟨rfl, below3 _ _ _ _⟩

set_option maxHeartbeats 1000000 in
theorem fnExactReasonTextLaw (k : Int) (p : ByteArray) (w : World) (hp : p.size ≤ maxLen) (ht : MTab w) :
    Calls Tryd.prog 3 #[.agg #[.int .i64 k, .string p]] w fun e w' => e = .returned (.bool true) ∧ Below w.heap.size w w' := by
  unfold maxLen at hp
  by_cases hs : p.size ≤ 1048576
  · obtain ⟨R, c1, c2⟩ := rt_both k p hs
    have CS := Lib.hid c1
    have CI := Lib.hid c2
    have CZ := Lib.hid (fun W => szR_in k p hs W)
    have CT := Lib.hid (fun W => toR k p W)
    have HT := Lib.hid ht
    have hq : ¬ (1048576 - (p.size : Int)) < 0 := by omega
    obtain ⟨Q, hQ⟩ : ∃ Q, 1048576 - (p.size : Int) = Q := ⟨_, rfl⟩
    rw [hQ] at CZ hq
    have hq' : 0 ≤ Q := by omega
    clear c1 c2 ht hQ hs hp hq
    go_enter Tryd.func3, Tryd.ntmps3
    go_wp2_with fail
    go_at_call 5
    refine (CZ.out _).mono ?_
    rintro e w2 ⟨rfl, hb2⟩
    have k0 := keepCell (a := ⟨w.heap.size, 0, none⟩) (v := .int .i64 k) hb2 (by go_simp)
    have k1 := keepCell (a := ⟨w.heap.size, 1, none⟩) (v := .string p) hb2 (by go_simp)
    have HB2 := Lib.hid (bnext (below1 _ _) hb2)
    clear hb2 CZ
    go_wp2_with fail
    go_at_call 7
    refine (CT.out _).mono ?_
    rintro e w3 ⟨rfl, hb3⟩
    replace k0 := keepCell hb3 k0
    replace k1 := keepCell hb3 k1
    have HB3 := Lib.hid (bnext HB2.out hb3)
    clear hb3
    go_wp2_with fail
    go_at_call 6
    refine (CS.out _).mono ?_
    rintro e w4 ⟨rfl, hb4⟩
    replace k0 := keepCell hb4 k0
    replace k1 := keepCell hb4 k1
    have HB4 := Lib.hid (bnext HB3.out hb4)
    clear hb4 CS
    go_wp2_with fail
    go_at_call 7
    refine (CT.out _).mono ?_
    rintro e w5 ⟨rfl, hb5⟩
    have HB5 := Lib.hid (bnext HB4.out hb5)
    clear hb5
    go_wp2_with fail
    go_at_call 8
    refine (CI.out _ (HT.out.keep HB5.out)).mono ?_
    rintro e w6 ⟨rfl, hb6⟩
    have HB6 := Lib.hid (bnext HB5.out hb6)
    clear hb6
    go_wp2_with fail
    go_ret
    exact ⟨rfl, HB6.out⟩
  · have CZ := Lib.hid (fun W => szR_out k p (by omega) hp W)
    clear hs hp ht
    go_enter Tryd.func3, Tryd.ntmps3
    go_wp2_with fail
    go_at_call 5
    refine (CZ.out _).mono ?_
    rintro e w2 ⟨rfl, hb2⟩
    have HB2 := Lib.hid (bnext (below1 _ _) hb2)
    clear hb2
    go_wp2_with fail
    go_ret
    exact ⟨rfl, HB2.out⟩
end Go.Proofs.YtciomjggfeonmaaDoor
