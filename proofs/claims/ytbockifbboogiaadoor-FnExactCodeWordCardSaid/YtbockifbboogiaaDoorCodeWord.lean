/-
  The walks of the law on CodeWord; the table of the names is a hypothesis on the world.
-/
import Derived.Test.YtbockifbboogiaaDoorBase
import Derived.Test.YtbockifbboogiaaDoorIn
import Derived.Lib.LaidTab
import Derived.OpenShut
namespace Go.Proofs.YtbockifbboogiaaDoor
open Go.ChangeShapes Go.WideShapes Go.ChangeAt Go.RowKit

/-- The names, as Go's bytes. -/
def words : List (List UInt8) := [[111, 107], [102, 111, 114, 109], [114, 97, 110, 103, 101], [110, 111, 110, 101], [109, 97, 110, 121], [115, 116, 97, 116, 101], [112, 97, 114, 115, 101], [116, 121, 112, 101], [116, 114, 97, 112], [102, 117, 101, 108], [109, 101, 109, 111, 114, 121], [104, 97, 110, 100, 108, 101], [108, 101, 110, 116], [99, 121, 99, 108, 101], [118, 101, 114, 115, 105, 111, 110], [114, 105, 103, 104, 116], [101, 110, 116, 101, 114], [99, 97, 110, 99, 101, 108], [114, 101, 97, 100], [116, 101, 120, 116]]
/-- What the row's list gives: the table's cells hold the names. -/
def Table (w : World) : Prop := ∀ i, i < 20 → w.cell? ⟨0, i, none⟩ = some (.string ⟨(words.getD i []).toArray⟩)

theorem gTab : Tryd.prog.globalNamed "loop.example/g00901/impl.codeWords" = some 0 := by kernel_rfl
theorem gTabType : (Tryd.prog.globals[0]?).map (·.type) = some 72 := by kernel_rfl
theorem cells9 : Tryd.prog.cellsOf 9 = 1 := by kernel_rfl
set_option maxRecDepth 100000 in
theorem table {W : World} (h : laidMetH Tryd.prog Rows.fnExactCodeWordRow.laid W) : Table W := by
  have h0 : laidMet Tryd.prog [("loop.example/g00901/impl.codeWords", Rows.laid_loop_example_g00901_impl_codeWords)] W := h
  obtain ⟨ps, ⟨g', t', cs, fuel, p, q, hg', ht', hvar, hd, _, _⟩, _⟩ := h0
  obtain rfl := Option.some.inj (gTab.symm.trans hg')
  obtain rfl := Option.some.inj (gTabType.symm.trans ht')
  obtain ⟨xs, m, rfl, hx, hlen, hxl, hi⟩ := DataW.trod_array Tryd.underlying72 hd
  intro i hi20
  have h1 := hi i hi20
  rw [cells9, Nat.mul_one] at h1
  rw [World.var?_cell gTab hvar i]
  have hxi : i < xs.length := by omega
  rw [List.getElem?_eq_getElem hxi] at h1
  obtain ⟨s, hs, hxs, _⟩ := DataW.trod_string Tryd.underlying9 h1
  have h2 : cs.toList[i]? = some (.string s) := by
    have h3 : ((cs.toList.drop i).take 1)[0]? = some (.string s) := by rw [hs]; rfl
    simpa using h3
  have h4 : cs[i]? = some (.string s) := by simpa using h2
  rw [h4]
  have h5 : (xs.map (·.1))[i]? = some (.lit (.string s.data.toList)) := by
    rw [List.getElem?_map, List.getElem?_eq_getElem hxi, hxs]; rfl
  have h6 : xs.map (·.1) = words.map fun l => DataW.lit (.string l) := by
    have h7 := congrArg Prod.fst hx
    simp only at h7
    injection h7 with h8
    exact h8.symm
  rw [h6, List.getElem?_map] at h5
  have h9 : words[i]? = some s.data.toList := by
    cases hw : words[i]? with
    | none => rw [hw] at h5; cases h5
    | some l =>
      rw [hw] at h5
      injection h5 with h5
      injection h5 with h5
      injection h5 with h5
      rw [h5]
  rw [List.getD_eq_getElem?_getD, h9]
  rfl

set_option maxRecDepth 100000 in
theorem specCodeWord_in (i : Nat) (x : ByteArray) (w : World) (hi : i < 20) (hx : (⟨(words.getD i []).toArray⟩ : ByteArray) = x) :
    Calls Tryd.prog 22 #[.int .i64 i] w fun e w' => e = .returned (.string x) ∧ Below w.heap.size w w' := by
  have hc : (w.alloc (.cells #[.string ⟨#[111, 107]⟩, .string ⟨#[102, 111, 114, 109]⟩, .string ⟨#[114, 97, 110, 103, 101]⟩, .string ⟨#[110, 111, 110, 101]⟩, .string ⟨#[109, 97, 110, 121]⟩, .string ⟨#[115, 116, 97, 116, 101]⟩, .string ⟨#[112, 97, 114, 115, 101]⟩, .string ⟨#[116, 121, 112, 101]⟩, .string ⟨#[116, 114, 97, 112]⟩, .string ⟨#[102, 117, 101, 108]⟩, .string ⟨#[109, 101, 109, 111, 114, 121]⟩, .string ⟨#[104, 97, 110, 100, 108, 101]⟩, .string ⟨#[108, 101, 110, 116]⟩, .string ⟨#[99, 121, 99, 108, 101]⟩, .string ⟨#[118, 101, 114, 115, 105, 111, 110]⟩, .string ⟨#[114, 105, 103, 104, 116]⟩, .string ⟨#[101, 110, 116, 101, 114]⟩, .string ⟨#[99, 97, 110, 99, 101, 108]⟩, .string ⟨#[114, 101, 97, 100]⟩, .string ⟨#[116, 101, 120, 116]⟩] 9)).cell? ⟨w.heap.size, i, none⟩ = some (.string x) := by
    rw [World.cell?_alloc_new, ← hx]
    rcases (show i = 0 ∨ i = 1 ∨ i = 2 ∨ i = 3 ∨ i = 4 ∨ i = 5 ∨ i = 6 ∨ i = 7 ∨ i = 8 ∨ i = 9 ∨ i = 10 ∨ i = 11 ∨ i = 12 ∨ i = 13 ∨ i = 14 ∨ i = 15 ∨ i = 16 ∨ i = 17 ∨ i = 18 ∨ i = 19 by omega) with rfl | rfl | rfl | rfl | rfl | rfl | rfl | rfl | rfl | rfl | rfl | rfl | rfl | rfl | rfl | rfl | rfl | rfl | rfl | rfl <;> rfl
  have hii : (i : Int) < 20 := by omega
  clear hx
  go_enter Tryd.func22, Tryd.ntmps22
  go_wp2_with (go_at_call 41; refine (l00In_yes _ _ _ _ (by omega) (by omega)).mono ?_; rintro e w' ⟨rfl, rfl⟩)
  go_ret
  exact ⟨rfl, below1 _ _⟩
set_option maxRecDepth 100000 in
theorem specCodeWord_out (n : Int) (w : World) (hn : n < 0 ∨ 19 < n) :
    Calls Tryd.prog 22 #[.int .i64 n] w fun e w' => e = .returned (.string ⟨#[]⟩) ∧ Below w.heap.size w w' := by
  go_enter Tryd.func22, Tryd.ntmps22
  go_wp2_with (go_at_call 41; refine (l00In_no _ _ _ _ (by omega)).mono ?_; rintro e w' ⟨rfl, rfl⟩)
  go_ret
  exact ⟨rfl, below1 _ _⟩
theorem implCodeWord_in (i : Nat) (x : ByteArray) (w : World) (hi : i < 20) (hc : w.cell? ⟨0, i, none⟩ = some (.string x)) :
    Calls Tryd.prog 23 #[.int .i64 i] w fun e w' => e = .returned (.string x) ∧ Below w.heap.size w w' := by
  have hii : (i : Int) < 20 := by omega
  have hi0 : ¬ (i : Int) < 0 := by omega
  go_enter Tryd.func23, Tryd.ntmps23
  go_wp2
  go_ret
  exact ⟨rfl, Below.refl _ _⟩
theorem implCodeWord_out (n : Int) (w : World) (hn : n < 0 ∨ 19 < n) :
    Calls Tryd.prog 23 #[.int .i64 n] w fun e w' => e = .returned (.string ⟨#[]⟩) ∧ Below w.heap.size w w' := by
  by_cases h : n < 0
  · go_enter Tryd.func23, Tryd.ntmps23
    go_wp2
    go_ret
    exact ⟨rfl, Below.refl _ _⟩
  · have h2 : 20 ≤ n := by omega
    go_enter Tryd.func23, Tryd.ntmps23
    go_wp2
    go_ret
    exact ⟨rfl, Below.refl _ _⟩

set_option maxRecDepth 100000 in
theorem codeWordLaw (n : Int) (w : World) (_ : (Lit.int .i64 n).wf = true) (hT : Table w) :
    Calls Tryd.prog 5 #[.int .i64 n] w fun e w' => e = .returned (.bool true) ∧ Below w.heap.size w w' := by
  by_cases h : n < 0 ∨ 19 < n
  · have C1 : Hid (∀ W, Calls Tryd.prog 22 #[.int .i64 n] W fun e w' => e = .returned (.string ⟨#[]⟩) ∧ Below W.heap.size W w') := fun W => specCodeWord_out n W h
    have C2 : Hid (∀ W, Calls Tryd.prog 23 #[.int .i64 n] W fun e w' => e = .returned (.string ⟨#[]⟩) ∧ Below W.heap.size W w') := fun W => implCodeWord_out n W h
    clear h
    go_enter Tryd.func5, Tryd.ntmps5
    go_wp2_with fail
    go_at_call 22
    refine (C1.out _).mono ?_
    rintro e w1 ⟨rfl, hb1⟩
    go_wp2_with fail
    go_at_call 23
    refine (C2.out _).mono ?_
    rintro e w2 ⟨rfl, hb2⟩
    have hb := bchain hb1 hb2 hb1.size
    clear hb1 hb2
    go_wp2_with fail
    go_ret
    exact ⟨rfl, hb⟩
  · obtain ⟨i, rfl⟩ := Int.eq_ofNat_of_zero_le (show 0 ≤ n by omega)
    have hi : i < 20 := by omega
    obtain ⟨x, hx⟩ : ∃ x, (⟨(words.getD i []).toArray⟩ : ByteArray) = x := ⟨_, rfl⟩
    have hcw := hT i hi
    rw [hx] at hcw
    have C1 : Hid (∀ W, Calls Tryd.prog 22 #[.int .i64 i] W fun e w' => e = .returned (.string x) ∧ Below W.heap.size W w') := fun W => specCodeWord_in i x W hi hx
    clear h hx
    go_enter Tryd.func5, Tryd.ntmps5
    go_wp2_with fail
    go_at_call 22
    refine (C1.out _).mono ?_
    rintro e w1 ⟨rfl, hb1⟩
    have hc1 := keepCell hb1 hcw
    go_wp2_with fail
    go_at_call 23
    refine (implCodeWord_in i x _ hi hc1).mono ?_
    rintro e w2 ⟨rfl, hb2⟩
    have hb := bchain hb1 hb2 hb1.size
    clear hb1 hb2 hc1 hcw
    go_wp2_with fail
    go_ret
    exact ⟨rfl, hb⟩
end Go.Proofs.YtbockifbboogiaaDoor
