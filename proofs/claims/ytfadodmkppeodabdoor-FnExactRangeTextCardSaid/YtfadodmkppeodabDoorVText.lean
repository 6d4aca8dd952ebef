/-
  Walks of l02Text and of the model's VersionOf.
-/
import Derived.Test.YtfadodmkppeodabDoorL02T
import Derived.Lib.LaidTab
namespace Go.Proofs.YtfadodmkppeodabDoor
open Go.ChangeShapes Go.WideShapes Go.ChangeAt Go.RowKit

theorem specVersionOf_no (n : Int) (h : n < 0 ∨ 999999999 < n) (w : World) :
    Calls Tryd.prog 28 #[.int .i64 n] w fun e w' => e = .returned (.string ⟨#[]⟩) ∧ Below w.heap.size w w' := by
  go_enter Tryd.func28, Tryd.ntmps28
  go_wp2_with (go_at_call 45; refine (l00In_no _ _ _ _ h).mono ?_; rintro e w' ⟨rfl, rfl⟩)
  go_ret
  exact ⟨rfl, Below.refl _ _⟩
theorem specVersionOf_yes (n : Int) (h0 : 0 ≤ n) (h1 : n ≤ 999999999) (w : World) :
    Calls Tryd.prog 28 #[.int .i64 n] w fun e w' => e = .returned (.string (verB (n / 1000000) (n % 1000000 / 1000) (n % 1000))) ∧ Below w.heap.size w w' := by
  have CT : Hid (∀ W : World, Calls Tryd.prog 42 #[.int .i64 n] W fun e w' => e = .returned (.string (verB (n / 1000000) (n % 1000000 / 1000) (n % 1000))) ∧ Below W.heap.size W w') := fun W => l02Text_any n _ _ _ h0 h1 rfl (by omega) rfl W
  generalize verB (n / 1000000) (n % 1000000 / 1000) (n % 1000) = v at *
  go_enter Tryd.func28, Tryd.ntmps28
  go_wp2_with (first
    | (go_at_call 45; refine (l00In_yes _ _ _ _ h0 h1).mono ?_; rintro e w' ⟨rfl, rfl⟩)
    | (go_at_call 42; refine (CT.out _).mono ?_; rintro e wx ⟨rfl, hb⟩))
  go_ret
  exact ⟨rfl, hb⟩

/-- What both answer. -/
def verOf (n : Int) : ByteArray := if 0 ≤ n ∧ n ≤ 999999999 then verB (n / 1000000) (n % 1000000 / 1000) (n % 1000) else ⟨#[]⟩

theorem specVersionOf_any (n : Int) (w : World) :
    Calls Tryd.prog 28 #[.int .i64 n] w fun e w' => e = .returned (.string (verOf n)) ∧ Below w.heap.size w w' := by
  unfold verOf
  by_cases h : 0 ≤ n ∧ n ≤ 999999999
  · rw [if_pos h]
    exact specVersionOf_yes n h.1 h.2 w
  · rw [if_neg h]
    exact specVersionOf_no n (by omega) w
theorem implVersionOf_any (n : Int) (w : World) (htab : Pows w) :
    Calls Tryd.prog 29 #[.int .i64 n] w fun e w' => e = .returned (.string (verOf n)) ∧ Below w.heap.size w w' := by
  unfold verOf
  by_cases h : 0 ≤ n ∧ n ≤ 999999999
  · rw [if_pos h]
    exact implVersionOf_yes n h.1 h.2 w htab
  · rw [if_neg h]
    exact implVersionOf_no n (by omega) w

theorem versionOfLaw (n : Int) (w : World) (_hn : (Lit.int .i64 n).wf = true) (htab : Pows w) :
    Calls Tryd.prog 10 #[.int .i64 n] w fun e w' => e = .returned (.bool true) ∧ Below w.heap.size w w' := by
  have CS : Hid (∀ W : World, Calls Tryd.prog 28 #[.int .i64 n] W fun e w' => e = .returned (.string (verOf n)) ∧ Below W.heap.size W w') := fun W => specVersionOf_any n W
  have CI : Hid (∀ W : World, Pows W → Calls Tryd.prog 29 #[.int .i64 n] W fun e w' => e = .returned (.string (verOf n)) ∧ Below W.heap.size W w') := fun W => implVersionOf_any n W
  generalize verOf n = v at *
  go_enter Tryd.func10, Tryd.ntmps10
  go_wp2_with (first
    | (go_at_call 28; refine (CS.out _).mono ?_; rintro e wx ⟨rfl, ha⟩; have hx := htab.keep ha)
    | (go_at_call 29; refine (CI.out _ hx).mono ?_; rintro e wy ⟨rfl, hb⟩))
  go_ret
  exact ⟨rfl, bchain ha hb ha.size⟩

theorem gPow : Tryd.prog.globalNamed "internal/strconv.uint64pow10" = some 3 := by kernel_rfl
theorem gPowType : (Tryd.prog.globals[3]?).map (·.type) = some 88 := by kernel_rfl
theorem cellsU64 : Tryd.prog.cellsOf 74 = 1 := by kernel_rfl
theorem cellsPow : Tryd.prog.cellsOf 88 = 20 := by kernel_rfl
theorem powData : (Rows.laid_internal_strconv_uint64pow10 : DataW Unit) = Lib.tabData .u64 Lib.pow10Tab := by kernel_rfl

set_option maxRecDepth 100000 in
/-- The table of powers, out of what the row lists. -/
theorem pows {W : World} (h : laidMetH Tryd.prog Rows.fnExactVersionOfRow.laid W) : Pows W := by
  have h0 : laidMet Tryd.prog [("math/bits.deBruijn32tab", Rows.laid_math_bits_deBruijn32tab), ("math/bits.deBruijn64tab", Rows.laid_math_bits_deBruijn64tab), ("internal/strconv.uint64pow10", Rows.laid_internal_strconv_uint64pow10)] W := h
  obtain ⟨ps, ⟨_, _, _, _, _, _, _, _, _, _, ⟨_, _, _, _, _, _, _, _, _, _, ⟨g', t', cs, fuel, p, q, hg', ht', hvar, hd, _, _⟩, _⟩, _⟩, _⟩ := h0
  obtain rfl := Option.some.inj (gPow.symm.trans hg')
  obtain rfl := Option.some.inj (gPowType.symm.trans ht')
  rw [powData] at hd
  unfold Pows Lib.TabIs
  rw [hvar, ← Lib.cells_of_tab Tryd.underlying88 Tryd.underlying74 cellsU64 cellsPow hd]
end Go.Proofs.YtfadodmkppeodabDoor
