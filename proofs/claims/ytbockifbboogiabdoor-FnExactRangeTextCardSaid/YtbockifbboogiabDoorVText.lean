/-
  Walks of l02Text and of the model's VersionOf.
-/
import Derived.Test.YtbockifbboogiabDoorDec
import Derived.Test.YtbockifbboogiabDoorVAt
import Derived.Lib.LaidTab
namespace Go.Proofs.YtbockifbboogiabDoor
open Go.ChangeShapes Go.WideShapes Go.ChangeAt Go.RowKit

set_option maxHeartbeats 1000000 in
theorem l02Text_any (n a b c : Int) (h0 : 0 ≤ n) (h1 : n ≤ 999999999) (ha : n / 1000000 = a) (hb : n / 1000 % 1000 = b) (hc : n % 1000 = c) (w : World) :
    Calls Tryd.prog 33 #[.int .i64 n] w fun e w' => e = .returned (.string (verB a b c)) ∧ Below w.heap.size w w' := by
  unfold verB
  have hA : 0 ≤ a ∧ a < 1000 := by omega
  have hB : 0 ≤ b ∧ b < 1000 := by omega
  have hC : 0 ≤ c ∧ c < 1000 := by omega
  have CA : Hid (∀ W : World, Calls Tryd.prog 45 #[.int .i64 a] W fun e w' => e = .returned (.string (decB a)) ∧ Below W.heap.size W w') := fun W => l02Dec_any a W hA.1 hA.2
  have CB : Hid (∀ W : World, Calls Tryd.prog 45 #[.int .i64 b] W fun e w' => e = .returned (.string (decB b)) ∧ Below W.heap.size W w') := fun W => l02Dec_any b W hB.1 hB.2
  have CC : Hid (∀ W : World, Calls Tryd.prog 45 #[.int .i64 c] W fun e w' => e = .returned (.string (decB c)) ∧ Below W.heap.size W w') := fun W => l02Dec_any c W hC.1 hC.2
  have sa := decB_size a hA.1 hA.2
  have sb := decB_size b hB.1 hB.2
  have sc := decB_size c hC.1 hC.2
  have q1 : n.tdiv 1000000 = a := by rw [Int.tdiv_eq_ediv_of_nonneg h0, ha]
  have q2 : n.tdiv 1000 = n / 1000 := Int.tdiv_eq_ediv_of_nonneg h0
  have q3 : (n / 1000).tmod 1000 = b := by rw [Int.tmod_eq_emod_of_nonneg (by omega), hb]
  have q4 : n.tmod 1000 = c := by rw [Int.tmod_eq_emod_of_nonneg h0, hc]
  have r1 : IntKind.i64.wrap a = a := by rw [IntKind.wrap_i64]; omega
  have r2 : IntKind.i64.wrap (n / 1000) = n / 1000 := by rw [IntKind.wrap_i64]; omega
  generalize decB a = A at *
  generalize decB b = B at *
  generalize decB c = C at *
  clear hA hB hC
  go_enter Tryd.func33, Tryd.ntmps33
  go_wp2_with fail
  go_at_call 45
  refine (CA.out _).mono ?_
  rintro e wx ⟨rfl, hba⟩
  go_wp2_with fail
  go_at_call 45
  refine (CB.out _).mono ?_
  rintro e wy ⟨rfl, hbb⟩
  go_wp2_with fail
  go_at_call 45
  refine (CC.out _).mono ?_
  rintro e wz ⟨rfl, hbc⟩
  go_wp2_with fail
  go_ret
  exact ⟨rfl, bchain (bchain hba hbb hba.size) hbc (bchain hba hbb hba.size).size⟩

theorem specVersionOf_no (n : Int) (h : n < 0 ∨ 999999999 < n) (w : World) :
    Calls Tryd.prog 15 #[.int .i64 n] w fun e w' => e = .returned (.string ⟨#[]⟩) ∧ Below w.heap.size w w' := by
  go_enter Tryd.func15, Tryd.ntmps15
  go_wp2_with (go_at_call 32; refine (l00In_no _ _ _ _ h).mono ?_; rintro e w' ⟨rfl, rfl⟩)
  go_ret
  exact ⟨rfl, Below.refl _ _⟩
theorem specVersionOf_yes (n : Int) (h0 : 0 ≤ n) (h1 : n ≤ 999999999) (w : World) :
    Calls Tryd.prog 15 #[.int .i64 n] w fun e w' => e = .returned (.string (verB (n / 1000000) (n % 1000000 / 1000) (n % 1000))) ∧ Below w.heap.size w w' := by
  have CT : Hid (∀ W : World, Calls Tryd.prog 33 #[.int .i64 n] W fun e w' => e = .returned (.string (verB (n / 1000000) (n % 1000000 / 1000) (n % 1000))) ∧ Below W.heap.size W w') := fun W => l02Text_any n _ _ _ h0 h1 rfl (by omega) rfl W
  generalize verB (n / 1000000) (n % 1000000 / 1000) (n % 1000) = v at *
  go_enter Tryd.func15, Tryd.ntmps15
  go_wp2_with (first
    | (go_at_call 32; refine (l00In_yes _ _ _ _ h0 h1).mono ?_; rintro e w' ⟨rfl, rfl⟩)
    | (go_at_call 33; refine (CT.out _).mono ?_; rintro e wx ⟨rfl, hb⟩))
  go_ret
  exact ⟨rfl, hb⟩

/-- What both answer. -/
def verOf (n : Int) : ByteArray := if 0 ≤ n ∧ n ≤ 999999999 then verB (n / 1000000) (n % 1000000 / 1000) (n % 1000) else ⟨#[]⟩

theorem specVersionOf_any (n : Int) (w : World) :
    Calls Tryd.prog 15 #[.int .i64 n] w fun e w' => e = .returned (.string (verOf n)) ∧ Below w.heap.size w w' := by
  unfold verOf
  by_cases h : 0 ≤ n ∧ n ≤ 999999999
  · rw [if_pos h]
    exact specVersionOf_yes n h.1 h.2 w
  · rw [if_neg h]
    exact specVersionOf_no n (by omega) w
theorem implVersionOf_any (n : Int) (w : World) (htab : Pows w) :
    Calls Tryd.prog 16 #[.int .i64 n] w fun e w' => e = .returned (.string (verOf n)) ∧ Below w.heap.size w w' := by
  unfold verOf
  by_cases h : 0 ≤ n ∧ n ≤ 999999999
  · rw [if_pos h]
    exact implVersionOf_yes n h.1 h.2 w htab
  · rw [if_neg h]
    exact implVersionOf_no n (by omega) w

theorem versionOfLaw (n : Int) (w : World) (_hn : (Lit.int .i64 n).wf = true) (htab : Pows w) :
    Calls Tryd.prog 5 #[.int .i64 n] w fun e w' => e = .returned (.bool true) ∧ Below w.heap.size w w' := by
  have CS : Hid (∀ W : World, Calls Tryd.prog 15 #[.int .i64 n] W fun e w' => e = .returned (.string (verOf n)) ∧ Below W.heap.size W w') := fun W => specVersionOf_any n W
  have CI : Hid (∀ W : World, Pows W → Calls Tryd.prog 16 #[.int .i64 n] W fun e w' => e = .returned (.string (verOf n)) ∧ Below W.heap.size W w') := fun W => implVersionOf_any n W
  generalize verOf n = v at *
  go_enter Tryd.func5, Tryd.ntmps5
  go_wp2_with (first
    | (go_at_call 15; refine (CS.out _).mono ?_; rintro e wx ⟨rfl, ha⟩; have hx := htab.keep ha)
    | (go_at_call 16; refine (CI.out _ hx).mono ?_; rintro e wy ⟨rfl, hb⟩))
  go_ret
  exact ⟨rfl, bchain ha hb ha.size⟩

theorem gPow : Tryd.prog.globalNamed "internal/strconv.uint64pow10" = some 1 := by kernel_rfl
theorem gPowType : (Tryd.prog.globals[1]?).map (·.type) = some 77 := by kernel_rfl
theorem cellsU64 : Tryd.prog.cellsOf 67 = 1 := by kernel_rfl
theorem cellsPow : Tryd.prog.cellsOf 77 = 20 := by kernel_rfl
theorem powData : (Rows.laid_internal_strconv_uint64pow10 : DataW Unit) = Lib.tabData .u64 Lib.pow10Tab := by kernel_rfl

set_option maxRecDepth 100000 in
/-- The table of powers, out of what the row lists. -/
theorem pows {W : World} (h : laidMetH Tryd.prog Rows.fnExactVersionOfRow.laid W) : Pows W := by
  have h0 : laidMet Tryd.prog [("math/bits.deBruijn32tab", Rows.laid_math_bits_deBruijn32tab), ("math/bits.deBruijn64tab", Rows.laid_math_bits_deBruijn64tab), ("internal/strconv.uint64pow10", Rows.laid_internal_strconv_uint64pow10)] W := h
  obtain ⟨ps, ⟨_, _, _, _, _, _, _, _, _, _, ⟨_, _, _, _, _, _, _, _, _, _, ⟨g', t', cs, fuel, p, q, hg', ht', hvar, hd, _, _⟩, _⟩, _⟩, _⟩ := h0
  obtain rfl := Option.some.inj (gPow.symm.trans hg')
  obtain rfl := Option.some.inj (gPowType.symm.trans ht')
  rw [powData] at hd
  unfold Pows Lib.TabIs
  rw [hvar, ← Lib.cells_of_tab Tryd.underlying77 Tryd.underlying67 cellsU64 cellsPow hd]
end Go.Proofs.YtbockifbboogiabDoor
