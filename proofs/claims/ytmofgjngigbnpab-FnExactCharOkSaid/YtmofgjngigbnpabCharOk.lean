/-
  The law FnExactCharOk: both answer the same for every int64.
-/
import Derived.Test.YtmofgjngigbnpabIn
namespace Go.Proofs.Ytmofgjngigbnpab
open Go.ChangeShapes Go.WideShapes Go.ChangeAt Go.RowKit

theorem specCharOk_yes (n : Int) (h : (0 ≤ n ∧ n ≤ 55295) ∨ (57344 ≤ n ∧ n ≤ 1114111)) (w : World) :
    Calls Try.prog 16 #[.int .i64 n] w fun e w' => e = .returned (.bool true) ∧ w = w' := by
  rcases h with ⟨h1, h2⟩ | ⟨h1, h2⟩
  · go_enter Try.func16, Try.ntmps16
    go_wp2_with (go_at_call 38; (first | refine (l00In_yes _ _ _ _ (by omega) (by omega)).mono ?_ | refine (l00In_no _ _ _ _ (by omega)).mono ?_); rintro e w' ⟨rfl, rfl⟩)
    go_ret
    exact ⟨rfl, rfl⟩
  · go_enter Try.func16, Try.ntmps16
    go_wp2_with (go_at_call 38; (first | refine (l00In_yes _ _ _ _ (by omega) (by omega)).mono ?_ | refine (l00In_no _ _ _ _ (by omega)).mono ?_); rintro e w' ⟨rfl, rfl⟩)
    go_ret
    exact ⟨rfl, rfl⟩

theorem specCharOk_no (n : Int) (h : ¬ ((0 ≤ n ∧ n ≤ 55295) ∨ (57344 ≤ n ∧ n ≤ 1114111))) (w : World) :
    Calls Try.prog 16 #[.int .i64 n] w fun e w' => e = .returned (.bool false) ∧ w = w' := by
  have h1 : n < 0 ∨ 55295 < n := by omega
  have h2 : n < 57344 ∨ 1114111 < n := by omega
  clear h
  go_enter Try.func16, Try.ntmps16
  go_wp2_with (go_at_call 38; (refine (l00In_no _ _ _ _ (by omega)).mono ?_); rintro e w' ⟨rfl, rfl⟩)
  go_ret
  exact ⟨rfl, rfl⟩

theorem implCharOk_yes (n : Int) (h : (0 ≤ n ∧ n ≤ 55295) ∨ (57344 ≤ n ∧ n ≤ 1114111)) (w : World) :
    Calls Try.prog 17 #[.int .i64 n] w fun e w' => e = .returned (.bool true) ∧ w = w' := by
  rcases h with ⟨h1, h2⟩ | ⟨h1, h2⟩
  · go_enter Try.func17, Try.ntmps17
    go_wp2
    go_ret
    exact ⟨rfl, rfl⟩
  · have h3 : 0 ≤ n := by omega
    have h4 : ¬ n ≤ 55295 := by omega
    go_enter Try.func17, Try.ntmps17
    go_wp2
    go_ret
    exact ⟨rfl, rfl⟩

theorem implCharOk_no (n : Int) (h : ¬ ((0 ≤ n ∧ n ≤ 55295) ∨ (57344 ≤ n ∧ n ≤ 1114111))) (w : World) :
    Calls Try.prog 17 #[.int .i64 n] w fun e w' => e = .returned (.bool false) ∧ w = w' := by
  by_cases h1 : n < 0
  · have h2 : ¬ 0 ≤ n := by omega
    have h3 : ¬ 57344 ≤ n := by omega
    clear h
    go_enter Try.func17, Try.ntmps17
    go_wp2
    go_ret
    exact ⟨rfl, rfl⟩
  · have h2 : 0 ≤ n := by omega
    have h3 : ¬ n ≤ 55295 := by omega
    by_cases h4 : n < 57344
    · have h5 : ¬ 57344 ≤ n := by omega
      clear h
      go_enter Try.func17, Try.ntmps17
      go_wp2
      go_ret
      exact ⟨rfl, rfl⟩
    · have h5 : 57344 ≤ n := by omega
      have h6 : ¬ n ≤ 1114111 := by omega
      have h7 : decide (n ≤ 1114111) = false := decide_eq_false h6
      clear h
      go_enter Try.func17, Try.ntmps17
      go_wp2
      go_ret
      exact ⟨rfl, rfl⟩

theorem charOk_both (n : Int) : ∃ v : Bool, (∀ w : World, Calls Try.prog 16 #[.int .i64 n] w fun e w' => e = .returned (.bool v) ∧ w = w') ∧
    (∀ w : World, Calls Try.prog 17 #[.int .i64 n] w fun e w' => e = .returned (.bool v) ∧ w = w') := by
  by_cases h : (0 ≤ n ∧ n ≤ 55295) ∨ (57344 ≤ n ∧ n ≤ 1114111)
  · exact ⟨true, fun w => specCharOk_yes n h w, fun w => implCharOk_yes n h w⟩
  · exact ⟨false, fun w => specCharOk_no n h w, fun w => implCharOk_no n h w⟩

theorem charOkLaw (n : Int) (w : World) (_ : (Lit.int .i64 n).wf = true) :
    Calls Try.prog 5 #[.int .i64 n] w fun e w' => e = .returned (.bool true) ∧ Below w.heap.size w w' := by
  obtain ⟨v, c1, c2⟩ := charOk_both n
  have CS := Lib.hid c1
  have CI := Lib.hid c2
  clear c1 c2
  go_enter Try.func5, Try.ntmps5
  go_wp2_with (first
    | (go_at_call 16; refine (CS.out _).mono ?_; rintro e wx ⟨rfl, rfl⟩)
    | (go_at_call 17; refine (CI.out _).mono ?_; rintro e wy ⟨rfl, rfl⟩))
  go_ret
  exact ⟨rfl, Below.refl _ _⟩
end Go.Proofs.Ytmofgjngigbnpab
