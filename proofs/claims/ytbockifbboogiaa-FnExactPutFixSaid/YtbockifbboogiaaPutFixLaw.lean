/-
  The walk of the law on PutFix.
-/
import Derived.Test.YtbockifbboogiaaPutFix
namespace Go.Proofs.Ytbockifbboogiaa
open Go.ChangeShapes Go.WideShapes Go.ChangeAt Go.RowKit

set_option maxRecDepth 100000 in
set_option maxHeartbeats 1000000 in
theorem specPutFix_bad (n m : Int) (w : World) (hm : m < 0 ∨ 8 < m) :
    Calls Try.prog 30 #[.int .i64 n, .int .i64 m] w fun e w' => e = .returned (.string (strOfNums [])) ∧ Below w.heap.size w w' := by
  go_enter Try.func30, Try.ntmps30
  go_wp2_with fail
  go_loopw [0, 5, 6] (fun v0 v5 v6 wr => v0 = .int .i64 n ∧ v6 = .int .i64 0 ∧ v5 ≠ .slice none 0 0 ∧ wr.ownsRow w.heap.size 5 1 v5 0 (([] : List Int).map (Value.int .u8)) ∧ Below w.heap.size w wr) (fun _ _ _ _ => 0)
  case atStart => exact ⟨rfl, rfl, by simp, World.ownsRow_made _ _ _ (Nat.le_refl _) (by unfold maxLen; omega) (by simp), below1 _ _⟩
  case round =>
    obtain ⟨rfl, rfl, hv, hown, hbel⟩ := hrel
    have hcv := run_convert_own (P := Try.prog) wr 22 5 Try.underlying22 Try.underlying5 w.heap.size u5 _ _ hown hv 9 Try.underlying9
    clear hown hv
    by_cases hp : 0 < m
    · go_wp2_with (go_at_call 51; refine (l00In_no _ _ _ _ (by omega)).mono ?_; rintro e w' ⟨rfl, rfl⟩)
      go_ret
      exact ⟨rfl, hbel⟩
    · go_wp2_with fail
      go_ret
      exact ⟨rfl, hbel⟩

set_option maxRecDepth 100000 in
theorem implPutFix_bad (n m : Int) (w : World) (hm : m < 0 ∨ 8 < m) :
    Calls Try.prog 25 #[.int .i64 n, .int .i64 m] w fun e w' => e = .returned (.string (strOfNums [])) ∧ Below w.heap.size w w' := by
  have he : (⟨#[]⟩ : ByteArray) = strOfNums [] := rfl
  by_cases h : m < 0
  · go_enter Try.func25, Try.ntmps25
    go_wp2_with fail
    go_ret
    exact ⟨ret_string he, Below.refl _ _⟩
  · have h2 : 8 < m := by omega
    go_enter Try.func25, Try.ntmps25
    go_wp2_with fail
    go_ret
    exact ⟨ret_string he, Below.refl _ _⟩

set_option maxRecDepth 100000 in
theorem putFixLaw (n m : Int) (w : World) (wn : (Lit.int .i64 n).wf = true) (_ : (Lit.int .i64 m).wf = true) :
    Calls Try.prog 8 #[.int .i64 n, .int .i64 m] w fun e w' => e = .returned (.bool true) ∧ Below w.heap.size w w' := by
  obtain ⟨hn0, hn1⟩ := wf_i64_bounds wn
  by_cases h : m < 0 ∨ 8 < m
  · have H := Lib.hid h
    clear h
    obtain ⟨x, hx⟩ : ∃ x, strOfNums [] = x := ⟨_, rfl⟩
    have C1 : Hid (∀ W, Calls Try.prog 30 #[.int .i64 n, .int .i64 m] W fun e w' => e = .returned (.string x) ∧ Below W.heap.size W w') := by rw [← hx]; exact fun W => specPutFix_bad n m W H.out
    have C2 : Hid (∀ W, Calls Try.prog 25 #[.int .i64 n, .int .i64 m] W fun e w' => e = .returned (.string x) ∧ Below W.heap.size W w') := by rw [← hx]; exact fun W => implPutFix_bad n m W H.out
    clear hx
    go_enter Try.func8, Try.ntmps8
    go_wp2_with fail
    go_at_call 30
    refine (C1.out _).mono ?_
    rintro e w1 ⟨rfl, hb1⟩
    go_wp2_with fail
    go_at_call 25
    refine (C2.out _).mono ?_
    rintro e w2 ⟨rfl, hb2⟩
    have hb := bchain hb1 hb2 hb1.size
    clear hb1 hb2
    go_wp2_with fail
    go_ret
    exact ⟨rfl, hb⟩
  · obtain ⟨k, rfl⟩ := Int.eq_ofNat_of_zero_le (show 0 ≤ m by omega)
    have hk : k ≤ 8 := by omega
    clear h
    obtain ⟨x, hx⟩ : ∃ x, strOfNums (fixl n k) = x := ⟨_, rfl⟩
    have C1 : Hid (∀ W, Calls Try.prog 30 #[.int .i64 n, .int .i64 k] W fun e w' => e = .returned (.string x) ∧ Below W.heap.size W w') := by rw [← hx]; exact fun W => specPutFix_any n k W hk
    have C2 : Hid (∀ W, Calls Try.prog 25 #[.int .i64 n, .int .i64 k] W fun e w' => e = .returned (.string x) ∧ Below W.heap.size W w') := by rw [← hx]; exact fun W => implPutFix_any n k W hk hn0 hn1
    clear hx
    go_enter Try.func8, Try.ntmps8
    go_wp2_with fail
    go_at_call 30
    refine (C1.out _).mono ?_
    rintro e w1 ⟨rfl, hb1⟩
    go_wp2_with fail
    go_at_call 25
    refine (C2.out _).mono ?_
    rintro e w2 ⟨rfl, hb2⟩
    have hb := bchain hb1 hb2 hb1.size
    clear hb1 hb2
    go_wp2_with fail
    go_ret
    exact ⟨rfl, hb⟩
end Go.Proofs.Ytbockifbboogiaa
