/-
  The walk of the law on GetFix.
-/
import Derived.Test.YtbockifbboogiaaGetFix
namespace Go.Proofs.Ytbockifbboogiaa
open Go.ChangeShapes Go.WideShapes Go.ChangeAt Go.RowKit

set_option maxRecDepth 100000 in
theorem specGetFix_long (s : ByteArray) (w : World) (hs : 8 < s.size) :
    Calls Try.prog 31 #[.string s] w fun e w' => e = .returned (.int .i64 0) ∧ Below w.heap.size w w' := by
  have hsi : ¬ (s.size : Int) ≤ 8 := by omega
  have hsp : (0 : Int) < (s.size : Int) := by omega
  go_enter Try.func31, Try.ntmps31
  go_wp2_with fail
  go_loop [3, 4] (fun v i => v = .int .i64 0 ∧ i = .int .i64 0) (fun _ _ => 0)
  case atStart => exact ⟨rfl, rfl⟩
  case round =>
    obtain ⟨rfl, rfl⟩ := hrel
    go_wp2_with fail
    go_ret
    exact ⟨rfl, Below.refl _ _⟩
theorem implGetFix_long (s : ByteArray) (w : World) (hs : 8 < s.size) :
    Calls Try.prog 24 #[.string s] w fun e w' => e = .returned (.int .i64 0) ∧ Below w.heap.size w w' := by
  have hsi : (8 : Int) < (s.size : Int) := by omega
  go_enter Try.func24, Try.ntmps24
  go_wp2_with fail
  go_ret
  exact ⟨rfl, Below.refl _ _⟩

set_option maxRecDepth 100000 in
theorem getFixLaw (s : ByteArray) (w : World) (hs : s.size ≤ maxLen) :
    Calls Try.prog 9 #[.string s] w fun e w' => e = .returned (.bool true) ∧ Below w.heap.size w w' := by
  unfold maxLen at hs
  by_cases h : (1048576 : Int) < (s.size : Int)
  · go_enter Try.func9, Try.ntmps9
    go_wp2_with fail
    go_ret
    exact ⟨rfl, Below.refl _ _⟩
  · by_cases h8 : 8 < s.size
    · have H := Lib.hid h8
      clear h8
      obtain ⟨x, hx⟩ : ∃ x, (0 : Int) = x := ⟨_, rfl⟩
      have C1 : Hid (∀ W, Calls Try.prog 31 #[.string s] W fun e w' => e = .returned (.int .i64 x) ∧ Below W.heap.size W w') := by rw [← hx]; exact fun W => specGetFix_long s W H.out
      have C2 : Hid (∀ W, Calls Try.prog 24 #[.string s] W fun e w' => e = .returned (.int .i64 x) ∧ Below W.heap.size W w') := by rw [← hx]; exact fun W => implGetFix_long s W H.out
      clear hx
      go_enter Try.func9, Try.ntmps9
      go_wp2_with fail
      go_at_call 31
      refine (C1.out _).mono ?_
      rintro e w1 ⟨rfl, hb1⟩
      go_wp2_with fail
      go_at_call 24
      refine (C2.out _).mono ?_
      rintro e w2 ⟨rfl, hb2⟩
      have hb := bchain hb1 hb2 hb1.size
      clear hb1 hb2
      go_wp2_with fail
      go_ret
      exact ⟨rfl, hb⟩
    · have H := Lib.hid (show s.size ≤ 8 by omega)
      clear h8
      obtain ⟨x, hx⟩ : ∃ x, wrap64 (fixv (nums s)) = x := ⟨_, rfl⟩
      have C1 : Hid (∀ W, Calls Try.prog 31 #[.string s] W fun e w' => e = .returned (.int .i64 x) ∧ Below W.heap.size W w') := by rw [← hx]; exact fun W => (specGetFix_any s W H.out).mono fun _ _ ⟨he, hw⟩ => ⟨he, hw ▸ Below.refl _ _⟩
      have C2 : Hid (∀ W, Calls Try.prog 24 #[.string s] W fun e w' => e = .returned (.int .i64 x) ∧ Below W.heap.size W w') := by rw [← hx]; exact fun W => implGetFix_any s W H.out
      clear hx
      go_enter Try.func9, Try.ntmps9
      go_wp2_with fail
      go_at_call 31
      refine (C1.out _).mono ?_
      rintro e w1 ⟨rfl, hb1⟩
      go_wp2_with fail
      go_at_call 24
      refine (C2.out _).mono ?_
      rintro e w2 ⟨rfl, hb2⟩
      have hb := bchain hb1 hb2 hb1.size
      clear hb1 hb2
      go_wp2_with fail
      go_ret
      exact ⟨rfl, hb⟩
end Go.Proofs.Ytbockifbboogiaa
