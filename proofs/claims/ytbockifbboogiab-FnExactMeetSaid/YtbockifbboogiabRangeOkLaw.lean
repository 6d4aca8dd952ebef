/-
  The walks of the laws on RangeOk: the rest.
-/
import Derived.Test.YtbockifbboogiabRangeOk
namespace Go.Proofs.Ytbockifbboogiab
open Go.ChangeShapes Go.WideShapes Go.ChangeAt Go.RowKit

theorem implRangeOk_no (a b : Int) (w : World) (h : ¬ rOk a b) :
    Calls Try.prog 13 #[.agg #[.int .i64 a, .int .i64 b]] w fun e w' => e = .returned (.bool false) ∧ Below w.heap.size w w' := by
  unfold rOk at h
  by_cases h1 : 0 ≤ a
  · by_cases h2 : a < b
    · have h3 : ¬ b ≤ 1000000000 := by omega
      clear h
      go_enter Try.func13, Try.ntmps13
      go_wp2
      go_ret
      exact ⟨rfl, (Below.refl _ _).alloc (Nat.le_refl _) _⟩
    · clear h
      go_enter Try.func13, Try.ntmps13
      go_wp2
      go_ret
      exact ⟨rfl, (Below.refl _ _).alloc (Nat.le_refl _) _⟩
  · clear h
    go_enter Try.func13, Try.ntmps13
    go_wp2
    go_ret
    exact ⟨rfl, (Below.refl _ _).alloc (Nat.le_refl _) _⟩

theorem rangeOkLaw (a b : Int) (w : World) (_ : (Lit.int .i64 a).wf = true) (_ : (Lit.int .i64 b).wf = true) :
    Calls Try.prog 5 #[.agg #[.int .i64 a, .int .i64 b]] w fun e w' => e = .returned (.bool true) ∧ Below w.heap.size w w' := by
  by_cases h : rOk a b
  · have H := Lib.hid h
    clear h
    have b0 : Below w.heap.size w (w.alloc (.cells #[.int .i64 a, .int .i64 b] 27)) := (Below.refl _ _).alloc (Nat.le_refl _) _
    have z0 : w.heap.size ≤ (w.alloc (.cells #[.int .i64 a, .int .i64 b] 27)).heap.size := by simp
    go_enter Try.func5, Try.ntmps5
    go_wp2_with fail
    go_at_call 12
    refine (toRange_any _ _ _).mono ?_
    rintro e w1 ⟨rfl, hb1⟩
    go_wp2_with fail
    go_at_call 11
    refine (specRangeOk_yes _ _ _ H.out).mono ?_
    rintro e w2 ⟨rfl, hb2⟩
    have b1 := bchain b0 hb1 z0
    have b2 := bchain b1 hb2 b1.size
    have hb02 := hb1.trans (hb2.mono hb1.size)
    obtain ⟨hc, hf⟩ := bcell hb02
    go_wp2_with fail
    go_at_call 12
    refine (toRange_any _ _ _).mono ?_
    rintro e w3 ⟨rfl, hb3⟩
    go_wp2_with fail
    go_at_call 13
    refine (implRangeOk_yes _ _ _ H.out).mono ?_
    rintro e w4 ⟨rfl, hb4⟩
    have b3 := bchain b2 hb3 b2.size
    have b4 := bchain b3 hb4 b3.size
    clear hb1 hb2 hb3 hb4 hb02 hc hf
    go_wp2_with fail
    go_ret
    exact ⟨rfl, b4⟩
  · have H := Lib.hid h
    clear h
    have b0 : Below w.heap.size w (w.alloc (.cells #[.int .i64 a, .int .i64 b] 27)) := (Below.refl _ _).alloc (Nat.le_refl _) _
    have z0 : w.heap.size ≤ (w.alloc (.cells #[.int .i64 a, .int .i64 b] 27)).heap.size := by simp
    go_enter Try.func5, Try.ntmps5
    go_wp2_with fail
    go_at_call 12
    refine (toRange_any _ _ _).mono ?_
    rintro e w1 ⟨rfl, hb1⟩
    go_wp2_with fail
    go_at_call 11
    refine (specRangeOk_no _ _ _ H.out).mono ?_
    rintro e w2 ⟨rfl, hb2⟩
    have b1 := bchain b0 hb1 z0
    have b2 := bchain b1 hb2 b1.size
    have hb02 := hb1.trans (hb2.mono hb1.size)
    obtain ⟨hc, hf⟩ := bcell hb02
    go_wp2_with fail
    go_at_call 12
    refine (toRange_any _ _ _).mono ?_
    rintro e w3 ⟨rfl, hb3⟩
    go_wp2_with fail
    go_at_call 13
    refine (implRangeOk_no _ _ _ H.out).mono ?_
    rintro e w4 ⟨rfl, hb4⟩
    have b3 := bchain b2 hb3 b2.size
    have b4 := bchain b3 hb4 b3.size
    clear hb1 hb2 hb3 hb4 hb02 hc hf
    go_wp2_with fail
    go_ret
    exact ⟨rfl, b4⟩
end Go.Proofs.Ytbockifbboogiab
