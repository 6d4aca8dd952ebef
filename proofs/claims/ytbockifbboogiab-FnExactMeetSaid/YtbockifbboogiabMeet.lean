/-
  Walks of both Meet, of l00Max, l00Min, eqRange. The numbers are int64; no other condition.
-/
import Derived.Test.YtbockifbboogiabRangeOkLaw
namespace Go.Proofs.Ytbockifbboogiab
open Go.ChangeShapes Go.WideShapes Go.ChangeAt Go.RowKit

theorem l00Max_any (a b : Int) (w : World) :
    Calls Try.prog 21 #[.int .i64 a, .int .i64 b] w fun e w' => e = .returned (.int .i64 (max a b)) ∧ w = w' := by
  by_cases h : b < a
  · go_enter Try.func21, Try.ntmps21
    go_wp2
    go_ret
    exact ⟨ret_int (by omega), rfl⟩
  · go_enter Try.func21, Try.ntmps21
    go_wp2
    go_ret
    exact ⟨ret_int (by omega), rfl⟩
theorem l00Min_any (a b : Int) (w : World) :
    Calls Try.prog 22 #[.int .i64 a, .int .i64 b] w fun e w' => e = .returned (.int .i64 (min a b)) ∧ w = w' := by
  by_cases h : a < b
  · go_enter Try.func22, Try.ntmps22
    go_wp2
    go_ret
    exact ⟨ret_int (by omega), rfl⟩
  · go_enter Try.func22, Try.ntmps22
    go_wp2
    go_ret
    exact ⟨ret_int (by omega), rfl⟩
theorem eqRange_same (a b : Int) (w : World) :
    Calls Try.prog 16 #[.agg #[.int .i64 a, .int .i64 b], .agg #[.int .i64 a, .int .i64 b]] w fun e w' => e = .returned (.bool true) ∧ Below w.heap.size w w' := by
  go_enter Try.func16, Try.ntmps16
  go_wp2
  go_ret
  exact ⟨rfl, ((Below.refl _ _).alloc (Nat.le_refl _) _).alloc (by simp) _⟩

set_option maxHeartbeats 1000000 in
theorem implMeet_yes (a b c d lo hi : Int) (w : World) (h1 : rOk a b) (h2 : rOk c d) (h3 : rOk lo hi) (e1 : c < a ∧ lo = a ∨ a < c ∧ lo = c ∨ a = c ∧ lo = a) (e2 : b < d ∧ hi = b ∨ d < b ∧ hi = d ∨ b = d ∧ hi = b) :
    Calls Try.prog 15 #[.agg #[.int .i64 a, .int .i64 b], .agg #[.int .i64 c, .int .i64 d]] w fun e w' => e = .returned (.tuple #[.agg #[.int .i64 lo, .int .i64 hi], .bool true]) ∧ Below w.heap.size w w' := by
  have H1 := Lib.hid h1
  have H2 := Lib.hid h2
  have H3 := Lib.hid h3
  clear h1 h2 h3
  rcases e1 with ⟨e1, rfl⟩ | ⟨e1, rfl⟩ | ⟨rfl, rfl⟩ <;> rcases e2 with ⟨e2, rfl⟩ | ⟨e2, rfl⟩ | ⟨rfl, rfl⟩
  all_goals
    go_enter Try.func15, Try.ntmps15
    go_wp2_with fail
    go_at_call 13
    refine (implRangeOk_yes _ _ _ H1.out).mono ?_
    rintro e w1 ⟨rfl, k1⟩
    have hb := k1
    clear k1
    obtain ⟨hc, hf⟩ := bcell hb
    go_wp2_with fail
    go_at_call 13
    refine (implRangeOk_yes _ _ _ H2.out).mono ?_
    rintro e w2 ⟨rfl, k2⟩
    have hb := hb.trans (k2.mono hb.size)
    clear k2 hc hf
    obtain ⟨hc, hf⟩ := bcell hb
    go_wp2_with fail
    go_at_call 13
    refine (implRangeOk_yes _ _ _ H3.out).mono ?_
    rintro e w3 ⟨rfl, k3⟩
    have hb := hb.trans (k3.mono hb.size)
    clear k3 hc hf
    obtain ⟨hc, hf⟩ := bcell hb
    go_wp2_with fail
    refine bodyPost_ret (v := .tuple #[.agg #[.int .i64 lo, .int .i64 hi], .bool true]) (by simp [results, Try.results15, go_sem, hc]) rfl ⟨rfl, ?_⟩
    exact ((bchain (below4 _ _ _ _ _) hb (by simp; omega)).setCell (by simp; omega) _).setCell (by simp; omega) _

set_option maxHeartbeats 1000000 in
theorem implMeet_no1 (a b c d lo hi : Int) (w : World) (h1 : ¬ rOk a b) (e1 : c < a ∧ lo = a ∨ a < c ∧ lo = c ∨ a = c ∧ lo = a) (e2 : b < d ∧ hi = b ∨ d < b ∧ hi = d ∨ b = d ∧ hi = b) :
    Calls Try.prog 15 #[.agg #[.int .i64 a, .int .i64 b], .agg #[.int .i64 c, .int .i64 d]] w fun e w' => e = .returned (.tuple #[.agg #[.int .i64 0, .int .i64 0], .bool false]) ∧ Below w.heap.size w w' := by
  have H1 := Lib.hid h1
  clear h1
  rcases e1 with ⟨e1, rfl⟩ | ⟨e1, rfl⟩ | ⟨rfl, rfl⟩ <;> rcases e2 with ⟨e2, rfl⟩ | ⟨e2, rfl⟩ | ⟨rfl, rfl⟩
  all_goals
    go_enter Try.func15, Try.ntmps15
    go_wp2_with fail
    go_at_call 13
    refine (implRangeOk_no _ _ _ H1.out).mono ?_
    rintro e w1 ⟨rfl, k1⟩
    have hb := k1
    clear k1
    obtain ⟨hc, hf⟩ := bcell hb
    go_wp2_with fail
    refine bodyPost_ret (v := .tuple #[.agg #[.int .i64 0, .int .i64 0], .bool false]) (by simp [results, Try.results15, go_sem, hc]) rfl ⟨rfl, ?_⟩
    exact ((bchain (below4 _ _ _ _ _) hb (by simp; omega)).setCell (by simp; omega) _).setCell (by simp; omega) _

set_option maxHeartbeats 1000000 in
theorem implMeet_no2 (a b c d lo hi : Int) (w : World) (h1 : rOk a b) (h2 : ¬ rOk c d) (e1 : c < a ∧ lo = a ∨ a < c ∧ lo = c ∨ a = c ∧ lo = a) (e2 : b < d ∧ hi = b ∨ d < b ∧ hi = d ∨ b = d ∧ hi = b) :
    Calls Try.prog 15 #[.agg #[.int .i64 a, .int .i64 b], .agg #[.int .i64 c, .int .i64 d]] w fun e w' => e = .returned (.tuple #[.agg #[.int .i64 0, .int .i64 0], .bool false]) ∧ Below w.heap.size w w' := by
  have H1 := Lib.hid h1
  have H2 := Lib.hid h2
  clear h1 h2
  rcases e1 with ⟨e1, rfl⟩ | ⟨e1, rfl⟩ | ⟨rfl, rfl⟩ <;> rcases e2 with ⟨e2, rfl⟩ | ⟨e2, rfl⟩ | ⟨rfl, rfl⟩
  all_goals
    go_enter Try.func15, Try.ntmps15
    go_wp2_with fail
    go_at_call 13
    refine (implRangeOk_yes _ _ _ H1.out).mono ?_
    rintro e w1 ⟨rfl, k1⟩
    have hb := k1
    clear k1
    obtain ⟨hc, hf⟩ := bcell hb
    go_wp2_with fail
    go_at_call 13
    refine (implRangeOk_no _ _ _ H2.out).mono ?_
    rintro e w2 ⟨rfl, k2⟩
    have hb := hb.trans (k2.mono hb.size)
    clear k2 hc hf
    obtain ⟨hc, hf⟩ := bcell hb
    go_wp2_with fail
    refine bodyPost_ret (v := .tuple #[.agg #[.int .i64 0, .int .i64 0], .bool false]) (by simp [results, Try.results15, go_sem, hc]) rfl ⟨rfl, ?_⟩
    exact ((bchain (below4 _ _ _ _ _) hb (by simp; omega)).setCell (by simp; omega) _).setCell (by simp; omega) _

set_option maxHeartbeats 1000000 in
theorem implMeet_no3 (a b c d lo hi : Int) (w : World) (h1 : rOk a b) (h2 : rOk c d) (h3 : ¬ rOk lo hi) (e1 : c < a ∧ lo = a ∨ a < c ∧ lo = c ∨ a = c ∧ lo = a) (e2 : b < d ∧ hi = b ∨ d < b ∧ hi = d ∨ b = d ∧ hi = b) :
    Calls Try.prog 15 #[.agg #[.int .i64 a, .int .i64 b], .agg #[.int .i64 c, .int .i64 d]] w fun e w' => e = .returned (.tuple #[.agg #[.int .i64 0, .int .i64 0], .bool false]) ∧ Below w.heap.size w w' := by
  have H1 := Lib.hid h1
  have H2 := Lib.hid h2
  have H3 := Lib.hid h3
  clear h1 h2 h3
  rcases e1 with ⟨e1, rfl⟩ | ⟨e1, rfl⟩ | ⟨rfl, rfl⟩ <;> rcases e2 with ⟨e2, rfl⟩ | ⟨e2, rfl⟩ | ⟨rfl, rfl⟩
  all_goals
    go_enter Try.func15, Try.ntmps15
    go_wp2_with fail
    go_at_call 13
    refine (implRangeOk_yes _ _ _ H1.out).mono ?_
    rintro e w1 ⟨rfl, k1⟩
    have hb := k1
    clear k1
    obtain ⟨hc, hf⟩ := bcell hb
    go_wp2_with fail
    go_at_call 13
    refine (implRangeOk_yes _ _ _ H2.out).mono ?_
    rintro e w2 ⟨rfl, k2⟩
    have hb := hb.trans (k2.mono hb.size)
    clear k2 hc hf
    obtain ⟨hc, hf⟩ := bcell hb
    go_wp2_with fail
    go_at_call 13
    refine (implRangeOk_no _ _ _ H3.out).mono ?_
    rintro e w3 ⟨rfl, k3⟩
    have hb := hb.trans (k3.mono hb.size)
    clear k3 hc hf
    obtain ⟨hc, hf⟩ := bcell hb
    go_wp2_with fail
    refine bodyPost_ret (v := .tuple #[.agg #[.int .i64 0, .int .i64 0], .bool false]) (by simp [results, Try.results15, go_sem, hc]) rfl ⟨rfl, ?_⟩
    exact ((bchain (below4 _ _ _ _ _) hb (by simp; omega)).setCell (by simp; omega) _).setCell (by simp; omega) _
end Go.Proofs.Ytbockifbboogiab
