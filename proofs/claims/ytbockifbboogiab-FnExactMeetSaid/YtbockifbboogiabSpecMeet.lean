/-
  Walks of the model's Meet. The numbers are any; one theorem for each way through.
-/
import Derived.Test.YtbockifbboogiabMeet
import Derived.Deep.RegionHeld3
namespace Go.Proofs.Ytbockifbboogiab
open Go.ChangeShapes Go.WideShapes Go.ChangeAt Go.RowKit

set_option maxHeartbeats 1000000 in
theorem specMeet_no1 (a b c d lo hi : Int) (w : World) (h1 : ¬ rOk a b) (hlo : max a c = lo) (hhi : min b d = hi) :
    Calls Try.prog 14 #[.agg #[.int .i64 a, .int .i64 b], .agg #[.int .i64 c, .int .i64 d]] w fun e w' => e = .returned (.tuple #[.agg #[.int .i64 0, .int .i64 0], .bool false]) ∧ Below w.heap.size w w' := by
  have H1 := Lib.hid h1
  clear h1
  clear hlo hhi
  go_enter Try.func14, Try.ntmps14
  go_wp2_with fail
  go_at_call 11
  refine (specRangeOk_no _ _ _ H1.out).mono ?_
  rintro e w1 ⟨rfl, k1⟩
  have hb := k1
  clear k1
  obtain ⟨hc, hf⟩ := bcell hb
  go_wp2_with fail
  refine bodyPost_ret (v := .tuple #[.agg #[.int .i64 0, .int .i64 0], .bool false]) (by simp [results, Try.results14, go_sem, hc]) rfl ⟨rfl, ?_⟩
  exact ((bchain (below3 _ _ _ _) hb (by simp; omega)).setCell (by simp; omega) _).setCell (by simp; omega) _

set_option maxHeartbeats 1000000 in
theorem specMeet_no2 (a b c d lo hi : Int) (w : World) (h1 : rOk a b) (h2 : ¬ rOk c d) (hlo : max a c = lo) (hhi : min b d = hi) :
    Calls Try.prog 14 #[.agg #[.int .i64 a, .int .i64 b], .agg #[.int .i64 c, .int .i64 d]] w fun e w' => e = .returned (.tuple #[.agg #[.int .i64 0, .int .i64 0], .bool false]) ∧ Below w.heap.size w w' := by
  have H1 := Lib.hid h1
  have H2 := Lib.hid h2
  clear h1 h2
  clear hlo hhi
  go_enter Try.func14, Try.ntmps14
  go_wp2_with fail
  go_at_call 11
  refine (specRangeOk_yes _ _ _ H1.out).mono ?_
  rintro e w1 ⟨rfl, k1⟩
  have hb := k1
  clear k1
  obtain ⟨hc, hf⟩ := bcell hb
  go_wp2_with fail
  go_at_call 11
  refine (specRangeOk_no _ _ _ H2.out).mono ?_
  rintro e w2 ⟨rfl, k2⟩
  have hb := hb.trans (k2.mono hb.size)
  clear k2 hc hf
  obtain ⟨hc, hf⟩ := bcell hb
  go_wp2_with fail
  refine bodyPost_ret (v := .tuple #[.agg #[.int .i64 0, .int .i64 0], .bool false]) (by simp [results, Try.results14, go_sem, hc]) rfl ⟨rfl, ?_⟩
  exact ((bchain (below3 _ _ _ _) hb (by simp; omega)).setCell (by simp; omega) _).setCell (by simp; omega) _

set_option maxHeartbeats 1000000 in
theorem specMeet_yes (a b c d lo hi : Int) (w : World) (h1 : rOk a b) (h2 : rOk c d) (h3 : lo < hi) (hlo : max a c = lo) (hhi : min b d = hi) :
    Calls Try.prog 14 #[.agg #[.int .i64 a, .int .i64 b], .agg #[.int .i64 c, .int .i64 d]] w fun e w' => e = .returned (.tuple #[.agg #[.int .i64 lo, .int .i64 hi], .bool true]) ∧ Below w.heap.size w w' := by
  have H1 := Lib.hid h1
  have H2 := Lib.hid h2
  clear h1 h2
  have C1 : Hid (∀ W, Calls Try.prog 21 #[.int .i64 a, .int .i64 c] W fun e w' => e = .returned (.int .i64 lo) ∧ W = w') := by rw [← hlo]; exact fun W => l00Max_any _ _ _
  have C2 : Hid (∀ W, Calls Try.prog 22 #[.int .i64 b, .int .i64 d] W fun e w' => e = .returned (.int .i64 hi) ∧ W = w') := by rw [← hhi]; exact fun W => l00Min_any _ _ _
  clear hlo hhi
  go_enter Try.func14, Try.ntmps14
  go_wp2_with fail
  go_at_call 11
  refine (specRangeOk_yes _ _ _ H1.out).mono ?_
  rintro e w1 ⟨rfl, k1⟩
  have hb := k1
  clear k1
  obtain ⟨hc, hf⟩ := bcell hb
  go_wp2_with fail
  go_at_call 11
  refine (specRangeOk_yes _ _ _ H2.out).mono ?_
  rintro e w2 ⟨rfl, k2⟩
  have hb := hb.trans (k2.mono hb.size)
  clear k2 hc hf
  obtain ⟨hc, hf⟩ := bcell hb
  have s0 : w2.cell? ⟨w.heap.size, 0, none⟩ = some (.int .i64 a) := by rw [hc _ _ (by simp; omega)]; go_simp
  have s1 : w2.cell? ⟨w.heap.size, 1, none⟩ = some (.int .i64 b) := by rw [hc _ _ (by simp; omega)]; go_simp
  have s2 : w2.cell? ⟨w.heap.size + 1, 0, none⟩ = some (.int .i64 c) := by rw [hc _ _ (by simp)]; go_simp
  have s3 : w2.cell? ⟨w.heap.size + 1, 1, none⟩ = some (.int .i64 d) := by rw [hc _ _ (by simp)]; go_simp
  have s4 : w2.cell? ⟨w.heap.size + 1 + 1, 0, none⟩ = some (.int .i64 0) := by rw [hc _ _ (by simp)]; go_simp
  have s5 : w2.cell? ⟨w.heap.size + 1 + 1, 1, none⟩ = some (.int .i64 0) := by rw [hc _ _ (by simp)]; go_simp
  have hz : w.heap.size + 1 + 1 < w2.heap.size := by have := hb.size; simp at this; omega
  go_wp2_with fail
  go_region_held3 (fun w' => w'.cell? ⟨w.heap.size, 0, none⟩ = some (.int .i64 a) ∧ w'.cell? ⟨w.heap.size, 1, none⟩ = some (.int .i64 b) ∧ w'.cell? ⟨w.heap.size + 1, 0, none⟩ = some (.int .i64 c) ∧ w'.cell? ⟨w.heap.size + 1, 1, none⟩ = some (.int .i64 d)) (go_keep)
    (first
      | (go_at_call 21; refine (C1.out _).mono ?_; rintro e wm ⟨rfl, rfl⟩)
      | (go_at_call 22; refine (C2.out _).mono ?_; rintro e wm ⟨rfl, rfl⟩))
  all_goals
    go_wp2_with fail
    refine bodyPost_ret (v := .tuple #[.agg #[.int .i64 lo, .int .i64 hi], .bool true]) (by simp [results, Try.results14, go_sem, s4, s5, hz]) rfl ⟨rfl, ?_⟩
    exact ((((bchain (below3 _ _ _ _) hb (by simp; omega)).setCell (by simp; omega) _).setCell (by simp; omega) _).alloc (by simp; omega) _).drew

set_option maxHeartbeats 1000000 in
theorem specMeet_no3 (a b c d lo hi : Int) (w : World) (h1 : rOk a b) (h2 : rOk c d) (h3 : hi ≤ lo) (hlo : max a c = lo) (hhi : min b d = hi) :
    Calls Try.prog 14 #[.agg #[.int .i64 a, .int .i64 b], .agg #[.int .i64 c, .int .i64 d]] w fun e w' => e = .returned (.tuple #[.agg #[.int .i64 0, .int .i64 0], .bool false]) ∧ Below w.heap.size w w' := by
  have H1 := Lib.hid h1
  have H2 := Lib.hid h2
  clear h1 h2
  have C1 : Hid (∀ W, Calls Try.prog 21 #[.int .i64 a, .int .i64 c] W fun e w' => e = .returned (.int .i64 lo) ∧ W = w') := by rw [← hlo]; exact fun W => l00Max_any _ _ _
  have C2 : Hid (∀ W, Calls Try.prog 22 #[.int .i64 b, .int .i64 d] W fun e w' => e = .returned (.int .i64 hi) ∧ W = w') := by rw [← hhi]; exact fun W => l00Min_any _ _ _
  clear hlo hhi
  go_enter Try.func14, Try.ntmps14
  go_wp2_with fail
  go_at_call 11
  refine (specRangeOk_yes _ _ _ H1.out).mono ?_
  rintro e w1 ⟨rfl, k1⟩
  have hb := k1
  clear k1
  obtain ⟨hc, hf⟩ := bcell hb
  go_wp2_with fail
  go_at_call 11
  refine (specRangeOk_yes _ _ _ H2.out).mono ?_
  rintro e w2 ⟨rfl, k2⟩
  have hb := hb.trans (k2.mono hb.size)
  clear k2 hc hf
  obtain ⟨hc, hf⟩ := bcell hb
  have s0 : w2.cell? ⟨w.heap.size, 0, none⟩ = some (.int .i64 a) := by rw [hc _ _ (by simp; omega)]; go_simp
  have s1 : w2.cell? ⟨w.heap.size, 1, none⟩ = some (.int .i64 b) := by rw [hc _ _ (by simp; omega)]; go_simp
  have s2 : w2.cell? ⟨w.heap.size + 1, 0, none⟩ = some (.int .i64 c) := by rw [hc _ _ (by simp)]; go_simp
  have s3 : w2.cell? ⟨w.heap.size + 1, 1, none⟩ = some (.int .i64 d) := by rw [hc _ _ (by simp)]; go_simp
  have s4 : w2.cell? ⟨w.heap.size + 1 + 1, 0, none⟩ = some (.int .i64 0) := by rw [hc _ _ (by simp)]; go_simp
  have s5 : w2.cell? ⟨w.heap.size + 1 + 1, 1, none⟩ = some (.int .i64 0) := by rw [hc _ _ (by simp)]; go_simp
  have hz : w.heap.size + 1 + 1 < w2.heap.size := by have := hb.size; simp at this; omega
  go_wp2_with fail
  go_region_held3 (fun w' => w'.cell? ⟨w.heap.size, 0, none⟩ = some (.int .i64 a) ∧ w'.cell? ⟨w.heap.size, 1, none⟩ = some (.int .i64 b) ∧ w'.cell? ⟨w.heap.size + 1, 0, none⟩ = some (.int .i64 c) ∧ w'.cell? ⟨w.heap.size + 1, 1, none⟩ = some (.int .i64 d)) (go_keep)
    (first
      | (go_at_call 21; refine (C1.out _).mono ?_; rintro e wm ⟨rfl, rfl⟩)
      | (go_at_call 22; refine (C2.out _).mono ?_; rintro e wm ⟨rfl, rfl⟩))
  all_goals
    go_wp2_with fail
    refine bodyPost_ret (v := .tuple #[.agg #[.int .i64 0, .int .i64 0], .bool false]) (by simp [results, Try.results14, go_sem, s4, s5, hz]) rfl ⟨rfl, ?_⟩
    exact ((((bchain (below3 _ _ _ _) hb (by simp; omega)).setCell (by simp; omega) _).setCell (by simp; omega) _).alloc (by simp; omega) _).drew
end Go.Proofs.Ytbockifbboogiab
