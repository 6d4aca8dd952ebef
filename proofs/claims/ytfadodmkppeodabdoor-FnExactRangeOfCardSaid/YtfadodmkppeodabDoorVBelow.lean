/-
  Walks of number, line, below, and of the model's l02Below.
-/
import Derived.Test.YtfadodmkppeodabDoorL02T
namespace Go.Proofs.YtfadodmkppeodabDoor
open Go.ChangeShapes Go.WideShapes Go.ChangeAt Go.RowKit

theorem number_any (a b c : Int) (ha0 : 0 ≤ a) (ha1 : a < 1000) (hb0 : 0 ≤ b) (hb1 : b < 1000) (hc0 : 0 ≤ c) (hc1 : c < 1000) (w : World) :
    Calls Tryd.prog 34 #[.agg #[.int .i64 a, .int .i64 b, .int .i64 c]] w fun e w' => e = .returned (.int .i64 (a * 1000000 + b * 1000 + c)) ∧ Below w.heap.size w w' := by
  go_enter Tryd.func34, Tryd.ntmps34
  go_wp2
  go_ret
  exact ⟨rfl, below1 _ _⟩

theorem line_more (a b c : Int) (h : 1 ≤ a) (w : World) :
    Calls Tryd.prog 36 #[.agg #[.int .i64 a, .int .i64 b, .int .i64 c]] w fun e w' => e = .returned (.agg #[.int .i64 a, .int .i64 0, .int .i64 0]) ∧ Below w.heap.size w w' := by
  have hne : (a == 0) = false := by rw [beq_eq_false_iff_ne]; omega
  go_enter Tryd.func36, Tryd.ntmps36
  go_wp2
  refine bodyPost_ret (v := .agg #[.int .i64 a, .int .i64 0, .int .i64 0]) (by simp [results, Tryd.results36, go_sem]) rfl ⟨rfl, ?_⟩
  first | exact below1 _ _ | exact below2 _ _ _

theorem below_eq (a b c : Int) (ha0 : 0 ≤ a) (ha1 : a < 1000) (hb0 : 0 ≤ b) (hb1 : b < 1000) (hc0 : 0 ≤ c) (hc1 : c < 1000) (w : World) :
    Calls Tryd.prog 39 #[.agg #[.int .i64 a, .int .i64 b, .int .i64 c], .int .i32 61] w fun e w' => e = .returned (.int .i64 (a * 1000000 + b * 1000 + c + 1)) ∧ Below w.heap.size w w' := by
  go_enter Tryd.func39, Tryd.ntmps39
  go_wp2_with (first
    | (go_at_call 34; refine (number_any _ _ _ (by omega) (by omega) (by omega) (by omega) (by omega) (by omega) _).mono ?_; rintro e wx ⟨rfl, hbx⟩; obtain ⟨hcx, hfx⟩ := bcell hbx; have hzx : w.heap.size < wx.heap.size := (by have h1 := hbx.size; (try simp at h1); omega); have hall : Below w.heap.size w wx := (by first | exact bchain hall hbx hall.size | exact bchain (below1 _ _) hbx (by simp) | exact bchain (below2 _ _ _) hbx (by simp; omega)); clear hbx)
    | (go_at_call 36; refine (line_more _ _ _ (by omega) _).mono ?_; rintro e wx ⟨rfl, hbx⟩; obtain ⟨hcx, hfx⟩ := bcell hbx; have hzx : w.heap.size < wx.heap.size := (by have h1 := hbx.size; (try simp at h1); omega); have hall : Below w.heap.size w wx := (by first | exact bchain hall hbx hall.size | exact bchain (below1 _ _) hbx (by simp) | exact bchain (below2 _ _ _) hbx (by simp; omega)); clear hbx))
  go_ret
  exact ⟨rfl, hall⟩

theorem below_tilde (a b c : Int) (ha0 : 0 ≤ a) (ha1 : a < 1000) (hb0 : 0 ≤ b) (hb1 : b < 1000) (_hc0 : 0 ≤ c) (_hc1 : c < 1000) (w : World) :
    Calls Tryd.prog 39 #[.agg #[.int .i64 a, .int .i64 b, .int .i64 c], .int .i32 126] w fun e w' => e = .returned (.int .i64 (a * 1000000 + b * 1000 + 1000)) ∧ Below w.heap.size w w' := by
  go_enter Tryd.func39, Tryd.ntmps39
  go_wp2_with (first
    | (go_at_call 34; refine (number_any _ _ _ (by omega) (by omega) (by omega) (by omega) (by omega) (by omega) _).mono ?_; rintro e wx ⟨rfl, hbx⟩; obtain ⟨hcx, hfx⟩ := bcell hbx; have hzx : w.heap.size < wx.heap.size := (by have h1 := hbx.size; (try simp at h1); omega); have hall : Below w.heap.size w wx := (by first | exact bchain hall hbx hall.size | exact bchain (below1 _ _) hbx (by simp) | exact bchain (below2 _ _ _) hbx (by simp; omega)); clear hbx)
    | (go_at_call 36; refine (line_more _ _ _ (by omega) _).mono ?_; rintro e wx ⟨rfl, hbx⟩; obtain ⟨hcx, hfx⟩ := bcell hbx; have hzx : w.heap.size < wx.heap.size := (by have h1 := hbx.size; (try simp at h1); omega); have hall : Below w.heap.size w wx := (by first | exact bchain hall hbx hall.size | exact bchain (below1 _ _) hbx (by simp) | exact bchain (below2 _ _ _) hbx (by simp; omega)); clear hbx))
  go_ret
  exact ⟨rfl, hall⟩

theorem below_caret0 (b c : Int) (hb0 : 0 ≤ b) (hb1 : b < 1000) (_hc0 : 0 ≤ c) (_hc1 : c < 1000) (w : World) :
    Calls Tryd.prog 39 #[.agg #[.int .i64 0, .int .i64 b, .int .i64 c], .int .i32 94] w fun e w' => e = .returned (.int .i64 (b * 1000 + 1000)) ∧ Below w.heap.size w w' := by
  go_enter Tryd.func39, Tryd.ntmps39
  go_wp2_with (first
    | (go_at_call 34; refine (number_any _ _ _ (by omega) (by omega) (by omega) (by omega) (by omega) (by omega) _).mono ?_; rintro e wx ⟨rfl, hbx⟩; obtain ⟨hcx, hfx⟩ := bcell hbx; have hzx : w.heap.size < wx.heap.size := (by have h1 := hbx.size; (try simp at h1); omega); have hall : Below w.heap.size w wx := (by first | exact bchain hall hbx hall.size | exact bchain (below1 _ _) hbx (by simp) | exact bchain (below2 _ _ _) hbx (by simp; omega)); clear hbx)
    | (go_at_call 36; refine (line_more _ _ _ (by omega) _).mono ?_; rintro e wx ⟨rfl, hbx⟩; obtain ⟨hcx, hfx⟩ := bcell hbx; have hzx : w.heap.size < wx.heap.size := (by have h1 := hbx.size; (try simp at h1); omega); have hall : Below w.heap.size w wx := (by first | exact bchain hall hbx hall.size | exact bchain (below1 _ _) hbx (by simp) | exact bchain (below2 _ _ _) hbx (by simp; omega)); clear hbx))
  go_ret
  exact ⟨rfl, hall⟩

theorem below_caret1 (a b c : Int) (ha0 : 1 ≤ a) (ha1 : a < 1000) (hb0 : 0 ≤ b) (hb1 : b < 1000) (_hc0 : 0 ≤ c) (_hc1 : c < 1000) (w : World) :
    Calls Tryd.prog 39 #[.agg #[.int .i64 a, .int .i64 b, .int .i64 c], .int .i32 94] w fun e w' => e = .returned (.int .i64 (a * 1000000 + 1000000)) ∧ Below w.heap.size w w' := by
  have hne : (a == 0) = false := by rw [beq_eq_false_iff_ne]; omega
  go_enter Tryd.func39, Tryd.ntmps39
  go_wp2_with (first
    | (go_at_call 34; refine (number_any _ _ _ (by omega) (by omega) (by omega) (by omega) (by omega) (by omega) _).mono ?_; rintro e wx ⟨rfl, hbx⟩; obtain ⟨hcx, hfx⟩ := bcell hbx; have hzx : w.heap.size < wx.heap.size := (by have h1 := hbx.size; (try simp at h1); omega); have hall : Below w.heap.size w wx := (by first | exact bchain hall hbx hall.size | exact bchain (below1 _ _) hbx (by simp) | exact bchain (below2 _ _ _) hbx (by simp; omega)); clear hbx)
    | (go_at_call 36; refine (line_more _ _ _ (by omega) _).mono ?_; rintro e wx ⟨rfl, hbx⟩; obtain ⟨hcx, hfx⟩ := bcell hbx; have hzx : w.heap.size < wx.heap.size := (by have h1 := hbx.size; (try simp at h1); omega); have hall : Below w.heap.size w wx := (by first | exact bchain hall hbx hall.size | exact bchain (below1 _ _) hbx (by simp) | exact bchain (below2 _ _ _) hbx (by simp; omega)); clear hbx))
  go_ret
  exact ⟨rfl, hall⟩

theorem below_gt (a b c : Int) (ha0 : 0 ≤ a) (ha1 : a < 1000) (hb0 : 0 ≤ b) (hb1 : b < 1000) (_hc0 : 0 ≤ c) (_hc1 : c < 1000) (w : World) :
    Calls Tryd.prog 39 #[.agg #[.int .i64 a, .int .i64 b, .int .i64 c], .int .i32 62] w fun e w' => e = .returned (.int .i64 (1000000000)) ∧ Below w.heap.size w w' := by
  go_enter Tryd.func39, Tryd.ntmps39
  go_wp2_with (first
    | (go_at_call 34; refine (number_any _ _ _ (by omega) (by omega) (by omega) (by omega) (by omega) (by omega) _).mono ?_; rintro e wx ⟨rfl, hbx⟩; obtain ⟨hcx, hfx⟩ := bcell hbx; have hzx : w.heap.size < wx.heap.size := (by have h1 := hbx.size; (try simp at h1); omega); have hall : Below w.heap.size w wx := (by first | exact bchain hall hbx hall.size | exact bchain (below1 _ _) hbx (by simp) | exact bchain (below2 _ _ _) hbx (by simp; omega)); clear hbx)
    | (go_at_call 36; refine (line_more _ _ _ (by omega) _).mono ?_; rintro e wx ⟨rfl, hbx⟩; obtain ⟨hcx, hfx⟩ := bcell hbx; have hzx : w.heap.size < wx.heap.size := (by have h1 := hbx.size; (try simp at h1); omega); have hall : Below w.heap.size w wx := (by first | exact bchain hall hbx hall.size | exact bchain (below1 _ _) hbx (by simp) | exact bchain (below2 _ _ _) hbx (by simp; omega)); clear hbx))
  go_ret
  exact ⟨rfl, hall⟩

theorem sbelow_eq (n : Int) (h0 : 0 ≤ n) (h1 : n ≤ 999999999) (w : World) :
    Calls Tryd.prog 37 #[.int .u8 61, .int .i64 n] w fun e w' => e = .returned (.int .i64 (n + 1)) ∧ w = w' := by
  go_enter Tryd.func37, Tryd.ntmps37
  go_wp2
  go_ret
  exact ⟨rfl, rfl⟩

theorem sbelow_tilde (n : Int) (h0 : 0 ≤ n) (h1 : n ≤ 999999999) (w : World) :
    Calls Tryd.prog 37 #[.int .u8 126, .int .i64 n] w fun e w' => e = .returned (.int .i64 (n / 1000 * 1000 + 1000)) ∧ w = w' := by
  go_enter Tryd.func37, Tryd.ntmps37
  go_wp2
  go_ret
  exact ⟨rfl, rfl⟩

theorem sbelow_caret0 (n : Int) (h0 : 0 ≤ n) (h1 : n ≤ 999999999) (h2 : n < 1000000) (w : World) :
    Calls Tryd.prog 37 #[.int .u8 94, .int .i64 n] w fun e w' => e = .returned (.int .i64 (n / 1000 * 1000 + 1000)) ∧ w = w' := by
  go_enter Tryd.func37, Tryd.ntmps37
  go_wp2
  go_ret
  exact ⟨rfl, rfl⟩

theorem sbelow_caret1 (n : Int) (h0 : 0 ≤ n) (h1 : n ≤ 999999999) (h2 : ¬ n < 1000000) (w : World) :
    Calls Tryd.prog 37 #[.int .u8 94, .int .i64 n] w fun e w' => e = .returned (.int .i64 (n / 1000000 * 1000000 + 1000000)) ∧ w = w' := by
  go_enter Tryd.func37, Tryd.ntmps37
  go_wp2
  go_ret
  exact ⟨rfl, rfl⟩

theorem sbelow_gt (n : Int) (_h0 : 0 ≤ n) (_h1 : n ≤ 999999999) (w : World) :
    Calls Tryd.prog 37 #[.int .u8 62, .int .i64 n] w fun e w' => e = .returned (.int .i64 (1000000000)) ∧ w = w' := by
  go_enter Tryd.func37, Tryd.ntmps37
  go_wp2
  go_ret
  exact ⟨rfl, rfl⟩

/-- Below of a sign and a number. -/
def belOf (k n : Int) : Int :=
  if k = 61 then n + 1 else if k = 126 then n / 1000 * 1000 + 1000 else if k = 94 then (if n < 1000000 then n / 1000 * 1000 + 1000 else n / 1000000 * 1000000 + 1000000) else 1000000000

/-- One of the four signs. -/
def Sign (k : Int) : Prop := k = 61 ∨ k = 126 ∨ k = 94 ∨ k = 62

theorem sbelow_any (k n : Int) (h0 : 0 ≤ n) (h1 : n ≤ 999999999) (hk : Sign k) (w : World) :
    Calls Tryd.prog 37 #[.int .u8 k, .int .i64 n] w fun e w' => e = .returned (.int .i64 (belOf k n)) ∧ w = w' := by
  rcases hk with rfl | rfl | rfl | rfl
  · exact sbelow_eq n h0 h1 w
  · exact sbelow_tilde n h0 h1 w
  · by_cases h2 : n < 1000000
    · rw [show belOf 94 n = n / 1000 * 1000 + 1000 by simp [belOf, h2]]
      exact sbelow_caret0 n h0 h1 h2 w
    · rw [show belOf 94 n = n / 1000000 * 1000000 + 1000000 by simp [belOf, h2]]
      exact sbelow_caret1 n h0 h1 h2 w
  · exact sbelow_gt n h0 h1 w

theorem below_any (k n : Int) (h0 : 0 ≤ n) (h1 : n ≤ 999999999) (hk : Sign k) (w : World) :
    Calls Tryd.prog 39 #[.agg #[.int .i64 (n / 1000000), .int .i64 (n % 1000000 / 1000), .int .i64 (n % 1000)], .int .i32 k] w fun e w' => e = .returned (.int .i64 (belOf k n)) ∧ Below w.heap.size w w' := by
  rcases hk with rfl | rfl | rfl | rfl
  · rw [show belOf 61 n = n / 1000000 * 1000000 + n % 1000000 / 1000 * 1000 + n % 1000 + 1 by simp [belOf]; omega]
    exact below_eq _ _ _ (by omega) (by omega) (by omega) (by omega) (by omega) (by omega) w
  · rw [show belOf 126 n = n / 1000000 * 1000000 + n % 1000000 / 1000 * 1000 + 1000 by simp [belOf]; omega]
    exact below_tilde _ _ _ (by omega) (by omega) (by omega) (by omega) (by omega) (by omega) w
  · by_cases h2 : n < 1000000
    · rw [show belOf 94 n = n % 1000000 / 1000 * 1000 + 1000 by simp [belOf, h2]; omega, show n / 1000000 = 0 by omega]
      exact below_caret0 _ _ (by omega) (by omega) (by omega) (by omega) w
    · rw [show belOf 94 n = n / 1000000 * 1000000 + 1000000 by simp [belOf, h2]]
      exact below_caret1 _ _ _ (by omega) (by omega) (by omega) (by omega) (by omega) (by omega) w
  · exact below_gt _ _ _ (by omega) (by omega) (by omega) (by omega) (by omega) (by omega) w
end Go.Proofs.YtfadodmkppeodabDoor
