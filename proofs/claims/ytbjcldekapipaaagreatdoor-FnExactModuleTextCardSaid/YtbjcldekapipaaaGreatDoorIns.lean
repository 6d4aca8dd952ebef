/-
  The walks of OpWord and InsOk, on both sides.
-/
import Derived.Test.YtbjcldekapipaaaGreatDoorOpTab
import Derived.Test.YtbjcldekapipaaaGreatDoorIn
import Derived.Test.YtbjcldekapipaaaGreatDoorStrsP
import Derived.Deep.RegionHeld3
namespace Go.Proofs.YtbjcldekapipaaaGreatDoor
open Go.ChangeShapes Go.WideShapes Go.ChangeAt Go.RowKit

/-- The operands of an opcode: least, greatest, and is there one? -/
def insR (op : Int) : Int × Int × Bool :=
  if op = 1 then (-9223372036854775808, 9223372036854775807, true) else
  if op = 2 ∨ op = 3 ∨ op = 4 then (0, 15, true) else
  if op = 24 ∨ op = 25 ∨ op = 26 then (0, 1, true) else
  if op = 29 ∨ op = 30 then (0, 6, true) else
  if op = 32 then (0, 7, true) else
  if op = 33 then (0, 11, true) else
  if op = 34 ∨ op = 35 ∨ op = 36 ∨ op = 37 ∨ op = 38 ∨ op = 39 then (0, 4096, true) else (0, 0, false)

set_option maxHeartbeats 2000000 in
theorem l15Has_any (op : Int) (w : World) :
    Calls Tryz.prog 112 #[.int .i64 op] w fun e w' => e = .returned (.tuple #[.int .i64 (insR op).1, .int .i64 (insR op).2.1, .bool (insR op).2.2]) ∧ w = w' := by
  by_cases h : op = 1 ∨ op = 2 ∨ op = 3 ∨ op = 4 ∨ op = 24 ∨ op = 25 ∨ op = 26 ∨ op = 29 ∨ op = 30 ∨ op = 32 ∨ op = 33 ∨ op = 34 ∨ op = 35 ∨ op = 36 ∨ op = 37 ∨ op = 38 ∨ op = 39
  · rcases h with rfl | rfl | rfl | rfl | rfl | rfl | rfl | rfl | rfl | rfl | rfl | rfl | rfl | rfl | rfl | rfl | rfl
    · rw [show insR 1 = (-9223372036854775808, 9223372036854775807, true) from rfl]
      go_enter Tryz.func112, Tryz.ntmps112
      go_wp2
      exact bodyPost_ret (v := .tuple #[.int .i64 _, .int .i64 _, .bool _]) (by simp [results, Tryz.results112, go_sem]) rfl ⟨rfl, rfl⟩
    · rw [show insR 2 = (0, 15, true) from rfl]
      go_enter Tryz.func112, Tryz.ntmps112
      go_wp2
      exact bodyPost_ret (v := .tuple #[.int .i64 _, .int .i64 _, .bool _]) (by simp [results, Tryz.results112, go_sem]) rfl ⟨rfl, rfl⟩
    · rw [show insR 3 = (0, 15, true) from rfl]
      go_enter Tryz.func112, Tryz.ntmps112
      go_wp2
      exact bodyPost_ret (v := .tuple #[.int .i64 _, .int .i64 _, .bool _]) (by simp [results, Tryz.results112, go_sem]) rfl ⟨rfl, rfl⟩
    · rw [show insR 4 = (0, 15, true) from rfl]
      go_enter Tryz.func112, Tryz.ntmps112
      go_wp2
      exact bodyPost_ret (v := .tuple #[.int .i64 _, .int .i64 _, .bool _]) (by simp [results, Tryz.results112, go_sem]) rfl ⟨rfl, rfl⟩
    · rw [show insR 24 = (0, 1, true) from rfl]
      go_enter Tryz.func112, Tryz.ntmps112
      go_wp2
      exact bodyPost_ret (v := .tuple #[.int .i64 _, .int .i64 _, .bool _]) (by simp [results, Tryz.results112, go_sem]) rfl ⟨rfl, rfl⟩
    · rw [show insR 25 = (0, 1, true) from rfl]
      go_enter Tryz.func112, Tryz.ntmps112
      go_wp2
      exact bodyPost_ret (v := .tuple #[.int .i64 _, .int .i64 _, .bool _]) (by simp [results, Tryz.results112, go_sem]) rfl ⟨rfl, rfl⟩
    · rw [show insR 26 = (0, 1, true) from rfl]
      go_enter Tryz.func112, Tryz.ntmps112
      go_wp2
      exact bodyPost_ret (v := .tuple #[.int .i64 _, .int .i64 _, .bool _]) (by simp [results, Tryz.results112, go_sem]) rfl ⟨rfl, rfl⟩
    · rw [show insR 29 = (0, 6, true) from rfl]
      go_enter Tryz.func112, Tryz.ntmps112
      go_wp2
      exact bodyPost_ret (v := .tuple #[.int .i64 _, .int .i64 _, .bool _]) (by simp [results, Tryz.results112, go_sem]) rfl ⟨rfl, rfl⟩
    · rw [show insR 30 = (0, 6, true) from rfl]
      go_enter Tryz.func112, Tryz.ntmps112
      go_wp2
      exact bodyPost_ret (v := .tuple #[.int .i64 _, .int .i64 _, .bool _]) (by simp [results, Tryz.results112, go_sem]) rfl ⟨rfl, rfl⟩
    · rw [show insR 32 = (0, 7, true) from rfl]
      go_enter Tryz.func112, Tryz.ntmps112
      go_wp2
      exact bodyPost_ret (v := .tuple #[.int .i64 _, .int .i64 _, .bool _]) (by simp [results, Tryz.results112, go_sem]) rfl ⟨rfl, rfl⟩
    · rw [show insR 33 = (0, 11, true) from rfl]
      go_enter Tryz.func112, Tryz.ntmps112
      go_wp2
      exact bodyPost_ret (v := .tuple #[.int .i64 _, .int .i64 _, .bool _]) (by simp [results, Tryz.results112, go_sem]) rfl ⟨rfl, rfl⟩
    · rw [show insR 34 = (0, 4096, true) from rfl]
      go_enter Tryz.func112, Tryz.ntmps112
      go_wp2
      exact bodyPost_ret (v := .tuple #[.int .i64 _, .int .i64 _, .bool _]) (by simp [results, Tryz.results112, go_sem]) rfl ⟨rfl, rfl⟩
    · rw [show insR 35 = (0, 4096, true) from rfl]
      go_enter Tryz.func112, Tryz.ntmps112
      go_wp2
      exact bodyPost_ret (v := .tuple #[.int .i64 _, .int .i64 _, .bool _]) (by simp [results, Tryz.results112, go_sem]) rfl ⟨rfl, rfl⟩
    · rw [show insR 36 = (0, 4096, true) from rfl]
      go_enter Tryz.func112, Tryz.ntmps112
      go_wp2
      exact bodyPost_ret (v := .tuple #[.int .i64 _, .int .i64 _, .bool _]) (by simp [results, Tryz.results112, go_sem]) rfl ⟨rfl, rfl⟩
    · rw [show insR 37 = (0, 4096, true) from rfl]
      go_enter Tryz.func112, Tryz.ntmps112
      go_wp2
      exact bodyPost_ret (v := .tuple #[.int .i64 _, .int .i64 _, .bool _]) (by simp [results, Tryz.results112, go_sem]) rfl ⟨rfl, rfl⟩
    · rw [show insR 38 = (0, 4096, true) from rfl]
      go_enter Tryz.func112, Tryz.ntmps112
      go_wp2
      exact bodyPost_ret (v := .tuple #[.int .i64 _, .int .i64 _, .bool _]) (by simp [results, Tryz.results112, go_sem]) rfl ⟨rfl, rfl⟩
    · rw [show insR 39 = (0, 4096, true) from rfl]
      go_enter Tryz.func112, Tryz.ntmps112
      go_wp2
      exact bodyPost_ret (v := .tuple #[.int .i64 _, .int .i64 _, .bool _]) (by simp [results, Tryz.results112, go_sem]) rfl ⟨rfl, rfl⟩
  · have hR : insR op = (0, 0, false) := by
      unfold insR
      rw [if_neg (by omega), if_neg (by omega), if_neg (by omega), if_neg (by omega), if_neg (by omega), if_neg (by omega), if_neg (by omega)]
    rw [hR]
    have q1 : (op == 1) = false := beq_eq_false_iff_ne.mpr (by omega)
    have q2 : (op == 2) = false := beq_eq_false_iff_ne.mpr (by omega)
    have q3 : (op == 3) = false := beq_eq_false_iff_ne.mpr (by omega)
    have q4 : (op == 4) = false := beq_eq_false_iff_ne.mpr (by omega)
    have q24 : (op == 24) = false := beq_eq_false_iff_ne.mpr (by omega)
    have q25 : (op == 25) = false := beq_eq_false_iff_ne.mpr (by omega)
    have q26 : (op == 26) = false := beq_eq_false_iff_ne.mpr (by omega)
    have q29 : (op == 29) = false := beq_eq_false_iff_ne.mpr (by omega)
    have q30 : (op == 30) = false := beq_eq_false_iff_ne.mpr (by omega)
    have q32 : (op == 32) = false := beq_eq_false_iff_ne.mpr (by omega)
    have q33 : (op == 33) = false := beq_eq_false_iff_ne.mpr (by omega)
    have q34 : (op == 34) = false := beq_eq_false_iff_ne.mpr (by omega)
    have q35 : (op == 35) = false := beq_eq_false_iff_ne.mpr (by omega)
    have q36 : (op == 36) = false := beq_eq_false_iff_ne.mpr (by omega)
    have q37 : (op == 37) = false := beq_eq_false_iff_ne.mpr (by omega)
    have q38 : (op == 38) = false := beq_eq_false_iff_ne.mpr (by omega)
    have q39 : (op == 39) = false := beq_eq_false_iff_ne.mpr (by omega)
    clear h hR
    go_enter Tryz.func112, Tryz.ntmps112
    go_wp2
    exact bodyPost_ret (v := .tuple #[.int .i64 _, .int .i64 _, .bool _]) (by simp [results, Tryz.results112, go_sem]) rfl ⟨rfl, rfl⟩

set_option maxHeartbeats 2000000 in
theorem operandsOf_any (op : Int) (w : World) :
    Calls Tryz.prog 117 #[.int .i64 op] w fun e w' => e = .returned (.agg #[.int .i64 (insR op).1, .int .i64 (insR op).2.1]) ∧ Below w.heap.size w w' := by
  by_cases h : op = 1 ∨ op = 2 ∨ op = 3 ∨ op = 4 ∨ op = 24 ∨ op = 25 ∨ op = 26 ∨ op = 29 ∨ op = 30 ∨ op = 32 ∨ op = 33 ∨ op = 34 ∨ op = 35 ∨ op = 36 ∨ op = 37 ∨ op = 38 ∨ op = 39
  · rcases h with rfl | rfl | rfl | rfl | rfl | rfl | rfl | rfl | rfl | rfl | rfl | rfl | rfl | rfl | rfl | rfl | rfl
    · rw [show insR 1 = (-9223372036854775808, 9223372036854775807, true) from rfl]
      go_enter Tryz.func117, Tryz.ntmps117
      go_wp2
      exact bodyPost_ret (v := .agg #[.int .i64 _, .int .i64 _]) (by simp [results, Tryz.results117, go_sem]) rfl ⟨rfl, by first | exact below1 _ _ | exact Below.refl _ _⟩
    · rw [show insR 2 = (0, 15, true) from rfl]
      go_enter Tryz.func117, Tryz.ntmps117
      go_wp2
      exact bodyPost_ret (v := .agg #[.int .i64 _, .int .i64 _]) (by simp [results, Tryz.results117, go_sem]) rfl ⟨rfl, by first | exact below1 _ _ | exact Below.refl _ _⟩
    · rw [show insR 3 = (0, 15, true) from rfl]
      go_enter Tryz.func117, Tryz.ntmps117
      go_wp2
      exact bodyPost_ret (v := .agg #[.int .i64 _, .int .i64 _]) (by simp [results, Tryz.results117, go_sem]) rfl ⟨rfl, by first | exact below1 _ _ | exact Below.refl _ _⟩
    · rw [show insR 4 = (0, 15, true) from rfl]
      go_enter Tryz.func117, Tryz.ntmps117
      go_wp2
      exact bodyPost_ret (v := .agg #[.int .i64 _, .int .i64 _]) (by simp [results, Tryz.results117, go_sem]) rfl ⟨rfl, by first | exact below1 _ _ | exact Below.refl _ _⟩
    · rw [show insR 24 = (0, 1, true) from rfl]
      go_enter Tryz.func117, Tryz.ntmps117
      go_wp2
      exact bodyPost_ret (v := .agg #[.int .i64 _, .int .i64 _]) (by simp [results, Tryz.results117, go_sem]) rfl ⟨rfl, by first | exact below1 _ _ | exact Below.refl _ _⟩
    · rw [show insR 25 = (0, 1, true) from rfl]
      go_enter Tryz.func117, Tryz.ntmps117
      go_wp2
      exact bodyPost_ret (v := .agg #[.int .i64 _, .int .i64 _]) (by simp [results, Tryz.results117, go_sem]) rfl ⟨rfl, by first | exact below1 _ _ | exact Below.refl _ _⟩
    · rw [show insR 26 = (0, 1, true) from rfl]
      go_enter Tryz.func117, Tryz.ntmps117
      go_wp2
      exact bodyPost_ret (v := .agg #[.int .i64 _, .int .i64 _]) (by simp [results, Tryz.results117, go_sem]) rfl ⟨rfl, by first | exact below1 _ _ | exact Below.refl _ _⟩
    · rw [show insR 29 = (0, 6, true) from rfl]
      go_enter Tryz.func117, Tryz.ntmps117
      go_wp2
      exact bodyPost_ret (v := .agg #[.int .i64 _, .int .i64 _]) (by simp [results, Tryz.results117, go_sem]) rfl ⟨rfl, by first | exact below1 _ _ | exact Below.refl _ _⟩
    · rw [show insR 30 = (0, 6, true) from rfl]
      go_enter Tryz.func117, Tryz.ntmps117
      go_wp2
      exact bodyPost_ret (v := .agg #[.int .i64 _, .int .i64 _]) (by simp [results, Tryz.results117, go_sem]) rfl ⟨rfl, by first | exact below1 _ _ | exact Below.refl _ _⟩
    · rw [show insR 32 = (0, 7, true) from rfl]
      go_enter Tryz.func117, Tryz.ntmps117
      go_wp2
      exact bodyPost_ret (v := .agg #[.int .i64 _, .int .i64 _]) (by simp [results, Tryz.results117, go_sem]) rfl ⟨rfl, by first | exact below1 _ _ | exact Below.refl _ _⟩
    · rw [show insR 33 = (0, 11, true) from rfl]
      go_enter Tryz.func117, Tryz.ntmps117
      go_wp2
      exact bodyPost_ret (v := .agg #[.int .i64 _, .int .i64 _]) (by simp [results, Tryz.results117, go_sem]) rfl ⟨rfl, by first | exact below1 _ _ | exact Below.refl _ _⟩
    · rw [show insR 34 = (0, 4096, true) from rfl]
      go_enter Tryz.func117, Tryz.ntmps117
      go_wp2
      exact bodyPost_ret (v := .agg #[.int .i64 _, .int .i64 _]) (by simp [results, Tryz.results117, go_sem]) rfl ⟨rfl, by first | exact below1 _ _ | exact Below.refl _ _⟩
    · rw [show insR 35 = (0, 4096, true) from rfl]
      go_enter Tryz.func117, Tryz.ntmps117
      go_wp2
      exact bodyPost_ret (v := .agg #[.int .i64 _, .int .i64 _]) (by simp [results, Tryz.results117, go_sem]) rfl ⟨rfl, by first | exact below1 _ _ | exact Below.refl _ _⟩
    · rw [show insR 36 = (0, 4096, true) from rfl]
      go_enter Tryz.func117, Tryz.ntmps117
      go_wp2
      exact bodyPost_ret (v := .agg #[.int .i64 _, .int .i64 _]) (by simp [results, Tryz.results117, go_sem]) rfl ⟨rfl, by first | exact below1 _ _ | exact Below.refl _ _⟩
    · rw [show insR 37 = (0, 4096, true) from rfl]
      go_enter Tryz.func117, Tryz.ntmps117
      go_wp2
      exact bodyPost_ret (v := .agg #[.int .i64 _, .int .i64 _]) (by simp [results, Tryz.results117, go_sem]) rfl ⟨rfl, by first | exact below1 _ _ | exact Below.refl _ _⟩
    · rw [show insR 38 = (0, 4096, true) from rfl]
      go_enter Tryz.func117, Tryz.ntmps117
      go_wp2
      exact bodyPost_ret (v := .agg #[.int .i64 _, .int .i64 _]) (by simp [results, Tryz.results117, go_sem]) rfl ⟨rfl, by first | exact below1 _ _ | exact Below.refl _ _⟩
    · rw [show insR 39 = (0, 4096, true) from rfl]
      go_enter Tryz.func117, Tryz.ntmps117
      go_wp2
      exact bodyPost_ret (v := .agg #[.int .i64 _, .int .i64 _]) (by simp [results, Tryz.results117, go_sem]) rfl ⟨rfl, by first | exact below1 _ _ | exact Below.refl _ _⟩
  · have hR : insR op = (0, 0, false) := by
      unfold insR
      rw [if_neg (by omega), if_neg (by omega), if_neg (by omega), if_neg (by omega), if_neg (by omega), if_neg (by omega), if_neg (by omega)]
    rw [hR]
    have q1 : (op == 1) = false := beq_eq_false_iff_ne.mpr (by omega)
    have q2 : (op == 2) = false := beq_eq_false_iff_ne.mpr (by omega)
    have q3 : (op == 3) = false := beq_eq_false_iff_ne.mpr (by omega)
    have q4 : (op == 4) = false := beq_eq_false_iff_ne.mpr (by omega)
    have q24 : (op == 24) = false := beq_eq_false_iff_ne.mpr (by omega)
    have q25 : (op == 25) = false := beq_eq_false_iff_ne.mpr (by omega)
    have q26 : (op == 26) = false := beq_eq_false_iff_ne.mpr (by omega)
    have q29 : (op == 29) = false := beq_eq_false_iff_ne.mpr (by omega)
    have q30 : (op == 30) = false := beq_eq_false_iff_ne.mpr (by omega)
    have q32 : (op == 32) = false := beq_eq_false_iff_ne.mpr (by omega)
    have q33 : (op == 33) = false := beq_eq_false_iff_ne.mpr (by omega)
    have q34 : (op == 34) = false := beq_eq_false_iff_ne.mpr (by omega)
    have q35 : (op == 35) = false := beq_eq_false_iff_ne.mpr (by omega)
    have q36 : (op == 36) = false := beq_eq_false_iff_ne.mpr (by omega)
    have q37 : (op == 37) = false := beq_eq_false_iff_ne.mpr (by omega)
    have q38 : (op == 38) = false := beq_eq_false_iff_ne.mpr (by omega)
    have q39 : (op == 39) = false := beq_eq_false_iff_ne.mpr (by omega)
    clear h hR
    go_enter Tryz.func117, Tryz.ntmps117
    go_wp2
    exact bodyPost_ret (v := .agg #[.int .i64 _, .int .i64 _]) (by simp [results, Tryz.results117, go_sem]) rfl ⟨rfl, by first | exact below1 _ _ | exact Below.refl _ _⟩


theorem belowNI {W a : World} (h : Below W.heap.size W a) (n : Nat) : Below W.heap.size W (a.drewN n) := ⟨h.os, h.tape, h.output, h.size, h.block⟩
/-- The mnemonic of an opcode. -/
def opW (op : Int) : ByteArray := if 1 ≤ op ∧ op ≤ 40 then opB op.toNat else ⟨#[]⟩
theorem opW_at (k : Nat) (h1 : 1 ≤ k) (h2 : k ≤ 40) : opW (k : Int) = opB k := by
  unfold opW
  rw [if_pos ⟨by omega, by omega⟩]
  rfl
theorem opW_out (op : Int) (h : op < 1 ∨ 40 < op) : opW op = ⟨#[]⟩ := by
  unfold opW
  rw [if_neg (by omega)]
theorem opB_zero : opB 0 = ⟨#[]⟩ := rfl
theorem opB_some : ∀ k, 1 ≤ k → k ≤ 40 → (opB k).toList.isEmpty = false := by
  intro k h1 h2
  have h : ∀ j : Fin 40, (opB (j.val + 1)).toList.isEmpty = false := by decide +kernel
  have h3 := h ⟨k - 1, by omega⟩
  simp only at h3
  rw [show k - 1 + 1 = k by omega] at h3
  exact h3

theorem implOpWord_any (op : Int) (w : World) (ht : OpTab w) :
    Calls Tryz.prog 87 #[.int .i64 op] w fun e w' => e = .returned (.string (opW op)) ∧ w = w' := by
  by_cases h0 : op < 0
  · rw [opW_out op (by omega)]
    go_enter Tryz.func87, Tryz.ntmps87
    go_wp2
    go_ret
    exact ⟨rfl, rfl⟩
  · by_cases h1 : 41 ≤ op
    · rw [opW_out op (by omega)]
      go_enter Tryz.func87, Tryz.ntmps87
      go_wp2
      go_ret
      exact ⟨rfl, rfl⟩
    · obtain ⟨k, rfl⟩ : ∃ k : Nat, op = k := ⟨op.toNat, by omega⟩
      have hc := ht k (by omega)
      have hr : opW (k : Int) = opB k := by
        by_cases h2 : 1 ≤ k
        · exact opW_at k h2 (by omega)
        · obtain rfl : k = 0 := by omega
          rw [opW_out _ (by omega)]
          rfl
      rw [hr]
      have hk0 : ¬ ((k : Int) < 0) := by omega
      have hk1 : ¬ (41 ≤ (k : Int)) := by omega
      have hk2 : ((k : Int) < 41) := by omega
      have hk3 : k < 41 := by omega
      clear ht hr h0 h1
      go_enter Tryz.func87, Tryz.ntmps87
      go_wp2
      go_ret
      exact ⟨rfl, rfl⟩

/-- Is an instruction in order? -/
def insV (op a : Int) : Bool := decide (1 ≤ op ∧ op ≤ 40) && decide ((insR op).1 ≤ a ∧ a ≤ (insR op).2.1)

theorem l15Ins_any (op a : Int) (w : World) :
    Calls Tryz.prog 110 #[.agg #[.int .i64 op, .int .i64 a]] w fun e w' => e = .returned (.bool (insV op a)) ∧ Below w.heap.size w w' := by
  have C := Lib.hid (fun W => l15Has_any op W)
  unfold insV
  by_cases h : 1 ≤ op ∧ op ≤ 40
  · rw [decide_eq_true h, Bool.true_and]
    obtain ⟨h1, h2⟩ := h
    by_cases h3 : (insR op).1 ≤ a ∧ a ≤ (insR op).2.1
    · rw [decide_eq_true h3]
      obtain ⟨h3, h4⟩ := h3
      generalize insR op = R at *
      go_enter Tryz.func110, Tryz.ntmps110
      go_wp2_with (first
        | (go_at_call 112; refine (C.out _).mono ?_; rintro e wx ⟨rfl, rfl⟩)
        | (go_at_call 40; refine (l00In_yes _ _ _ _ (by omega) (by omega)).mono ?_; rintro e w' ⟨rfl, rfl⟩))
      go_ret
      exact ⟨rfl, below1 _ _⟩
    · rw [decide_eq_false h3]
      generalize insR op = R at *
      go_enter Tryz.func110, Tryz.ntmps110
      go_wp2_with (first
        | (go_at_call 112; refine (C.out _).mono ?_; rintro e wx ⟨rfl, rfl⟩)
        | (go_at_call 40; first | (refine (l00In_yes _ _ _ _ (by omega) (by omega)).mono ?_; rintro e w' ⟨rfl, rfl⟩) | (refine (l00In_no _ _ _ _ (by omega)).mono ?_; rintro e w' ⟨rfl, rfl⟩)))
      go_ret
      exact ⟨rfl, below1 _ _⟩
  · rw [decide_eq_false h, Bool.false_and]
    generalize insR op = R at *
    go_enter Tryz.func110, Tryz.ntmps110
    go_wp2_with (first
      | (go_at_call 112; refine (C.out _).mono ?_; rintro e wx ⟨rfl, rfl⟩)
      | (go_at_call 40; refine (l00In_no _ _ _ _ (by omega)).mono ?_; rintro e w' ⟨rfl, rfl⟩))
    go_ret
    exact ⟨rfl, below1 _ _⟩

theorem has15_any (a b n : Int) (w : World) :
    Calls Tryz.prog 57 #[.agg #[.int .i64 a, .int .i64 b], .int .i64 n] w fun e w' => e = .returned (.bool (decide (a ≤ n ∧ n ≤ b))) ∧ Below w.heap.size w w' := by
  by_cases h1 : a ≤ n
  · by_cases h2 : n ≤ b
    · rw [decide_eq_true ⟨h1, h2⟩]
      go_enter Tryz.func57, Tryz.ntmps57
      go_wp2
      go_ret
      exact ⟨rfl, below1 _ _⟩
    · rw [decide_eq_false (fun h => h2 h.2)]
      go_enter Tryz.func57, Tryz.ntmps57
      go_wp2
      go_ret
      exact ⟨rfl, below1 _ _⟩
  · rw [decide_eq_false (fun h => h1 h.1)]
    go_enter Tryz.func57, Tryz.ntmps57
    go_wp2
    go_ret
    exact ⟨rfl, below1 _ _⟩

theorem implInsOk_any (op a : Int) (w : World) (ht : OpTab w) :
    Calls Tryz.prog 85 #[.agg #[.int .i64 op, .int .i64 a]] w fun e w' => e = .returned (.bool (insV op a)) ∧ Below w.heap.size w w' := by
  have CO := Lib.hid (fun W hb => implOpWord_any op W (ht.keep hb))
  have CR := Lib.hid (fun W => operandsOf_any op W)
  have CH := Lib.hid (fun W => has15_any (insR op).1 (insR op).2.1 a W)
  unfold insV
  clear ht
  by_cases h : 1 ≤ op ∧ op ≤ 40
  · have hw : (opW op).toList.isEmpty = false := by
      obtain ⟨k, rfl⟩ : ∃ k : Nat, op = k := ⟨op.toNat, by omega⟩
      rw [opW_at k (by omega) (by omega)]
      exact opB_some k (by omega) (by omega)
    rw [decide_eq_true h, Bool.true_and]
    generalize decide ((insR op).1 ≤ a ∧ a ≤ (insR op).2.1) = D at *
    generalize insR op = R at *
    generalize opW op = T at *
    clear h
    go_enter Tryz.func85, Tryz.ntmps85
    go_wp2_with fail
    go_region_held3 (fun w' => w'.cell? ⟨w.heap.size, 0, none⟩ = some (.int .i64 op) ∧ w'.cell? ⟨w.heap.size, 1, none⟩ = some (.int .i64 a) ∧ Below w.heap.size w w')
      (first | assumption | (exact ⟨by go_simp, by go_simp, below1 _ _⟩) | (exact ⟨by go_simp, by go_simp, (below1 _ _).drew⟩) | (exact ⟨p0, p1, HY⟩) | (exact ⟨q0, q1, HZ⟩))
      (first
        | (go_at_call 87; refine (CO.out _ (by first | exact (below1 _ _).drew | exact below1 _ _)).mono ?_; rintro e wx ⟨rfl, rfl⟩)
        | (go_at_call 117; refine (CR.out _).mono ?_; rintro e wy ⟨rfl, hby⟩; have p0 := keepCell (a := ⟨w.heap.size, 0, none⟩) (v := .int .i64 op) hby (by go_simp); have p1 := keepCell (a := ⟨w.heap.size, 1, none⟩) (v := .int .i64 a) hby (by go_simp); have HY := bnext (by first | exact (below1 _ _).drew | exact below1 _ _) hby)
        | (go_at_call 57; refine (CH.out _).mono ?_; rintro e wz ⟨rfl, hbz⟩; have q0 := keepCell hbz p0; have q1 := keepCell hbz p1; have HZ := bnext HY hbz))
    all_goals
      go_wp2_with fail
      go_ret
      exact ⟨rfl, HZ⟩
  · rw [decide_eq_false h, Bool.false_and]
    have hw0 := opW_out op (by omega)
    have hw : (opW op).toList.isEmpty = true := by
      rw [hw0, ByteArray.toList_eq]
      rfl
    clear hw0 CR CH
    generalize opW op = T at *
    go_enter Tryz.func85, Tryz.ntmps85
    go_wp2_with fail
    go_quiet (first | (go_at_call 87; refine Calls.quiet_of_same ((CO.out _ (belowNI (below1 _ _) _)).mono fun _ _ h => ⟨h.1, h.2.symm⟩)))
    go_wp2_with fail
    go_ret
    exact ⟨rfl, belowNI (below1 _ _) _⟩
end Go.Proofs.YtbjcldekapipaaaGreatDoor
