/-
  The walk of the model's l15Digits: a number's decimal numeral, for every int64.
-/
import Derived.Test.YtoeofhhmkkpjbaaDoorDigits
import Derived.Deep.RegionWith
import Derived.Lib.ItoaNum
import Derived.Lib.ItoaMem
namespace Go.Proofs.YtoeofhhmkkpjbaaDoor
open Go.ChangeShapes Go.WideShapes Go.ChangeAt Go.RowKit

/-- A number's low byte. -/
def lowD (x : Int) : UInt8 := UInt8.ofNat x.toNat

/-- One byte, as a string. -/
theorem conv15 (W : World) (b : Nat) (x : Int) (hc : W.cell? ⟨b, 0, none⟩ = some (.int .u8 x)) :
    (convert 141 9 (.slice (some ⟨b, 0, none⟩) 1 1)).run Tryd.prog W = .ok (.string ⟨#[lowD x]⟩) W := by
  rw [run_convert_bytes_string W _ _ _ _ _ _ Tryd.underlying141 Tryd.underlying5 Tryd.underlying9,
    run_bytesToString W ⟨b, 0, none⟩ 1 1 [x] (by
      have := run_loadCells_list (P := Tryd.prog) W ⟨b, 0, none⟩ [.int .u8 x] (fun j v hj => by
        cases j with
        | zero => simp at hj; subst hj; simpa [Addr.add] using hc
        | succ j => simp at hj)
      simpa using this)]
  rfl

theorem of_drewD {w w1 : World} (h : Below w.drew.heap.size w.drew w1) : Below w.heap.size w w1 := (Below.refl _ _).drew.trans h

theorem dig15_one (n : Int) (w : World) (h0 : 0 ≤ n) (h1 : n < 10) :
    Calls Tryd.prog 90 #[.int .i64 n] w fun e w' => e = .returned (.string ⟨#[lowD (48 + n)]⟩) ∧ Below w.heap.size w w' := by
  have hc1 := conv15
  go_enter Tryd.func90, Tryd.ntmps90
  go_wp2
  go_ret
  exact ⟨rfl, below1 _ _⟩

set_option maxRecDepth 100000 in
set_option maxHeartbeats 2000000 in
theorem dig15_more (n : Int) (D : ByteArray) (w : World) (h0 : 10 ≤ n) (h1 : n ≤ 9223372036854775807) (hD : D.size ≤ 20)
    (hr : RowKit.Hid (∀ w : World, Calls Tryd.prog 90 #[.int .i64 (n / 10)] w fun e w' => e = .returned (.string D) ∧ Below w.heap.size w w')) :
    Calls Tryd.prog 90 #[.int .i64 n] w fun e w' => e = .returned (.string (D ++ ⟨#[lowD (48 + n % 10)]⟩)) ∧ Below w.heap.size w w' := by
  have b0 : 0 ≤ n % 10 := by omega
  have b1 : n % 10 < 10 := by omega
  have hds : ¬ (9223372036854775807 < D.size + 1) := by omega
  have hds2 : D.size + 1 ≤ 9223372036854775807 := by omega
  have hcA := conv15 (w.alloc (.cells #[.int .u8 (48 + n % 10)] 5)).drew w.heap.size (48 + n % 10) (by simp)
  have q2 : n.tmod 10 = n % 10 := Int.tmod_eq_emod_of_nonneg (by omega)
  have q1 : IntKind.i64.wrap (n.tdiv 10) = n / 10 := by
    rw [Int.tdiv_eq_ediv_of_nonneg (by omega)]
    simp [IntKind.wrap, IntKind.signed, IntKind.bits]
    omega
  have q3 : IntKind.i64.wrap (48 + n % 10) = 48 + n % 10 := by
    simp [IntKind.wrap, IntKind.signed, IntKind.bits]
    omega
  have q4 : IntKind.u8.wrap (48 + n % 10) = 48 + n % 10 := by
    simp [IntKind.wrap, IntKind.signed, IntKind.bits]
    omega
  go_enter Tryd.func90, Tryd.ntmps90
  go_wp2_with fail
  go_region_with
    (first
      | (go_at_call 90; refine (hr.out _).mono ?_; rintro e wx ⟨rfl, hb⟩; obtain ⟨hcx, hfx⟩ := bcell hb; have hcz := keepCell (a := ⟨w.heap.size, 0, none⟩) (v := .int .u8 (48 + n % 10)) hb; (try simp at hcz); (try (have hcB := conv15 wx w.heap.size (48 + n % 10) hcz)); have hcC := conv15 (wx.alloc (.cells #[.int .u8 (48 + n % 10)] 5)) wx.heap.size (48 + n % 10) (by simp); clear hcx hfx))
  all_goals
    go_wp2_with fail
    go_ret
    first
      | exact ⟨rfl, (of_drewD hb).alloc hb.size _⟩
      | exact ⟨rfl, bchain (below1 _ _).drew hb (by simp)⟩

/-- A number's decimal numeral. -/
def numB (n : Int) : ByteArray := ⟨(Lib.itoa n).toArray⟩
theorem nDig_le : ∀ (d u : Nat), u < 10 ^ (d + 1) → (Lib.decDigits u).length ≤ d + 1
  | 0, u, h => by
    rw [Lib.decDigits, dif_pos (by omega)]
    simp
  | d + 1, u, h => by
    by_cases h1 : u < 10
    · rw [Lib.decDigits, dif_pos h1]
      simp
    · rw [Lib.decDigits, dif_neg h1]
      have := nDig_le d (u / 10) (by rw [Nat.pow_succ] at h; omega)
      simp
      omega
theorem numB_pos (m : Nat) : numB (m : Int) = ⟨(Lib.decDigits m).toArray⟩ := by
  unfold numB
  rw [Lib.itoa, if_neg (by omega), Int.toNat_natCast]
theorem numB_size (m : Nat) (h : m ≤ 9223372036854775808) : (numB (m : Int)).size ≤ 19 := by
  have := nDig_le 18 m (by omega)
  rw [numB_pos]
  simpa [ByteArray.size] using this

theorem dig15_pos (n : Int) (w : World) (h0 : 0 ≤ n) (h1 : n ≤ 9223372036854775807) :
    Calls Tryd.prog 90 #[.int .i64 n] w fun e w' => e = .returned (.string (numB n)) ∧ Below w.heap.size w w' := by
  obtain ⟨m, rfl⟩ : ∃ m : Nat, n = (m : Int) := ⟨n.toNat, by omega⟩
  induction m using Nat.strongRecOn generalizing w with
  | _ m ih =>
    by_cases h : m < 10
    · have h2 := dig15_one m w h0 (by omega)
      rw [show numB (m : Int) = ⟨#[lowD (48 + (m : Int))]⟩ by rw [numB_pos, Lib.decDigits, dif_pos h]; rfl]
      exact h2
    · have h2 := dig15_more m (numB ((m / 10 : Nat) : Int)) w (by omega) h1 (by have := numB_size (m / 10) (by omega); omega) (Lib.hid (fun W => ih (m / 10) (by omega) W (by omega) (by omega)))
      rw [show numB (m : Int) = numB ((m / 10 : Nat) : Int) ++ ⟨#[lowD (48 + (m : Int) % 10)]⟩ by
        rw [numB_pos, numB_pos, Lib.decDigits, dif_neg h]
        apply ByteArray.ext
        have e5 : (48 + (m : Int) % 10).toNat = 48 + m % 10 := by omega
        simp [lowD, e5]]
      exact h2
theorem numB_least : numB (-9223372036854775808) = ⟨#[45, 57, 50, 50, 51, 51, 55, 50, 48, 51, 54, 56, 53, 52, 55, 55, 53, 56, 48, 56]⟩ := by
  unfold numB
  rw [Lib.itoa, if_pos (by omega)]
  decide +kernel
theorem numB_neg (m : Nat) (h : 1 ≤ m) : numB (-(m : Int)) = ⟨#[45]⟩ ++ numB (m : Int) := by
  rw [numB_pos]
  unfold numB
  rw [Lib.itoa_neg m h]
  apply ByteArray.ext
  simp

/-- For every int64. -/
theorem dig15_any (n : Int) (w : World) (h0 : -9223372036854775808 ≤ n) (h1 : n ≤ 9223372036854775807) :
    Calls Tryd.prog 90 #[.int .i64 n] w fun e w' => e = .returned (.string (numB n)) ∧ Below w.heap.size w w' := by
  by_cases hp : 0 ≤ n
  · exact dig15_pos n w hp h1
  · by_cases hl : n = -9223372036854775808
    · subst hl
      rw [numB_least]
      clear hp h0 h1
      go_enter Tryd.func90, Tryd.ntmps90
      go_wp2
      go_ret
      exact ⟨rfl, Below.refl _ _⟩
    · obtain ⟨m, rfl⟩ : ∃ m : Nat, n = -(m : Int) := ⟨n.natAbs, by omega⟩
      have hm : 1 ≤ m := by omega
      rw [numB_neg m hm]
      have C := Lib.hid (fun W => dig15_pos (m : Int) W (by omega) (by omega))
      have hs := numB_size m (by omega)
      generalize numB (m : Int) = D at *
      have hn : -(m : Int) < 0 := by omega
      have he : (-(m : Int) == -9223372036854775808) = false := beq_eq_false_iff_ne.mpr hl
      have hw : IntKind.i64.wrap (m : Int) = (m : Int) := IntWalk.i64_in _ (by omega)
      have hz : ¬ (9223372036854775807 < 1 + D.size) := by omega
      clear h0 h1 hp hl
      go_enter Tryd.func90, Tryd.ntmps90
      go_wp2_with (go_at_call 90; refine (C.out _).mono ?_; rintro e wx ⟨rfl, hb⟩)
      go_ret
      exact ⟨rfl, hb⟩
end Go.Proofs.YtoeofhhmkkpjbaaDoor
