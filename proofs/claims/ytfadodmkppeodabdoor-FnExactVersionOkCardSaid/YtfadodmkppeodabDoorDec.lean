/-
  Walks of l02Dec: a number's decimal digits.
-/
import Derived.Test.YtfadodmkppeodabDoorDigits
import Derived.Lib.ItoaNum
import Derived.Deep.RegionWith
namespace Go.Proofs.YtfadodmkppeodabDoor
open Go.ChangeShapes Go.WideShapes Go.ChangeAt Go.RowKit

/-- A number's low byte. -/
def lowB (x : Int) : UInt8 := UInt8.ofNat x.toNat

/-- One byte, as a string. -/
theorem conv1 (W : World) (b : Nat) (x : Int) (hc : W.cell? ⟨b, 0, none⟩ = some (.int .u8 x)) :
    (convert 73 9 (.slice (some ⟨b, 0, none⟩) 1 1)).run Tryd.prog W = .ok (.string ⟨#[lowB x]⟩) W := by
  rw [run_convert_bytes_string W _ _ _ _ _ _ Tryd.underlying73 Tryd.underlying5 Tryd.underlying9,
    run_bytesToString W ⟨b, 0, none⟩ 1 1 [x] (by
      have := run_loadCells_list (P := Tryd.prog) W ⟨b, 0, none⟩ [.int .u8 x] (fun j v hj => by
        cases j with
        | zero => simp at hj; subst hj; simpa [Addr.add] using hc
        | succ j => simp at hj)
      simpa using this)]
  rfl

theorem of_drew {w w1 : World} (h : Below w.drew.heap.size w.drew w1) : Below w.heap.size w w1 := (Below.refl _ _).drew.trans h

theorem l02Dec_one (n : Int) (w : World) (h0 : 0 ≤ n) (h1 : n < 10) :
    Calls Tryd.prog 52 #[.int .i64 n] w fun e w' => e = .returned (.string ⟨#[lowB (48 + n)]⟩) ∧ Below w.heap.size w w' := by
  have hc1 := conv1
  go_enter Tryd.func52, Tryd.ntmps52
  go_wp2
  go_ret
  exact ⟨rfl, below1 _ _⟩

set_option maxRecDepth 100000 in
set_option maxHeartbeats 2000000 in
theorem l02Dec_more (n : Int) (D : ByteArray) (w : World) (h0 : 10 ≤ n) (h1 : n < 1000) (hD : D.size ≤ 2)
    (hr : RowKit.Hid (∀ w : World, Calls Tryd.prog 52 #[.int .i64 (n / 10)] w fun e w' => e = .returned (.string D) ∧ Below w.heap.size w w')) :
    Calls Tryd.prog 52 #[.int .i64 n] w fun e w' => e = .returned (.string (D ++ ⟨#[lowB (48 + n % 10)]⟩)) ∧ Below w.heap.size w w' := by
  have b0 : 0 ≤ n % 10 := by omega
  have b1 : n % 10 < 10 := by omega
  have hds : ¬ (9223372036854775807 < D.size + 1) := by omega
  have hds2 : D.size + 1 ≤ 9223372036854775807 := by omega
  have hcA := conv1 (w.alloc (.cells #[.int .u8 (48 + n % 10)] 5)).drew w.heap.size (48 + n % 10) (by simp)
  have q2 : n.tmod 10 = n % 10 := Int.tmod_eq_emod_of_nonneg (by omega)
  have q1 : IntKind.i64.wrap (n.tdiv 10) = n / 10 := by
    rw [Int.tdiv_eq_ediv_of_nonneg (by omega)]
    simp [IntKind.wrap, IntKind.signed, IntKind.bits]
    omega
  have q3 : IntKind.i64.wrap (48 + n % 10) = 48 + n % 10 := by
    simp [IntKind.wrap, IntKind.signed, IntKind.bits]
    omega
  have q4 : IntKind.u8.wrap (48 + n % 10) = 48 + n % 10 := by
    simp [IntKind.wrap, IntKind.signed, IntKind.bits]
    omega
  go_enter Tryd.func52, Tryd.ntmps52
  go_wp2_with fail
  go_region_with
    (first
      | (go_at_call 52; refine (hr.out _).mono ?_; rintro e wx ⟨rfl, hb⟩; obtain ⟨hcx, hfx⟩ := bcell hb; have hcz := keepCell (a := ⟨w.heap.size, 0, none⟩) (v := .int .u8 (48 + n % 10)) hb; (try simp at hcz); (try (have hcB := conv1 wx w.heap.size (48 + n % 10) hcz)); have hcC := conv1 (wx.alloc (.cells #[.int .u8 (48 + n % 10)] 5)) wx.heap.size (48 + n % 10) (by simp); clear hcx hfx))
  all_goals
    go_wp2_with fail
    go_ret
    first
      | exact ⟨rfl, (of_drew hb).alloc hb.size _⟩
      | exact ⟨rfl, bchain (below1 _ _).drew hb (by simp)⟩

theorem l02Dec_any (n : Int) (w : World) (h0 : 0 ≤ n) (h1 : n < 1000) :
    Calls Tryd.prog 52 #[.int .i64 n] w fun e w' => e = .returned (.string (decB n)) ∧ Below w.heap.size w w' := by
  obtain ⟨m, rfl⟩ : ∃ m : Nat, n = (m : Int) := ⟨n.toNat, by omega⟩
  induction m using Nat.strongRecOn generalizing w with
  | _ m ih =>
    by_cases h : m < 10
    · have h2 := l02Dec_one m w h0 (by omega)
      rw [show decB (m : Int) = ⟨#[lowB (48 + (m : Int))]⟩ by simp only [decB, Int.toNat_natCast]; rw [Lib.decDigits, dif_pos h]; rfl]
      exact h2
    · have h2 := l02Dec_more m (decB ((m / 10 : Nat) : Int)) w (by omega) h1 (decB_size2 _ (by omega) (by omega)) (fun W => ih (m / 10) (by omega) W (by omega) (by omega))
      rw [show decB (m : Int) = decB ((m / 10 : Nat) : Int) ++ ⟨#[lowB (48 + (m : Int) % 10)]⟩ by
        simp only [decB, Int.toNat_natCast]
        rw [Lib.decDigits, dif_neg h]
        apply ByteArray.ext
        have e5 : (48 + (m : Int) % 10).toNat = 48 + m % 10 := by omega
        simp [lowB, e5]]
      exact h2
end Go.Proofs.YtfadodmkppeodabDoor
