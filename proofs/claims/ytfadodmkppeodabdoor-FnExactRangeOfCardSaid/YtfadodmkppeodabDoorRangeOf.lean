/-
  The law FnExactRangeOf: both answer the same.
-/
import Derived.Test.YtfadodmkppeodabDoorVLaw1
import Derived.Deep.RegionHeld3
import Derived.Shelf.Small.Strs
namespace Go.Proofs
open Go.Shelf
def Tryd.laysIB_ren : Go.Shelf.Ren := ⟨fun | 137 => 38 | 217 => 51 | 266 => 58 | n => n, fun | 9 => 9 | 5 => 5 | 3 => 3 | n => n, fun | n => n⟩
theorem Tryd.laysIB : Go.Proofs.LaysM.n137 Tryd.prog Tryd.laysIB_ren := {
  mixed := by kernel_rfl
  f137 := Tryd.func38.trans (congrArg some (by kernel_rfl))
  f217 := Tryd.func51.trans (congrArg some (by kernel_rfl))
  f266 := Tryd.func58.trans (congrArg some (by kernel_rfl))
  t3 := Tryd.underlying3
  a3 := Tryd.isAgg3
  z3 := Tryd.sizeOf3
  v3 := Tryd.zeroValue3
  t5 := Tryd.underlying5
  a5 := Tryd.isAgg5
  z5 := Tryd.sizeOf5
  v5 := Tryd.zeroValue5
  t9 := Tryd.underlying9
  a9 := Tryd.isAgg9
  z9 := Tryd.sizeOf9
  v9 := Tryd.zeroValue9
  i3 := by kernel_rfl
  i5 := by kernel_rfl
  i9 := by kernel_rfl }
end Go.Proofs
namespace Go.Proofs.YtfadodmkppeodabDoor
open Go.ChangeShapes Go.WideShapes Go.ChangeAt Go.RowKit

theorem idx_sign (c : UInt8) (h : Sign (c.toNat : Int)) : 0 ≤ Lib.indexByte [61, 126, 94, 62] c := by
  have h2 : c = 61 ∨ c = 126 ∨ c = 94 ∨ c = 62 := by
    unfold Sign at h
    rcases h with h | h | h | h
    · exact Or.inl (UInt8.toNat_inj.mp (show c.toNat = 61 by omega))
    · exact Or.inr (Or.inl (UInt8.toNat_inj.mp (show c.toNat = 126 by omega)))
    · exact Or.inr (Or.inr (Or.inl (UInt8.toNat_inj.mp (show c.toNat = 94 by omega))))
    · exact Or.inr (Or.inr (Or.inr (UInt8.toNat_inj.mp (show c.toNat = 62 by omega))))
  rcases h2 with rfl | rfl | rfl | rfl <;> decide

theorem idx_none (c : UInt8) (h : ¬ Sign (c.toNat : Int)) : Lib.indexByte [61, 126, 94, 62] c = -1 := by
  unfold Sign at h
  have h1 : ((61 : UInt8) == c) = false := beq_eq_false_iff_ne.mpr (fun e => h (Or.inl (by rw [← e]; rfl)))
  have h2 : ((126 : UInt8) == c) = false := beq_eq_false_iff_ne.mpr (fun e => h (Or.inr (Or.inl (by rw [← e]; rfl))))
  have h3 : ((94 : UInt8) == c) = false := beq_eq_false_iff_ne.mpr (fun e => h (Or.inr (Or.inr (Or.inl (by rw [← e]; rfl)))))
  have h4 : ((62 : UInt8) == c) = false := beq_eq_false_iff_ne.mpr (fun e => h (Or.inr (Or.inr (Or.inr (by rw [← e]; rfl)))))
  simp [Lib.indexByte, h1, h2, h3, h4]

theorem ib_any (c : UInt8) (k : Int) (hk : Lib.indexByte [61, 126, 94, 62] c = k) : Hid (∀ w : World, Calls Tryd.prog 38 #[.string ⟨#[61, 126, 94, 62]⟩, .int .u8 (c.toNat : Int)] w fun e w' => e = .returned (.int .i64 k) ∧ w = w') := by
  subst hk
  refine Lib.hid (fun w => (Any.strings_IndexByte { Tryd.laysIB with } ⟨#[61, 126, 94, 62]⟩ (c.toNat : Int) w).mono ?_)
  rintro e w' ⟨rfl, rfl⟩
  refine ⟨?_, rfl⟩
  rw [Lib.byte_back]

theorem sbelow_none (k n : Int) (hk : ¬ Sign k) (w : World) :
    Calls Tryd.prog 37 #[.int .u8 k, .int .i64 n] w fun e w' => e = .returned (.int .i64 0) ∧ w = w' := by
  have h1 : (k == 61) = false := beq_eq_false_iff_ne.mpr (fun e => hk (Or.inl e))
  have h2 : (k == 126) = false := beq_eq_false_iff_ne.mpr (fun e => hk (Or.inr (Or.inl e)))
  have h3 : (k == 94) = false := beq_eq_false_iff_ne.mpr (fun e => hk (Or.inr (Or.inr (Or.inl e))))
  have h4 : (k == 62) = false := beq_eq_false_iff_ne.mpr (fun e => hk (Or.inr (Or.inr (Or.inr e))))
  clear hk
  go_enter Tryd.func37, Tryd.ntmps37
  go_wp2
  go_ret
  exact ⟨rfl, rfl⟩

theorem belOf_pos (k n : Int) (h0 : 0 ≤ n) : 1 ≤ belOf k n := by
  unfold belOf
  split
  · omega
  · split
    · omega
    · split
      · split <;> omega
      · omega

/-- What both RangeOf answer. -/
def roV (a b c : Int) : Value := .tuple #[.agg #[.int .i64 a, .int .i64 b], .int .i64 c]

theorem specRO_short (s : ByteArray) (h : s.size < 2) (w : World) :
    Calls Tryd.prog 20 #[.string s] w fun e w' => e = .returned (roV 0 0 6) ∧ Below w.heap.size w w' := by
  unfold roV
  go_enter Tryd.func20, Tryd.ntmps20
  go_wp2_with fail
  exact bodyPost_ret (v := .tuple #[.agg #[.int .i64 0, .int .i64 0], .int .i64 6]) (by simp [results, Tryd.results20, go_sem]) rfl ⟨rfl, below1 _ _⟩

theorem tail_size (s : ByteArray) (hs : s.size ≤ 1048576) : (s.extract 1 s.size).size ≤ 1048576 := by
  rw [ByteArray.size_extract]
  omega

theorem specRO_neg (s : ByteArray) (h : 2 ≤ s.size) (hs : s.size ≤ 1048576) (hN : numOf (s.extract 1 s.size) < 0) (w : World) :
    Calls Tryd.prog 20 #[.string s] w fun e w' => e = .returned (roV 0 0 6) ∧ Below w.heap.size w w' := by
  unfold roV
  have C := sn_any _ (tail_size s hs) _ rfl
  generalize numOf (s.extract 1 s.size) = N at *
  have h1 : (0 : Int) < (s.size : Int) := by omega
  have h2 : ¬ s.size < 2 := by omega
  have h3 : 1 ≤ s.size := by omega
  go_enter Tryd.func20, Tryd.ntmps20
  go_wp2_with (go_at_call 32; refine (C.out _).mono ?_; rintro e wx ⟨rfl, hbx⟩; obtain ⟨hcx, hfx⟩ := bcell hbx; have hzx : w.heap.size < wx.heap.size := (by have h9 := hbx.size; simp at h9; omega))
  refine bodyPost_ret (v := .tuple #[.agg #[.int .i64 0, .int .i64 0], .int .i64 6]) (by simp [results, Tryd.results20, go_sem, hcx]) rfl ⟨rfl, ?_⟩
  first
    | exact bchain (below1 _ _) hbx (by simp)
    | exact ((bchain (below1 _ _) hbx (by simp)).setCell (Nat.le_refl _) _).setCell (Nat.le_refl _) _

theorem specRO_none (s : ByteArray) (h : 2 ≤ s.size) (hs : s.size ≤ 1048576) (hN : 0 ≤ numOf (s.extract 1 s.size)) (hk : ¬ Sign ((s[0]'(by omega)).toNat : Int)) (w : World) :
    Calls Tryd.prog 20 #[.string s] w fun e w' => e = .returned (roV 0 0 6) ∧ Below w.heap.size w w' := by
  unfold roV
  have C := sn_any _ (tail_size s hs) _ rfl
  generalize numOf (s.extract 1 s.size) = N at *
  have CB : Hid (∀ W : World, Calls Tryd.prog 37 #[.int .u8 ((s[0]'(by omega)).toNat : Int), .int .i64 N] W fun e w' => e = .returned (.int .i64 0) ∧ W = w') := Lib.hid (fun W => sbelow_none _ N hk W)
  have h1 : (0 : Int) < (s.size : Int) := by omega
  have h2 : ¬ s.size < 2 := by omega
  have h3 : 1 ≤ s.size := by omega
  have h4 : decide (N < 0) = false := decide_eq_false (by omega)
  clear hk
  go_enter Tryd.func20, Tryd.ntmps20
  go_wp2_with (first
    | (go_at_call 32; refine (C.out _).mono ?_; rintro e wx ⟨rfl, hbx⟩; obtain ⟨hcx, hfx⟩ := bcell hbx; have hzx : w.heap.size < wx.heap.size := (by have h9 := hbx.size; simp at h9; omega))
    | (go_at_call 37; (with_reducible refine (CB.out _).mono ?_); rintro e wy ⟨rfl, rfl⟩))
  refine bodyPost_ret (v := .tuple #[.agg #[.int .i64 0, .int .i64 0], .int .i64 6]) (by simp [results, Tryd.results20, go_sem, hcx]) rfl ⟨rfl, ?_⟩
  first
    | exact bchain (below1 _ _) hbx (by simp)
    | exact ((bchain (below1 _ _) hbx (by simp)).setCell (Nat.le_refl _) _).setCell (Nat.le_refl _) _

theorem specRO_some (s : ByteArray) (h : 2 ≤ s.size) (hs : s.size ≤ 1048576) (hN : 0 ≤ numOf (s.extract 1 s.size)) (hk : Sign ((s[0]'(by omega)).toNat : Int)) (w : World) :
    Calls Tryd.prog 20 #[.string s] w fun e w' => e = .returned (roV (numOf (s.extract 1 s.size)) (belOf ((s[0]'(by omega)).toNat : Int) (numOf (s.extract 1 s.size))) 0) ∧ Below w.heap.size w w' := by
  unfold roV
  have hg := num_ge (s.extract 1 s.size)
  have C := sn_any _ (tail_size s hs) _ rfl
  generalize numOf (s.extract 1 s.size) = N at *
  have hp := belOf_pos ((s[0]'(by omega)).toNat : Int) N hN
  obtain ⟨B, hB⟩ : ∃ B, belOf ((s[0]'(by omega)).toNat : Int) N = B := ⟨_, rfl⟩
  have CB : Hid (∀ W : World, Calls Tryd.prog 37 #[.int .u8 ((s[0]'(by omega)).toNat : Int), .int .i64 N] W fun e w' => e = .returned (.int .i64 B) ∧ W = w') := Lib.hid (fun W => by rw [← hB]; exact sbelow_any _ N hN (by omega) hk W)
  rw [hB] at hp
  rw [hB]
  have h1 : (0 : Int) < (s.size : Int) := by omega
  have h2 : ¬ s.size < 2 := by omega
  have h3 : 1 ≤ s.size := by omega
  have h4 : decide (N < 0) = false := decide_eq_false (by omega)
  have h5 : (B == 0) = false := beq_eq_false_iff_ne.mpr (by omega)
  clear hk hB hg
  go_enter Tryd.func20, Tryd.ntmps20
  go_wp2_with (first
    | (go_at_call 32; refine (C.out _).mono ?_; rintro e wx ⟨rfl, hbx⟩; obtain ⟨hcx, hfx⟩ := bcell hbx; have hzx : w.heap.size < wx.heap.size := (by have h9 := hbx.size; simp at h9; omega))
    | (go_at_call 37; (with_reducible refine (CB.out _).mono ?_); rintro e wy ⟨rfl, rfl⟩))
  refine bodyPost_ret (v := .tuple #[.agg #[.int .i64 N, .int .i64 B], .int .i64 0]) (by simp [results, Tryd.results20, go_sem, hcx]) rfl ⟨rfl, ?_⟩
  first
    | exact bchain (below1 _ _) hbx (by simp)
    | exact ((bchain (below1 _ _) hbx (by simp)).setCell (Nat.le_refl _) _).setCell (Nat.le_refl _) _
end Go.Proofs.YtfadodmkppeodabDoor
