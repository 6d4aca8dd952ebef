/-
  Digits, Dig15, InsText: in one text.
-/
import Derived.Test.YtbjcldekapipaaaGreatDoorBase
import Derived.Lib.ItoaNum
import Derived.Deep.RegionWith
import Derived.Lib.ItoaMem
import Derived.Test.YtbjcldekapipaaaGreatDoorIns
import Derived.Ground.NamesProg
import Derived.Shelf.Lay
import Derived.Shelf.Strconv.Itoa4
import Derived.Lib.AppendIntMem
import Derived.Lib.ItoaLen
import Derived.Deep.RegionHeld3
namespace Go.Proofs.YtbjcldekapipaaaGreatDoor

/-- A number's digits. -/
def decB (n : Int) : ByteArray := ⟨(Lib.decDigits n.toNat).toArray⟩

theorem decLen1 (u : Nat) (h : u < 10) : (Lib.decDigits u).length = 1 := by
  rw [Lib.decDigits, dif_pos h]
  rfl
theorem decLen2 (u : Nat) (h : u < 100) : (Lib.decDigits u).length ≤ 2 := by
  by_cases h1 : u < 10
  · have := decLen1 u h1
    omega
  · rw [Lib.decDigits, dif_neg h1]
    have := decLen1 (u / 10) (by omega)
    simp
    omega
theorem decLen3 (u : Nat) (h : u < 1000) : (Lib.decDigits u).length ≤ 3 := by
  by_cases h1 : u < 10
  · have := decLen1 u h1
    omega
  · rw [Lib.decDigits, dif_neg h1]
    have := decLen2 (u / 10) (by omega)
    simp
    omega
theorem decB_size (n : Int) (h0 : 0 ≤ n) (h1 : n < 1000) : (decB n).size ≤ 3 := by
  have := decLen3 n.toNat (by omega)
  simpa [decB, ByteArray.size] using this
theorem decB_size2 (n : Int) (h0 : 0 ≤ n) (h1 : n < 100) : (decB n).size ≤ 2 := by
  have := decLen2 n.toNat (by omega)
  simpa [decB, ByteArray.size] using this
end Go.Proofs.YtbjcldekapipaaaGreatDoor

namespace Go.Proofs.YtbjcldekapipaaaGreatDoor
open Go.ChangeShapes Go.WideShapes Go.ChangeAt Go.RowKit

/-- A number's low byte. -/
def lowD (x : Int) : UInt8 := UInt8.ofNat x.toNat

/-- One byte, as a string. -/
theorem conv15 (W : World) (b : Nat) (x : Int) (hc : W.cell? ⟨b, 0, none⟩ = some (.int .u8 x)) :
    (convert 63 9 (.slice (some ⟨b, 0, none⟩) 1 1)).run Tryz.prog W = .ok (.string ⟨#[lowD x]⟩) W := by
  rw [run_convert_bytes_string W _ _ _ _ _ _ Tryz.underlying63 Tryz.underlying5 Tryz.underlying9,
    run_bytesToString W ⟨b, 0, none⟩ 1 1 [x] (by
      have := run_loadCells_list (P := Tryz.prog) W ⟨b, 0, none⟩ [.int .u8 x] (fun j v hj => by
        cases j with
        | zero => simp at hj; subst hj; simpa [Addr.add] using hc
        | succ j => simp at hj)
      simpa using this)]
  rfl

theorem of_drewD {w w1 : World} (h : Below w.drew.heap.size w.drew w1) : Below w.heap.size w w1 := (Below.refl _ _).drew.trans h

theorem dig15_one (n : Int) (w : World) (h0 : 0 ≤ n) (h1 : n < 10) :
    Calls Tryz.prog 80 #[.int .i64 n] w fun e w' => e = .returned (.string ⟨#[lowD (48 + n)]⟩) ∧ Below w.heap.size w w' := by
  have hc1 := conv15
  go_enter Tryz.func80, Tryz.ntmps80
  go_wp2
  go_ret
  exact ⟨rfl, below1 _ _⟩

set_option maxRecDepth 100000 in
set_option maxHeartbeats 2000000 in
theorem dig15_more (n : Int) (D : ByteArray) (w : World) (h0 : 10 ≤ n) (h1 : n ≤ 9223372036854775807) (hD : D.size ≤ 20)
    (hr : RowKit.Hid (∀ w : World, Calls Tryz.prog 80 #[.int .i64 (n / 10)] w fun e w' => e = .returned (.string D) ∧ Below w.heap.size w w')) :
    Calls Tryz.prog 80 #[.int .i64 n] w fun e w' => e = .returned (.string (D ++ ⟨#[lowD (48 + n % 10)]⟩)) ∧ Below w.heap.size w w' := by
  have b0 : 0 ≤ n % 10 := by omega
  have b1 : n % 10 < 10 := by omega
  have hds : ¬ (9223372036854775807 < D.size + 1) := by omega
  have hds2 : D.size + 1 ≤ 9223372036854775807 := by omega
  have hcA := conv15 (w.alloc (.cells #[.int .u8 (48 + n % 10)] 5)).drew w.heap.size (48 + n % 10) (by simp)
  have q2 : n.tmod 10 = n % 10 := Int.tmod_eq_emod_of_nonneg (by omega)
  have q1 : IntKind.i64.wrap (n.tdiv 10) = n / 10 := by
    rw [Int.tdiv_eq_ediv_of_nonneg (by omega)]
    simp [IntKind.wrap, IntKind.signed, IntKind.bits]
    omega
  have q3 : IntKind.i64.wrap (48 + n % 10) = 48 + n % 10 := by
    simp [IntKind.wrap, IntKind.signed, IntKind.bits]
    omega
  have q4 : IntKind.u8.wrap (48 + n % 10) = 48 + n % 10 := by
    simp [IntKind.wrap, IntKind.signed, IntKind.bits]
    omega
  go_enter Tryz.func80, Tryz.ntmps80
  go_wp2_with fail
  go_region_with
    (first
      | (go_at_call 80; refine (hr.out _).mono ?_; rintro e wx ⟨rfl, hb⟩; obtain ⟨hcx, hfx⟩ := bcell hb; have hcz := keepCell (a := ⟨w.heap.size, 0, none⟩) (v := .int .u8 (48 + n % 10)) hb; (try simp at hcz); (try (have hcB := conv15 wx w.heap.size (48 + n % 10) hcz)); have hcC := conv15 (wx.alloc (.cells #[.int .u8 (48 + n % 10)] 5)) wx.heap.size (48 + n % 10) (by simp); clear hcx hfx))
  all_goals
    go_wp2_with fail
    go_ret
    first
      | exact ⟨rfl, (of_drewD hb).alloc hb.size _⟩
      | exact ⟨rfl, bchain (below1 _ _).drew hb (by simp)⟩

/-- A number's decimal numeral. -/
def numB (n : Int) : ByteArray := ⟨(Lib.itoa n).toArray⟩
theorem nDig_le : ∀ (d u : Nat), u < 10 ^ (d + 1) → (Lib.decDigits u).length ≤ d + 1
  | 0, u, h => by
    rw [Lib.decDigits, dif_pos (by omega)]
    simp
  | d + 1, u, h => by
    by_cases h1 : u < 10
    · rw [Lib.decDigits, dif_pos h1]
      simp
    · rw [Lib.decDigits, dif_neg h1]
      have := nDig_le d (u / 10) (by rw [Nat.pow_succ] at h; omega)
      simp
      omega
theorem numB_pos (m : Nat) : numB (m : Int) = ⟨(Lib.decDigits m).toArray⟩ := by
  unfold numB
  rw [Lib.itoa, if_neg (by omega), Int.toNat_natCast]
theorem numB_size (m : Nat) (h : m ≤ 9223372036854775808) : (numB (m : Int)).size ≤ 19 := by
  have := nDig_le 18 m (by omega)
  rw [numB_pos]
  simpa [ByteArray.size] using this

theorem dig15_pos (n : Int) (w : World) (h0 : 0 ≤ n) (h1 : n ≤ 9223372036854775807) :
    Calls Tryz.prog 80 #[.int .i64 n] w fun e w' => e = .returned (.string (numB n)) ∧ Below w.heap.size w w' := by
  obtain ⟨m, rfl⟩ : ∃ m : Nat, n = (m : Int) := ⟨n.toNat, by omega⟩
  induction m using Nat.strongRecOn generalizing w with
  | _ m ih =>
    by_cases h : m < 10
    · have h2 := dig15_one m w h0 (by omega)
      rw [show numB (m : Int) = ⟨#[lowD (48 + (m : Int))]⟩ by rw [numB_pos, Lib.decDigits, dif_pos h]; rfl]
      exact h2
    · have h2 := dig15_more m (numB ((m / 10 : Nat) : Int)) w (by omega) h1 (by have := numB_size (m / 10) (by omega); omega) (Lib.hid (fun W => ih (m / 10) (by omega) W (by omega) (by omega)))
      rw [show numB (m : Int) = numB ((m / 10 : Nat) : Int) ++ ⟨#[lowD (48 + (m : Int) % 10)]⟩ by
        rw [numB_pos, numB_pos, Lib.decDigits, dif_neg h]
        apply ByteArray.ext
        have e5 : (48 + (m : Int) % 10).toNat = 48 + m % 10 := by omega
        simp [lowD, e5]]
      exact h2
theorem numB_least : numB (-9223372036854775808) = ⟨#[45, 57, 50, 50, 51, 51, 55, 50, 48, 51, 54, 56, 53, 52, 55, 55, 53, 56, 48, 56]⟩ := by
  unfold numB
  rw [Lib.itoa, if_pos (by omega)]
  decide +kernel
theorem numB_neg (m : Nat) (h : 1 ≤ m) : numB (-(m : Int)) = ⟨#[45]⟩ ++ numB (m : Int) := by
  rw [numB_pos]
  unfold numB
  rw [Lib.itoa_neg m h]
  apply ByteArray.ext
  simp

/-- For every int64. -/
theorem dig15_any (n : Int) (w : World) (h0 : -9223372036854775808 ≤ n) (h1 : n ≤ 9223372036854775807) :
    Calls Tryz.prog 80 #[.int .i64 n] w fun e w' => e = .returned (.string (numB n)) ∧ Below w.heap.size w w' := by
  by_cases hp : 0 ≤ n
  · exact dig15_pos n w hp h1
  · by_cases hl : n = -9223372036854775808
    · subst hl
      rw [numB_least]
      clear hp h0 h1
      go_enter Tryz.func80, Tryz.ntmps80
      go_wp2
      go_ret
      exact ⟨rfl, Below.refl _ _⟩
    · obtain ⟨m, rfl⟩ : ∃ m : Nat, n = -(m : Int) := ⟨n.natAbs, by omega⟩
      have hm : 1 ≤ m := by omega
      rw [numB_neg m hm]
      have C := Lib.hid (fun W => dig15_pos (m : Int) W (by omega) (by omega))
      have hs := numB_size m (by omega)
      generalize numB (m : Int) = D at *
      have hn : -(m : Int) < 0 := by omega
      have he : (-(m : Int) == -9223372036854775808) = false := beq_eq_false_iff_ne.mpr hl
      have hw : IntKind.i64.wrap (m : Int) = (m : Int) := IntWalk.i64_in _ (by omega)
      have hz : ¬ (9223372036854775807 < 1 + D.size) := by omega
      clear h0 h1 hp hl
      go_enter Tryz.func80, Tryz.ntmps80
      go_wp2_with (go_at_call 80; refine (C.out _).mono ?_; rintro e wx ⟨rfl, hb⟩)
      go_ret
      exact ⟨rfl, hb⟩
end Go.Proofs.YtbjcldekapipaaaGreatDoor

namespace Go.Proofs
open Go.Shelf
def Tryz.laysFJ_ren : Go.Shelf.Ren := ⟨fun | 173 => 84 | 246 => 116 | 283 => 139 | 284 => 140 | 285 => 141 | 286 => 142 | 129 => 163 | 317 => 162 | 318 => 164 | 319 => 165 | 320 => 166 | 337 => 176 | 338 => 177 | n => n, fun | 2 => 2 | 3 => 3 | 9 => 9 | 4 => 4 | 171 => 178 | 0 => 0 | 53 => 112 | 37 => 63 | 5 => 5 | 173 => 181 | 212 => 199 | 51 => 200 | 20 => 20 | 213 => 201 | 46 => 138 | 232 => 218 | 233 => 219 | n => n, fun | 17 => 1 | 18 => 3 | 19 => 4 | n => n⟩
theorem Tryz.laysFJ : Go.Proofs.LaysM.n173 Tryz.prog Tryz.laysFJ_ren := {
  mixed := by kernel_rfl
  f129 := Tryz.func163.trans (congrArg some (by kernel_rfl))
  f173 := Tryz.func84.trans (congrArg some (by kernel_rfl))
  f246 := Tryz.func116.trans (congrArg some (by kernel_rfl))
  f283 := Tryz.func139.trans (congrArg some (by kernel_rfl))
  f284 := Tryz.func140.trans (congrArg some (by kernel_rfl))
  f285 := Tryz.func141.trans (congrArg some (by kernel_rfl))
  f286 := Tryz.func142.trans (congrArg some (by kernel_rfl))
  f317 := Tryz.func162.trans (congrArg some (by kernel_rfl))
  f318 := Tryz.func164.trans (congrArg some (by kernel_rfl))
  f319 := Tryz.func165.trans (congrArg some (by kernel_rfl))
  f320 := Tryz.func166.trans (congrArg some (by kernel_rfl))
  f337 := Tryz.func176.trans (congrArg some (by kernel_rfl))
  f338 := Tryz.func177.trans (congrArg some (by kernel_rfl))
  t0 := Tryz.underlying0
  a0 := Tryz.isAgg0
  z0 := Tryz.sizeOf0
  v0 := Tryz.zeroValue0
  t2 := Tryz.underlying2
  a2 := Tryz.isAgg2
  z2 := Tryz.sizeOf2
  v2 := Tryz.zeroValue2
  t3 := Tryz.underlying3
  a3 := Tryz.isAgg3
  z3 := Tryz.sizeOf3
  v3 := Tryz.zeroValue3
  t4 := Tryz.underlying4
  a4 := Tryz.isAgg4
  z4 := Tryz.sizeOf4
  v4 := Tryz.zeroValue4
  t5 := Tryz.underlying5
  a5 := Tryz.isAgg5
  z5 := Tryz.sizeOf5
  v5 := Tryz.zeroValue5
  t9 := Tryz.underlying9
  a9 := Tryz.isAgg9
  z9 := Tryz.sizeOf9
  v9 := Tryz.zeroValue9
  t20 := Tryz.underlying20
  a20 := Tryz.isAgg20
  z20 := Tryz.sizeOf20
  v20 := Tryz.zeroValue20
  t37 := Tryz.underlying63
  a37 := Tryz.isAgg63
  z37 := Tryz.sizeOf63
  v37 := Tryz.zeroValue63
  t46 := Tryz.underlying138
  a46 := Tryz.isAgg138
  z46 := Tryz.sizeOf138
  v46 := Tryz.zeroValue138
  t51 := Tryz.underlying200
  a51 := Tryz.isAgg200
  z51 := Tryz.sizeOf200
  v51 := Tryz.zeroValue200
  t53 := Tryz.underlying112
  a53 := Tryz.isAgg112
  z53 := Tryz.sizeOf112
  v53 := Tryz.zeroValue112
  t171 := Tryz.underlying178
  a171 := Tryz.isAgg178
  z171 := Tryz.sizeOf178
  v171 := Tryz.zeroValue178
  t173 := Tryz.underlying181
  a173 := Tryz.isAgg181
  z173 := Tryz.sizeOf181
  v173 := Tryz.zeroValue181
  t212 := Tryz.underlying199
  a212 := Tryz.isAgg199
  z212 := Tryz.sizeOf199
  v212 := Tryz.zeroValue199
  t213 := Tryz.underlying201
  a213 := Tryz.isAgg201
  z213 := Tryz.sizeOf201
  t232 := Tryz.underlying218
  a232 := Tryz.isAgg218
  z232 := Tryz.sizeOf218
  v232 := Tryz.zeroValue218
  t233 := Tryz.underlying219
  a233 := Tryz.isAgg219
  z233 := Tryz.sizeOf219
  v233 := Tryz.zeroValue219
  g17 := by kernel_rfl
  g18 := by kernel_rfl
  g19 := by kernel_rfl
  i0 := by kernel_rfl
  i2 := by kernel_rfl
  i3 := by kernel_rfl
  i4 := by kernel_rfl
  i5 := by kernel_rfl
  i9 := by kernel_rfl
  i20 := by kernel_rfl
  i37 := by kernel_rfl
  i46 := by kernel_rfl
  i51 := by kernel_rfl
  i53 := by kernel_rfl
  i171 := by kernel_rfl
  i173 := by kernel_rfl
  i212 := by kernel_rfl
  i232 := by kernel_rfl
  i233 := by kernel_rfl
  m17 := by kernel_rfl
  m18 := by kernel_rfl
  m19 := by kernel_rfl }
end Go.Proofs
namespace Go.Proofs.YtbjcldekapipaaaGreatDoor
open Go.ChangeShapes Go.WideShapes Go.ChangeAt Go.RowKit

/-- The table of the powers of ten. -/
def PowsJ (w : World) : Prop := Lib.TabIs Tryz.prog w "internal/strconv.uint64pow10" .u64 Lib.pow10Tab
theorem PowsJ.keep {w w' : World} (h : PowsJ w) (hb : Below w.heap.size w w') : PowsJ w' := Lib.tabBelow_of_tabIs h w' hb

theorem decimal_any (n : Int) (h0 : -9223372036854775808 ≤ n) (h1 : n ≤ 9223372036854775807) (w : World) (htab : PowsJ w) :
    Calls Tryz.prog 37 #[.int .i64 n] w fun e w' => e = .returned (.string (numB n)) ∧ Below w.heap.size w w' := by
  have C : Hid (Calls Tryz.prog 84 #[.int .i64 n, .int .i64 10] w fun e w' => e = .returned (.string (numB n)) ∧ Below w.heap.size w w') := Lib.hid (by
    refine (Any.strconv_FormatInt_10 Tryz.laysFJ n h0 h1 w htab).mono ?_
    rintro e w' ⟨rfl, k, os, rfl⟩
    exact ⟨rfl, Lib.below_grow _ _ (Nat.le_refl _) k os⟩)
  clear htab h0 h1
  generalize numB n = D at *
  go_enter Tryz.func37, Tryz.ntmps37
  go_wp2_with (go_at_call 84; refine C.out.mono ?_; rintro e wx ⟨rfl, hb⟩)
  go_ret
  exact ⟨rfl, hb⟩

theorem insR_has (op : Int) : (insR op).2.2 = true ↔ ((insR op).1 ≠ 0 ∨ (insR op).2.1 ≠ 0) := by
  unfold insR
  repeat' split
  all_goals simp

theorem hasOperand_any (op : Int) (w : World) :
    Calls Tryz.prog 86 #[.int .i64 op] w fun e w' => e = .returned (.bool (insR op).2.2) ∧ Below w.heap.size w w' := by
  have CR := Lib.hid (fun W => operandsOf_any op W)
  have hh := insR_has op
  generalize insR op = R at *
  obtain ⟨lo, hi, b⟩ := R
  simp only at hh CR ⊢
  by_cases h1 : lo = 0
  · by_cases h2 : hi = 0
    · obtain rfl : b = false := by
        cases b with
        | false => rfl
        | true => have := hh.mp rfl; omega
      clear hh
      go_enter Tryz.func86, Tryz.ntmps86
      go_wp2_with (go_at_call 117; refine (CR.out _).mono ?_; rintro e wx ⟨rfl, hb⟩; have HB := Lib.hid hb; clear hb)
      go_ret
      exact ⟨rfl, HB.out⟩
    · obtain rfl : b = true := hh.mpr (Or.inr h2)
      clear hh
      go_enter Tryz.func86, Tryz.ntmps86
      go_wp2_with (go_at_call 117; refine (CR.out _).mono ?_; rintro e wx ⟨rfl, hb⟩; have HB := Lib.hid hb; clear hb)
      go_ret
      exact ⟨rfl, HB.out⟩
  · obtain rfl : b = true := hh.mpr (Or.inl h1)
    clear hh
    go_enter Tryz.func86, Tryz.ntmps86
    go_wp2_with (go_at_call 117; refine (CR.out _).mono ?_; rintro e wx ⟨rfl, hb⟩; have HB := Lib.hid hb; clear hb)
    go_ret
    exact ⟨rfl, HB.out⟩

/-- An instruction's text. -/
def insT (op a : Int) : ByteArray := if (insR op).2.2 = true then opW op ++ ⟨#[32]⟩ ++ numB a else opW op
theorem opB_size : ∀ k, k ≤ 40 → (opB k).size ≤ 8 := by
  intro k h
  have h2 : ∀ j : Fin 41, (opB j.val).size ≤ 8 := by decide +kernel
  exact h2 ⟨k, by omega⟩
theorem opW_size (op : Int) : (opW op).size ≤ 8 := by
  unfold opW
  split
  · exact opB_size _ (by omega)
  · exact Nat.zero_le _
theorem numB_le (n : Int) (h0 : -9223372036854775808 ≤ n) (h1 : n ≤ 9223372036854775807) : (numB n).size ≤ 21 := by
  have := Lib.itoa_length_le n h0 h1
  unfold numB
  simpa [ByteArray.size] using this

/-- The model's, of an instruction in order. -/
theorem l15InsText_any (op a : Int) (h : insV op a = true) (ha0 : -9223372036854775808 ≤ a) (ha1 : a ≤ 9223372036854775807) (w : World) :
    Calls Tryz.prog 82 #[.agg #[.int .i64 op, .int .i64 a]] w fun e w' => e = .returned (.string (insT op a)) ∧ Below w.heap.size w w' := by
  have h2 : 1 ≤ op ∧ op ≤ 40 := by
    unfold insV at h
    simp at h
    exact h.1
  obtain ⟨k, rfl⟩ : ∃ k : Nat, op = (k : Int) + 1 := ⟨(op - 1).toNat, by omega⟩
  have hr : opW ((k : Int) + 1) = opB (k + 1) := opW_at (k + 1) (by omega) (by omega)
  have CH := Lib.hid (fun W => l15Has_any ((k : Int) + 1) W)
  have CD := Lib.hid (fun W => dig15_any a W ha0 ha1)
  have hzB := opB_size (k + 1) (by omega)
  have hzD := numB_le a ha0 ha1
  unfold insT
  rw [hr]
  have hk2 : ((k : Int) < 40) := by omega
  have hk3 : k < 40 := by omega
  have hw1 : IntKind.i64.wrap ((k : Int) + 1 - 1) = (k : Int) := by rw [show (k : Int) + 1 - 1 = (k : Int) by omega]; exact IntWalk.i64_in _ (by omega)
  have hw2 : IntKind.i64.wrap (k : Int) = (k : Int) := IntWalk.i64_in _ (by omega)
  have hk4 : ¬ ((k : Int) < 0) := by omega
  have hk5 : (0 : Int) ≤ (k : Int) := by omega
  clear h h2 hr ha0 ha1
  generalize insR ((k : Int) + 1) = R at *
  obtain ⟨lo, hi, b⟩ := R
  simp only at CH ⊢
  generalize numB a = D at *
  go_enter Tryz.func82, Tryz.ntmps82
  go_wp2_with fail
  go_region_with
    (first
      | (go_at_call 111; refine (l15Words_any _).mono ?_; rintro e wx ⟨rfl, hb, hrow⟩; have hc := hrow k hk3; (try simp at hc); have c0 := keepCell (a := ⟨w.heap.size, 0, none⟩) (v := .int .i64 ((k : Int) + 1)) hb (by go_simp); have c1 := keepCell (a := ⟨w.heap.size, 1, none⟩) (v := .int .i64 a) hb (by go_simp); clear hrow))
  all_goals
    have HB : Hid (Below w.heap.size w wx) := Lib.hid (bnext (by first | exact (below1 _ _).drew | exact below1 _ _) hb)
    clear hb
    cases b with
    | false =>
      go_wp2_with (go_at_call 112; refine (CH.out _).mono ?_; rintro e wh ⟨rfl, rfl⟩)
      go_ret
      exact ⟨rfl, HB.out⟩
    | true =>
      have hz1 : ¬ (9223372036854775807 < 1 + D.size) := by omega
      have hz2 : ¬ (9223372036854775807 < (opB (k + 1)).size + (1 + D.size)) := by omega
      go_wp2_with (first
        | (go_at_call 112; refine (CH.out _).mono ?_; rintro e wh ⟨rfl, rfl⟩)
        | (go_at_call 80; refine (CD.out _).mono ?_; rintro e wd ⟨rfl, hd⟩; have HD := Lib.hid (bnext HB.out hd); clear hd))
      go_ret
      exact ⟨by rw [ByteArray.append_assoc]; rfl, HD.out⟩

/-- The program's. -/
theorem implInsText_any (op a : Int) (ha0 : -9223372036854775808 ≤ a) (ha1 : a ≤ 9223372036854775807) (w : World) (ht : OpTab w) (hp : PowsJ w) :
    Calls Tryz.prog 39 #[.agg #[.int .i64 op, .int .i64 a]] w fun e w' => e = .returned (.string (if insV op a = true then insT op a else ⟨#[]⟩)) ∧ Below w.heap.size w w' := by
  have CI := Lib.hid (fun W (hb : Below w.heap.size w W) => implInsOk_any op a W (ht.keep hb))
  have CH := Lib.hid (fun W => hasOperand_any op W)
  have CO := Lib.hid (fun W (hb : Below w.heap.size w W) => implOpWord_any op W (ht.keep hb))
  have CD := Lib.hid (fun W (hb : Below w.heap.size w W) => decimal_any a ha0 ha1 W (hp.keep hb))
  have hzB := opW_size op
  have hzD := numB_le a ha0 ha1
  unfold insT
  clear ht hp ha0 ha1
  generalize opW op = T at *
  generalize numB a = D at *
  generalize insR op = R at *
  obtain ⟨lo, hi, b⟩ := R
  simp only at CH ⊢
  cases hv : insV op a with
  | false =>
    rw [hv] at CI
    clear hv
    go_enter Tryz.func39, Tryz.ntmps39
    go_wp2_with (first
      | (go_at_call 85; refine (CI.out _ (below1 _ _)).mono ?_; rintro e w1 ⟨rfl, h1⟩; have HB1 := Lib.hid (bnext (below1 _ _) h1); clear h1))
    go_ret
    exact ⟨rfl, HB1.out⟩
  | true =>
    rw [hv] at CI
    clear hv
    cases b with
    | false =>
      go_enter Tryz.func39, Tryz.ntmps39
      go_wp2_with (first
        | (go_at_call 85; refine (CI.out _ (below1 _ _)).mono ?_; rintro e w1 ⟨rfl, h1⟩; have HB1 := Lib.hid (bnext (below1 _ _) h1); have c0 := keepCell (a := ⟨w.heap.size, 0, none⟩) (v := .int .i64 op) h1 (by go_simp); clear h1)
        | (go_at_call 86; refine (CH.out _).mono ?_; rintro e w2 ⟨rfl, h2⟩; have HB2 := Lib.hid (bnext HB1.out h2); have d0 := keepCell h2 c0; clear h2)
        | (go_at_call 87; refine (CO.out _ HB2.out).mono ?_; rintro e w3 ⟨rfl, rfl⟩))
      go_ret
      exact ⟨rfl, HB2.out⟩
    | true =>
      have hz1 : ¬ (9223372036854775807 < T.size + 1) := by omega
      have hz2 : ¬ (9223372036854775807 < T.size + 1 + D.size) := by omega
      go_enter Tryz.func39, Tryz.ntmps39
      go_wp2_with (first
        | (go_at_call 85; refine (CI.out _ (below1 _ _)).mono ?_; rintro e w1 ⟨rfl, h1⟩; have HB1 := Lib.hid (bnext (below1 _ _) h1); have c0 := keepCell (a := ⟨w.heap.size, 0, none⟩) (v := .int .i64 op) h1 (by go_simp); have c1 := keepCell (a := ⟨w.heap.size, 1, none⟩) (v := .int .i64 a) h1 (by go_simp); clear h1)
        | (go_at_call 86; refine (CH.out _).mono ?_; rintro e w2 ⟨rfl, h2⟩; have HB2 := Lib.hid (bnext HB1.out h2); have d0 := keepCell h2 c0; have d1 := keepCell h2 c1; clear h2 c0 c1))
      go_region_held3 (fun w' => w'.cell? ⟨w.heap.size, 0, none⟩ = some (.int .i64 op) ∧ w'.cell? ⟨w.heap.size, 1, none⟩ = some (.int .i64 a) ∧ Below w.heap.size w w')
        (first | assumption | (exact ⟨d0, d1, HB2.out⟩) | (exact ⟨d0, d1, HB2.out.drew⟩) | (exact ⟨e0, e1, HB3⟩))
        (first
          | (go_at_call 87; refine (CO.out _ (by first | exact HB2.out | exact HB2.out.drew | exact HB3)).mono ?_; rintro e w3 ⟨rfl, rfl⟩)
          | (go_at_call 37; refine (CD.out _ (by first | exact HB2.out | exact HB2.out.drew)).mono ?_; rintro e w4 ⟨rfl, h4⟩; have HB3 := bnext (by first | exact HB2.out | exact HB2.out.drew) h4; have e0 := keepCell h4 d0; have e1 := keepCell h4 d1))
      all_goals
        go_wp2_with fail
        go_ret
        exact ⟨rfl, HB3⟩
end Go.Proofs.YtbjcldekapipaaaGreatDoor

