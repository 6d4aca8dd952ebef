/-
  Walks of strings.IndexRune at the sixteen digits: a rune's place among them, or -1.
-/
import Derived.Test.YthdnklhaagofhaaBase
import Derived.Ground.NamesProg
import Derived.Shelf.Lay
import Derived.Shelf.Strings.Runes
import Derived.Laws.Runes
import Derived.Laws.RangeString
import Derived.Lib.IndexBytes
import Derived.Deep.LoopGhost
import Derived.Deep.RegionWith
import Derived.WalkMore
import Derived.Lib.SmallJoins
namespace Go.Proofs
open Go.Shelf
def Try.laysIR_ren : Go.Shelf.Ren := ⟨fun | 152 => 71 | 137 => 112 | 119 => 113 | 224 => 114 | 225 => 115 | 217 => 144 | 266 => 171 | n => n, fun | 9 => 9 | 21 => 21 | 3 => 3 | 4 => 4 | 5 => 5 | 0 => 0 | 46 => 98 | n => n, fun | n => n⟩
theorem Try.laysIR : Go.Proofs.Lays.n152 Try.prog Try.laysIR_ren := {
  mixed := by kernel_rfl
  f119 := Try.func113.trans (congrArg some (by kernel_rfl))
  f137 := Try.func112.trans (congrArg some (by kernel_rfl))
  f152 := Try.func71.trans (congrArg some (by kernel_rfl))
  f217 := Try.func144.trans (congrArg some (by kernel_rfl))
  f224 := Try.func114.trans (congrArg some (by kernel_rfl))
  f225 := Try.func115.trans (congrArg some (by kernel_rfl))
  f266 := Try.func171.trans (congrArg some (by kernel_rfl))
  t0 := Try.underlying0
  a0 := Try.isAgg0
  z0 := Try.sizeOf0
  v0 := Try.zeroValue0
  t3 := Try.underlying3
  a3 := Try.isAgg3
  z3 := Try.sizeOf3
  v3 := Try.zeroValue3
  t4 := Try.underlying4
  a4 := Try.isAgg4
  z4 := Try.sizeOf4
  v4 := Try.zeroValue4
  t5 := Try.underlying5
  a5 := Try.isAgg5
  z5 := Try.sizeOf5
  v5 := Try.zeroValue5
  t9 := Try.underlying9
  a9 := Try.isAgg9
  z9 := Try.sizeOf9
  v9 := Try.zeroValue9
  t21 := Try.underlying21
  a21 := Try.isAgg21
  z21 := Try.sizeOf21
  v21 := Try.zeroValue21
  t46 := Try.underlying98
  a46 := Try.isAgg98
  z46 := Try.sizeOf98
  v46 := Try.zeroValue98 }
def Try.laysIB_ren : Go.Shelf.Ren := ⟨fun | 137 => 112 | 217 => 144 | 266 => 171 | n => n, fun | 9 => 9 | 5 => 5 | 3 => 3 | n => n, fun | n => n⟩
theorem Try.laysIB : Go.Proofs.Lays.n137 Try.prog Try.laysIB_ren := {
  mixed := by kernel_rfl
  f137 := Try.func112.trans (congrArg some (by kernel_rfl))
  f217 := Try.func144.trans (congrArg some (by kernel_rfl))
  f266 := Try.func171.trans (congrArg some (by kernel_rfl))
  t3 := Try.underlying3
  a3 := Try.isAgg3
  z3 := Try.sizeOf3
  v3 := Try.zeroValue3
  t5 := Try.underlying5
  a5 := Try.isAgg5
  z5 := Try.sizeOf5
  v5 := Try.zeroValue5
  t9 := Try.underlying9
  a9 := Try.isAgg9
  z9 := Try.sizeOf9
  v9 := Try.zeroValue9 }
end Go.Proofs
namespace Go.Proofs.Ythdnklhaagofhaa
open Go.ChangeShapes Go.WideShapes Go.ChangeAt Go.RowKit

/-- The sixteen digits. -/
def hexC : ByteArray := ⟨#[48, 49, 50, 51, 52, 53, 54, 55, 56, 57, 97, 98, 99, 100, 101, 102]⟩
/-- A digit's value; 16: it is none. -/
def hv (c : Int) : Int := if 48 ≤ c ∧ c ≤ 57 then c - 48 else if 97 ≤ c ∧ c ≤ 102 then c - 87 else 16
/-- A rune's place among the digits. -/
def hix (r : Int) : Int := if hv r ≤ 15 then hv r else -1

set_option maxRecDepth 100000 in
theorem hix_ascii : ∀ r : Fin 128, Lib.indexByte hexC.data.toList ((r.val : Int).toNat.toUInt8) = hix (r.val : Int) := by decide

theorem hix_high (r : Int) (h : 128 ≤ r) : hix r = -1 := by
  have h2 : hv r = 16 := by
    unfold hv
    rw [if_neg (by omega), if_neg (by omega)]
  unfold hix
  rw [h2]
  rfl

theorem hexC_low : ∀ b ∈ hexC.data.toList, b.toNat < 128 := by decide
theorem hexC_at (pos : Nat) (h : pos < 16) : (hexC[pos]'h).toNat < 128 := hexC_low _ (Array.getElem_mem_toList (xs := hexC.data) h)

theorem ir_ascii (r : Int) (h0 : 0 ≤ r) (h1 : r < 128) (w : World) :
    Calls Try.prog 71 #[.string hexC, .int .i32 r] w fun e w' => e = .returned (.int .i64 (hix r)) ∧ w = w' := by
  refine (Any.strings_IndexRune_ascii { Try.laysIR with } hexC r w h0 h1).mono ?_
  rintro e w' ⟨rfl, rfl⟩
  have := hix_ascii ⟨r.toNat, by omega⟩
  simp only [Int.toNat_of_nonneg h0] at this
  exact ⟨by rw [this], rfl⟩

theorem ownDrewN {B : Nat} {a w : World} (h : Below B a w) (n : Nat) : Below B a (w.drewN n) := ⟨h.os, h.tape, h.output, h.size, h.block⟩

theorem validRune_yes (r : Int) (h : (0 ≤ r ∧ r < 55296) ∨ (57343 < r ∧ r ≤ 1114111)) (w : World) :
    Calls Try.prog 113 #[.int .i32 r] w fun e w' => e = .returned (.bool true) ∧ w = w' := by
  rcases h with ⟨h1, h2⟩ | ⟨h1, h2⟩
  · go_enter Try.func113, Try.ntmps113
    go_wp2
    go_ret
    exact ⟨rfl, rfl⟩
  · have h3 : 0 ≤ r := by omega
    have h4 : ¬ r < 55296 := by omega
    go_enter Try.func113, Try.ntmps113
    go_wp2
    go_ret
    exact ⟨rfl, rfl⟩

theorem validRune_no (r : Int) (h0 : 0 ≤ r) (h : ¬ ((0 ≤ r ∧ r < 55296) ∨ (57343 < r ∧ r ≤ 1114111))) (w : World) :
    Calls Try.prog 113 #[.int .i32 r] w fun e w' => e = .returned (.bool false) ∧ w = w' := by
  have h4 : ¬ r < 55296 := by omega
  by_cases h5 : 57343 < r
  · have h6 : ¬ r ≤ 1114111 := by omega
    clear h
    go_enter Try.func113, Try.ntmps113
    go_wp2
    go_ret
    exact ⟨rfl, rfl⟩
  · clear h
    go_enter Try.func113, Try.ntmps113
    go_wp2
    go_ret
    exact ⟨rfl, rfl⟩

set_option maxRecDepth 100000 in
theorem ir_error (w : World) :
    Calls Try.prog 71 #[.string hexC, .int .i32 65533] w fun e w' => e = .returned (.int .i64 (-1)) ∧ Below w.heap.size w w' := by
  go_enter Try.func71, Try.ntmps71
  go_wp2_with fail
  go_loopg [] 16 (fun gf wz => ∃ pos : Nat, wz = w.iter hexC pos ∧ pos ≤ 16 ∧ 16 ≤ pos + gf)
  case atStart => exact ⟨0, rfl, by omega, by omega⟩
  case round =>
    obtain ⟨pos, rfl, hps, hfu⟩ := hrel
    by_cases hlt : pos < 16
    · obtain ⟨g', rfl⟩ : ∃ g', gk = g' + 1 := ⟨gk - 1, by omega⟩
      have ha := hexC_at pos hlt
      have hnx := fun ty => run_next_ascii (P := Try.prog) w hexC pos ty hlt ha
      obtain ⟨c, hc⟩ : ∃ c : Int, (((hexC[pos]'hlt).toNat : Nat) : Int) = c := ⟨_, rfl⟩
      rw [hc] at hnx
      have hb : (c == 65533) = false := by rw [beq_eq_false_iff_ne]; omega
      clear hc ha
      go_wp2_with fail
      go_roundg g'
      case measure => omega
      case rel => exact ⟨pos + 1, rfl, by omega, by omega⟩
    · obtain rfl : pos = 16 := by omega
      have hnx := fun ty => run_next_end (P := Try.prog) w hexC 16 ty hlt
      go_wp2_with fail
      go_ret
      exact ⟨rfl, below1 _ _⟩

set_option maxRecDepth 100000 in
theorem ir_invalid (r : Int) (h0 : 128 ≤ r) (h1 : r ≠ 65533) (hv : ¬ ((0 ≤ r ∧ r < 55296) ∨ (57343 < r ∧ r ≤ 1114111))) (w : World) :
    Calls Try.prog 71 #[.string hexC, .int .i32 r] w fun e w' => e = .returned (.int .i64 (-1)) ∧ Below w.heap.size w w' := by
  have CV : Hid (∀ W : World, Calls Try.prog 113 #[.int .i32 r] W fun e w' => e = .returned (.bool false) ∧ W = w') := Lib.hid (fun W => validRune_no r (by omega) hv W)
  have hb : (r == 65533) = false := beq_eq_false_iff_ne.mpr h1
  have h2 : ¬ r < 128 := by omega
  clear hv h1
  go_enter Try.func71, Try.ntmps71
  go_wp2_with (go_at_call 113; refine (CV.out _).mono ?_; rintro e wx ⟨rfl, rfl⟩)
  go_ret
  exact ⟨rfl, Below.refl _ _⟩

theorem ib_none (a : Nat) (y : UInt8) (hy : 128 ≤ y.toNat) : Lib.indexByte (hexC.extract a 16).data.toList y = -1 := by
  have hn : ∀ l : List UInt8, (∀ b ∈ l, b.toNat < 128) → Lib.indexByte l y = -1 := by
    intro l hl
    induction l with
    | nil => rfl
    | cons b l ih =>
      have hb : (b == y) = false := beq_eq_false_iff_ne.mpr (fun e => by have := hl b (by simp); rw [e] at this; omega)
      rw [Lib.indexByte, hb, ih (fun c hc => hl c (by simp [hc]))]
      rfl
  exact hn _ (fun b hb => hexC_low b (mem_extract hb))

set_option maxRecDepth 100000 in
set_option maxHeartbeats 1000000 in
theorem ir_default2 (r : Int) (rs : ByteArray) (h0 : 128 ≤ r) (h1 : r ≠ 65533) (hv : (0 ≤ r ∧ r < 55296) ∨ (57343 < r ∧ r ≤ 1114111)) (he : Utf8.encode r = rs) (hs : rs.size = 2) (hl : 128 ≤ (rs[1]'(by omega)).toNat) (w : World) :
    Calls Try.prog 71 #[.string hexC, .int .i32 r] w fun e w' => e = .returned (.int .i64 (-1)) ∧ Below w.heap.size w w' := by
  have CV : Hid (∀ W : World, Calls Try.prog 113 #[.int .i32 r] W fun e w' => e = .returned (.bool true) ∧ W = w') := Lib.hid (fun W => validRune_yes r hv W)
  have CB : Hid (∀ W : World, Calls Try.prog 112 #[.string (hexC.extract 2 16), .int .u8 ((rs[1]'(by omega)).toNat : Int)] W fun e w' => e = .returned (.int .i64 (-1)) ∧ W = w') := by
    refine Lib.hid (fun W => (Any.strings_IndexByte { Try.laysIB with } (hexC.extract 2 16) ((rs[1]'(by omega)).toNat : Int) W).mono ?_)
    rintro e w' ⟨rfl, rfl⟩
    refine ⟨?_, rfl⟩
    rw [Lib.byte_back, ib_none _ _ hl]
  have hR : ∀ W, (Instr.index 9 (.string rs) (.int .i64 1)).run Try.prog W = .ok (.int .u8 ((rs[1]'(by omega)).toNat : Int)) W := by
    intro W
    rw [run_index_string W _ _ _ _ Try.underlying9, dif_pos ⟨by omega, by rw [hs]; omega⟩]
    rfl
  have hI : ∀ W, (Instr.index 9 (.string hexC) (.int .i64 1)).run Try.prog W = .ok (.int .u8 49) W := by
    intro W
    rw [run_index_string W _ _ _ _ Try.underlying9, dif_pos ⟨by omega, by show (1 : Int) < ((16 : Nat) : Int); omega⟩]
    rfl
  have hy : 128 ≤ ((rs[1]'(by omega)).toNat : Int) := by omega
  generalize ((rs[1]'(by omega)).toNat : Int) = y at *
  have hz : hexC.size = 16 := rfl
  have hb : (r == 65533) = false := beq_eq_false_iff_ne.mpr h1
  have hne : ((49 : Int) != y) = true := by rw [bne_iff_ne]; omega
  have h2 : ¬ r < 128 := by omega
  clear hv h1 hl
  go_enter Try.func71, Try.ntmps71
  go_wp2_with (go_at_call 113; (with_reducible refine (CV.out _).mono ?_); rintro e wx ⟨rfl, rfl⟩)
  go_step3
  go_wp2_with fail
  go_loopg [9] 1 (fun gf s9 wz => s9 = .int .i64 1 ∧ wz = w)
  case atStart => exact ⟨rfl, rfl⟩
  case round =>
    obtain ⟨rfl, rfl⟩ := hrel
    go_wp2_with fail
    go_step3
    go_wp2_with fail
    go_quiet (fail)
    go_wp2_with fail
    go_region_with (go_at_call 112; (with_reducible refine (CB.out _).mono ?_); rintro e wy ⟨rfl, rfl⟩)
    all_goals
      go_wp2_with fail
      simp only [Exit.noGoto_ret, go_sem]
      go_ret
      exact ⟨rfl, (ownDrewN (Below.refl _ _) _).drew⟩

set_option maxRecDepth 100000 in
set_option maxHeartbeats 1000000 in
theorem ir_default3 (r : Int) (rs : ByteArray) (h0 : 128 ≤ r) (h1 : r ≠ 65533) (hv : (0 ≤ r ∧ r < 55296) ∨ (57343 < r ∧ r ≤ 1114111)) (he : Utf8.encode r = rs) (hs : rs.size = 3) (hl : 128 ≤ (rs[2]'(by omega)).toNat) (w : World) :
    Calls Try.prog 71 #[.string hexC, .int .i32 r] w fun e w' => e = .returned (.int .i64 (-1)) ∧ Below w.heap.size w w' := by
  have CV : Hid (∀ W : World, Calls Try.prog 113 #[.int .i32 r] W fun e w' => e = .returned (.bool true) ∧ W = w') := Lib.hid (fun W => validRune_yes r hv W)
  have CB : Hid (∀ W : World, Calls Try.prog 112 #[.string (hexC.extract 3 16), .int .u8 ((rs[2]'(by omega)).toNat : Int)] W fun e w' => e = .returned (.int .i64 (-1)) ∧ W = w') := by
    refine Lib.hid (fun W => (Any.strings_IndexByte { Try.laysIB with } (hexC.extract 3 16) ((rs[2]'(by omega)).toNat : Int) W).mono ?_)
    rintro e w' ⟨rfl, rfl⟩
    refine ⟨?_, rfl⟩
    rw [Lib.byte_back, ib_none _ _ hl]
  have hR : ∀ W, (Instr.index 9 (.string rs) (.int .i64 2)).run Try.prog W = .ok (.int .u8 ((rs[2]'(by omega)).toNat : Int)) W := by
    intro W
    rw [run_index_string W _ _ _ _ Try.underlying9, dif_pos ⟨by omega, by rw [hs]; omega⟩]
    rfl
  have hI : ∀ W, (Instr.index 9 (.string hexC) (.int .i64 2)).run Try.prog W = .ok (.int .u8 50) W := by
    intro W
    rw [run_index_string W _ _ _ _ Try.underlying9, dif_pos ⟨by omega, by show (2 : Int) < ((16 : Nat) : Int); omega⟩]
    rfl
  have hy : 128 ≤ ((rs[2]'(by omega)).toNat : Int) := by omega
  generalize ((rs[2]'(by omega)).toNat : Int) = y at *
  have hz : hexC.size = 16 := rfl
  have hb : (r == 65533) = false := beq_eq_false_iff_ne.mpr h1
  have hne : ((50 : Int) != y) = true := by rw [bne_iff_ne]; omega
  have h2 : ¬ r < 128 := by omega
  clear hv h1 hl
  go_enter Try.func71, Try.ntmps71
  go_wp2_with (go_at_call 113; (with_reducible refine (CV.out _).mono ?_); rintro e wx ⟨rfl, rfl⟩)
  go_step3
  go_wp2_with fail
  go_loopg [9] 1 (fun gf s9 wz => s9 = .int .i64 2 ∧ wz = w)
  case atStart => exact ⟨rfl, rfl⟩
  case round =>
    obtain ⟨rfl, rfl⟩ := hrel
    go_wp2_with fail
    go_step3
    go_wp2_with fail
    go_quiet (fail)
    go_wp2_with fail
    go_region_with (go_at_call 112; (with_reducible refine (CB.out _).mono ?_); rintro e wy ⟨rfl, rfl⟩)
    all_goals
      go_wp2_with fail
      simp only [Exit.noGoto_ret, go_sem]
      go_ret
      exact ⟨rfl, (ownDrewN (Below.refl _ _) _).drew⟩

set_option maxRecDepth 100000 in
set_option maxHeartbeats 1000000 in
theorem ir_default4 (r : Int) (rs : ByteArray) (h0 : 128 ≤ r) (h1 : r ≠ 65533) (hv : (0 ≤ r ∧ r < 55296) ∨ (57343 < r ∧ r ≤ 1114111)) (he : Utf8.encode r = rs) (hs : rs.size = 4) (hl : 128 ≤ (rs[3]'(by omega)).toNat) (w : World) :
    Calls Try.prog 71 #[.string hexC, .int .i32 r] w fun e w' => e = .returned (.int .i64 (-1)) ∧ Below w.heap.size w w' := by
  have CV : Hid (∀ W : World, Calls Try.prog 113 #[.int .i32 r] W fun e w' => e = .returned (.bool true) ∧ W = w') := Lib.hid (fun W => validRune_yes r hv W)
  have CB : Hid (∀ W : World, Calls Try.prog 112 #[.string (hexC.extract 4 16), .int .u8 ((rs[3]'(by omega)).toNat : Int)] W fun e w' => e = .returned (.int .i64 (-1)) ∧ W = w') := by
    refine Lib.hid (fun W => (Any.strings_IndexByte { Try.laysIB with } (hexC.extract 4 16) ((rs[3]'(by omega)).toNat : Int) W).mono ?_)
    rintro e w' ⟨rfl, rfl⟩
    refine ⟨?_, rfl⟩
    rw [Lib.byte_back, ib_none _ _ hl]
  have hR : ∀ W, (Instr.index 9 (.string rs) (.int .i64 3)).run Try.prog W = .ok (.int .u8 ((rs[3]'(by omega)).toNat : Int)) W := by
    intro W
    rw [run_index_string W _ _ _ _ Try.underlying9, dif_pos ⟨by omega, by rw [hs]; omega⟩]
    rfl
  have hI : ∀ W, (Instr.index 9 (.string hexC) (.int .i64 3)).run Try.prog W = .ok (.int .u8 51) W := by
    intro W
    rw [run_index_string W _ _ _ _ Try.underlying9, dif_pos ⟨by omega, by show (3 : Int) < ((16 : Nat) : Int); omega⟩]
    rfl
  have hy : 128 ≤ ((rs[3]'(by omega)).toNat : Int) := by omega
  generalize ((rs[3]'(by omega)).toNat : Int) = y at *
  have hz : hexC.size = 16 := rfl
  have hb : (r == 65533) = false := beq_eq_false_iff_ne.mpr h1
  have hne : ((51 : Int) != y) = true := by rw [bne_iff_ne]; omega
  have h2 : ¬ r < 128 := by omega
  clear hv h1 hl
  go_enter Try.func71, Try.ntmps71
  go_wp2_with (go_at_call 113; (with_reducible refine (CV.out _).mono ?_); rintro e wx ⟨rfl, rfl⟩)
  go_step3
  go_wp2_with fail
  go_loopg [9] 1 (fun gf s9 wz => s9 = .int .i64 3 ∧ wz = w)
  case atStart => exact ⟨rfl, rfl⟩
  case round =>
    obtain ⟨rfl, rfl⟩ := hrel
    go_wp2_with fail
    go_step3
    go_wp2_with fail
    go_quiet (fail)
    go_wp2_with fail
    go_region_with (go_at_call 112; (with_reducible refine (CB.out _).mono ?_); rintro e wy ⟨rfl, rfl⟩)
    all_goals
      go_wp2_with fail
      simp only [Exit.noGoto_ret, go_sem]
      go_ret
      exact ⟨rfl, (ownDrewN (Below.refl _ _) _).drew⟩
end Go.Proofs.Ythdnklhaagofhaa
