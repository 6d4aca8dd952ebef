/-
  Walks of both PutHex. The string has at most 2^20 bytes: the law itself asks it.
-/
import Derived.Test.YthdnklhaagofhaaU8
import Derived.Test.YthdnklhaagofhaaHexMath
import Derived.Deep.RegionHeld3
import Derived.Deep.AppendLies
namespace Go.Proofs.Ythdnklhaagofhaa
open Go.ChangeShapes Go.WideShapes Go.ChangeAt Go.RowKit

/-- The table of the digits, as the Go text spells it. -/
theorem run_hexDigits (n : Int) (h0 : 0 ≤ n) (h1 : n < 16) : ∀ W, (Instr.index 9 (.string ⟨#[48, 49, 50, 51, 52, 53, 54, 55, 56, 57, 97, 98, 99, 100, 101, 102]⟩) (.int .u8 n)).run Try.prog W = .ok (.int .u8 (hexd n)) W := by
  intro W
  rw [run_index_string W _ _ _ _ Try.underlying9, dif_pos ⟨h0, h1⟩]
  have h : n = 0 ∨ n = 1 ∨ n = 2 ∨ n = 3 ∨ n = 4 ∨ n = 5 ∨ n = 6 ∨ n = 7 ∨ n = 8 ∨ n = 9 ∨ n = 10 ∨ n = 11 ∨ n = 12 ∨ n = 13 ∨ n = 14 ∨ n = 15 := by omega
  rcases h with rfl | rfl | rfl | rfl | rfl | rfl | rfl | rfl | rfl | rfl | rfl | rfl | rfl | rfl | rfl | rfl <;> rfl

set_option maxRecDepth 100000 in
set_option maxHeartbeats 1000000 in
theorem implPutHex_any (s : ByteArray) (w : World) (hs : s.size ≤ 1048576) :
    Calls Try.prog 21 #[.string s] w fun e w' => e = .returned (.string (strOfNums (hexl s.data.toList))) ∧ Below w.heap.size w w' := by
  obtain ⟨i0, hi0, hz0, hz1, hz2⟩ := info_parts Try.infoU8
  have hmx0 : (s.size : Int) ≤ 4294967296 := by omega
  have HS := Lib.hid hs
  clear hs
  go_enter Try.func21, Try.ntmps21
  go_wp2_with (at_make; refine wpList_make_own _ rfl (.const (.int .i64 0)) (.tmp 7) 22 rfl w.heap.size 5 i0 _ 1 Try.underlying22 hi0 hz0 hz1 .i64 .i64 _ (2 * s.size) rfl rfl (by omega) (by rw [hz2]; have := HS.out; omega) (by have := HS.out; unfold maxLen; omega) (Nat.le_refl _) ?_; intro w1 hown0 hgrow0)
  have hbel0 : Below w.heap.size w w1 := (Below.refl _ _).grown hgrow0 (Nat.le_refl _) (fun _ h => by cases h)
  clear hgrow0
  go_loopw [3, 11] (fun v i wr => ∃ k : Nat, k ≤ s.size ∧ i = .int .i64 k ∧ v ≠ .slice none 0 0 ∧ wr.ownsRow w.heap.size 5 1 v (2 * k) ((hexl (s.data.toList.take k)).map (Value.int .u8)) ∧ Below w.heap.size w wr) (fun _ i _ => s.size - (intOf i).toNat)
  case atStart => exact ⟨0, Nat.zero_le _, rfl, by simp, hown0, hbel0⟩
  case round =>
    obtain ⟨k, hk, rfl, hv, hown, hbel⟩ := hrel
    clear hown0 hbel0
    by_cases hlt : k < s.size
    · have hx0 : 0 ≤ ((s[k].toNat : Nat) : Int) := by omega
      have hx1 : ((s[k].toNat : Nat) : Int) < 256 := by have := s[k].toNat_lt; omega
      have hand := u8_and15' _ hx0 hx1
      have hd1 := run_hexDigits ((s[k].toNat : Int) / 16) (by omega) (by omega)
      have hd2 := run_hexDigits ((s[k].toNat : Int) % 16) (by omega) (by omega)
      have hki : (k : Int) < (s.size : Int) := by omega
      have hmx : (k : Int) ≤ 4294967296 := by omega
      go_wp2_with fail
      go_region_held3 (fun _ => True) (trivial)
        (first
          | (refine step_append_lies _ (by rfl) _ _ _ (by rfl) w.heap.size 5 i0 _ 1 1 Try.underlying22 hi0 hz0 hz1 hz2 rfl (by omega) u3 (2 * k) ((hexl (s.data.toList.take k)).map (Value.int .u8)) (by rfl) ((hown.alloc _).drew) ⟨wr.heap.size, 0, none⟩ 2 2 [.int .u8 (hexd ((s[k].toNat : Int) / 16)), .int .u8 (hexd ((s[k].toNat : Int) % 16))] (by rfl) (by rfl) (World.news_of_block (cs := #[.int .u8 (hexd ((s[k].toNat : Int) / 16)), .int .u8 (hexd ((s[k].toNat : Int) % 16))]) (t := 5) (fr := (0, 0)) (heap_alloc_new wr _)) (by simp [Value.oneCell']) (by omega) (by have := HS.out; unfold maxLen; omega) (by have := HS.out; omega) (by simp; have := hbel.size; omega) (wr.heap.size + 1) (by simp) ?_; intro gg cap w1 hown1 hgrow hat hlt1))
      all_goals
        have hown2 : w1.ownsRow w.heap.size 5 1 (.slice (some ⟨gg, 0, none⟩) (2 * k + 2) cap) (2 * (k + 1)) ((hexl (s.data.toList.take (k + 1))).map (Value.int .u8)) := by
          rw [take_snoc s k hlt, hexl_snoc, ← own_map_snoc2]; exact hown1
        have hbel2 : Below w.heap.size w w1 := ((hbel.alloc hbel.size _).drew).grown hgrow (by simp; have := hbel.size; omega) (fun g hg => (hown.lt g hg).1)
        clear hown1 hgrow hown hbel hat hlt1
        go_wp2_with fail
        go_roundw
        case rel => exact ⟨k + 1, by omega, by go_num, by simp, hown2, hbel2⟩
        case measure => simp [intOf]; omega
    · obtain rfl : k = s.size := by omega
      have hall : s.data.toList.take s.size = s.data.toList := List.take_of_length_le (by simp)
      rw [hall] at hown
      have hcv := run_convert_own (P := Try.prog) wr 22 5 Try.underlying22 Try.underlying5 w.heap.size u3 _ _ hown hv 9 Try.underlying9
      clear hall hown hv
      go_wp2_with fail
      go_ret
      exact ⟨rfl, hbel⟩
end Go.Proofs.Ythdnklhaagofhaa
