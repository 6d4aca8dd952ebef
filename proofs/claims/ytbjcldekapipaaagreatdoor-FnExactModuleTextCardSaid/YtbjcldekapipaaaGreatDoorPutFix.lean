/-
  Walks of both PutFix.
-/
import Derived.Test.YtbjcldekapipaaaGreatDoorFixMath
import Derived.Test.YtbjcldekapipaaaGreatDoorSpecPutLeb
import Derived.Test.YtbjcldekapipaaaGreatDoorMLf
import Derived.Test.YtbjcldekapipaaaGreatDoorIn
namespace Go.Proofs.YtbjcldekapipaaaGreatDoor
open Go.ChangeShapes Go.WideShapes Go.ChangeAt Go.RowKit

/-- Eight cells of a block, told one by one. -/
def Eight (w : World) (b : Nat) (f : Nat → Int) : Prop := ∀ j, j < 8 → w.cell? ⟨b, j, none⟩ = some (.int .u8 (f j)) ∧ w.frozen? ⟨b, j, none⟩ = false
theorem Eight.new (w : World) (t : TypeId) : Eight (w.alloc (.cells #[.int .u8 0, .int .u8 0, .int .u8 0, .int .u8 0, .int .u8 0, .int .u8 0, .int .u8 0, .int .u8 0] t)) w.heap.size (pd []) := by
  intro j hj
  have h : j = 0 ∨ j = 1 ∨ j = 2 ∨ j = 3 ∨ j = 4 ∨ j = 5 ∨ j = 6 ∨ j = 7 := by omega
  rcases h with rfl | rfl | rfl | rfl | rfl | rfl | rfl | rfl <;> exact ⟨by simp [pd_nil], by go_simp⟩
theorem Eight.set {w : World} {b : Nat} {xs : List Int} (h : Eight w b (pd xs)) (k : Nat) (hk : xs.length = k) (hl : k < 8) (v : Int) : Eight (w.setCell ⟨b, k, none⟩ (.int .u8 v)) b (pd (xs ++ [v])) := by
  intro j hj
  obtain ⟨h1, h2⟩ := h j hj
  obtain ⟨k1, k2⟩ := h k hl
  rw [pd_at, hk]
  by_cases e : j = k
  · subst e
    exact ⟨by rw [if_pos rfl]; exact World.cell?_setCell_same w _ _ k1, by simpa using k2⟩
  · rw [if_neg e]
    have hne : (⟨b, k, none⟩ : Addr) ≠ ⟨b, j, none⟩ := fun he => e (congrArg Addr.off he).symm
    exact ⟨by rw [← h1]; exact World.cell?_setCell_other w _ _ _ hne, by simpa using h2⟩

theorem pow8 (k : Nat) : (2 : Int) ^ (8 * k) = 256 ^ k := by rw [Int.pow_mul]; rfl

set_option maxRecDepth 100000 in
set_option maxHeartbeats 1000000 in
theorem implPutFix_any (n : Int) (many : Nat) (w : World) (hm : many ≤ 8) (_hn0 : -9223372036854775808 ≤ n) (_hn1 : n ≤ 9223372036854775807) :
    Calls Tryz.prog 67 #[.int .i64 n, .int .i64 many] w fun e w' => e = .returned (.string (strOfNums (fixl n many))) ∧ Below w.heap.size w w' := by
  have hmi : (many : Int) ≤ 8 := by omega
  have hb0 : ¬ (many : Int) < 0 := by omega
  have hb1 : ¬ (8 : Int) < (many : Int) := by omega
  go_enter Tryz.func67, Tryz.ntmps67
  go_wp2_with fail
  go_loopw [13] (fun v wr => ∃ k : Nat, k ≤ 8 ∧ v = .int .i64 k ∧ Eight wr w.heap.size (pd (fixl n k)) ∧ Below w.heap.size w wr) (fun v _ => 8 - (intOf v).toNat)
  case atStart => exact ⟨0, by omega, rfl, Eight.new w _, below1 _ _⟩
  case round =>
    obtain ⟨k, hk, rfl, ht, hbel⟩ := hrel
    by_cases hlt : k < 8
    · have hki : (k : Int) < 8 := by omega
      obtain ⟨c1, c2⟩ := ht k hlt
      go_wp2_with fail
      go_roundw
      case rel => exact ⟨k + 1, by omega, by go_num, by rw [pow8]; exact ht.set k (fixl_length n k) hlt _, hbel.setCell (by simp) _⟩
      case measure => simp [intOf]; omega
    · obtain rfl : k = 8 := by omega
      have hcv := run_convert_bytes_arg (P := Tryz.prog) wr 63 5 Tryz.underlying63 Tryz.underlying5 w.heap.size 0 many 8 (fixl n many) (fixl_length n many) (fun i hi => by
        rw [Nat.zero_add, (ht i (by omega)).1, fixl_at n many i hi]; unfold pd; rw [fixl_at n 8 i (by omega)]) 9 Tryz.underlying9
      clear ht
      go_wp2_with fail
      go_ret
      exact ⟨rfl, hbel⟩

set_option maxRecDepth 100000 in
set_option maxHeartbeats 1000000 in
theorem specPutFix_any (n : Int) (many : Nat) (w : World) (hm : many ≤ 8) :
    Calls Tryz.prog 97 #[.int .i64 n, .int .i64 many] w fun e w' => e = .returned (.string (strOfNums (fixl n many))) ∧ Below w.heap.size w w' := by
  obtain ⟨i0, hi0, hz0, hz1, hz2⟩ := info_parts Tryz.infoU8
  have hmi : (many : Int) ≤ 8 := by omega
  go_enter Tryz.func97, Tryz.ntmps97
  go_wp2_with fail
  go_loopw [0, 5, 6] (fun v0 v5 v6 wr => ∃ (k : Nat) (m : Int), k ≤ many ∧ v0 = .int .i64 m ∧ v6 = .int .i64 k ∧ m = n / 256 ^ k ∧ v5 ≠ .slice none 0 0 ∧ wr.ownsRow w.heap.size 5 1 v5 k ((fixl n k).map (Value.int .u8)) ∧ Below w.heap.size w wr) (fun _ _ v6 _ => many - (intOf v6).toNat)
  case atStart => exact ⟨0, n, by omega, rfl, rfl, by simp, by simp, World.ownsRow_made _ _ _ (Nat.le_refl _) (by unfold maxLen; omega) (by simp), below1 _ _⟩
  case round =>
    obtain ⟨k, m, hk, rfl, rfl, hmn, hv, hown, hbel⟩ := hrel
    have HM := Lib.hid hmn
    have hbs := hbel.size
    clear hmn
    by_cases hlt : k < many
    · have hki : (k : Int) < (many : Int) := by omega
      have hand : bits .and .i64 m 255 = m % 256 := i64_and255 _
      go_wp2_with (first | (go_at_call 40; refine (l00In_yes _ _ _ _ (by omega) (by omega)).mono ?_; rintro e w' ⟨rfl, rfl⟩) | (at_builtin; refine wpList_append_lies _ rfl _ _ _ rfl w.heap.size 5 i0 _ 1 1 Tryz.underlying63 hi0 hz0 hz1 hz2 rfl (by omega) u5 k ((fixl n k).map (Value.int .u8)) rfl (hown.alloc _) ⟨wr.heap.size, 0, none⟩ 1 1 [.int .u8 (m % 256)] rfl rfl (World.news_of_block (cs := #[.int .u8 (m % 256)]) (t := 5) (fr := (0, 0)) (heap_alloc_new wr _)) (by simp [Value.oneCell']) (by omega) (by unfold maxLen; omega) (by omega) (by simp; omega) (wr.heap.size + 1) (by simp) ?_; intro gg cap w1 hown1 hgrow hat hlt1))
      have hown2 : w1.ownsRow w.heap.size 5 1 (.slice (some ⟨gg, 0, none⟩) (k + 1) cap) (k + 1) ((fixl n (k + 1)).map (Value.int .u8)) := by
        show w1.ownsRow w.heap.size 5 1 (.slice (some ⟨gg, 0, none⟩) (k + 1) cap) (k + 1) ((fixl n k ++ [n / 256 ^ k % 256]).map (Value.int .u8))
        rw [← own_map_snoc, ← HM.out]; exact hown1
      have hbel2 : Below w.heap.size w w1 := (hbel.alloc hbel.size _).grown hgrow (by simp; omega) (fun g hg => (hown.lt g hg).1)
      have hm2 : Hid (m / 256 = n / 256 ^ (k + 1)) := by
        show m / 256 = n / 256 ^ (k + 1)
        rw [HM.out, Int.pow_succ, Int.ediv_ediv_of_nonneg (Int.pow_nonneg (by decide))]
      clear hown1 hgrow hown hbel hat hlt1
      go_wp2_with fail
      go_roundw
      case rel => exact ⟨k + 1, m / 256, by omega, by go_num, by go_num, hm2.out, by simp, hown2, hbel2⟩
      case measure => simp [intOf]; omega
    · obtain rfl : k = many := by omega
      have hcv := run_convert_own (P := Tryz.prog) wr 63 5 Tryz.underlying63 Tryz.underlying5 w.heap.size u5 _ _ hown hv 9 Tryz.underlying9
      clear hown hv
      go_wp2_with fail
      go_ret
      exact ⟨rfl, hbel⟩
end Go.Proofs.YtbjcldekapipaaaGreatDoor
