/-
  Walks of the model's PutLeb and PutSleb. The numbers are int64.
-/
import Derived.Test.YtbjcldekapipaaaGreatDoorU8
import Derived.Test.YtbjcldekapipaaaGreatDoorOwn
import Derived.Test.YtbjcldekapipaaaGreatDoorLeb
namespace Go.Proofs.YtbjcldekapipaaaGreatDoor
open Go.ChangeShapes Go.WideShapes Go.ChangeAt Go.RowKit


set_option maxRecDepth 100000 in
set_option maxHeartbeats 1000000 in
theorem specPutLeb_any (n : Nat) (w : World) (hn : (n : Int) ≤ 9223372036854775807) :
    Calls Tryz.prog 51 #[.int .i64 n] w fun e w' => e = .returned (.string (strOfNums (lebU n))) ∧ Below w.heap.size w w' := by
  obtain ⟨i0, hi0, hz0, hz1, hz2⟩ := info_parts Tryz.infoU8
  go_enter Tryz.func51, Tryz.ntmps51
  go_wp2_with fail
  go_loopw [0, 3] (fun v0 v3 wr => ∃ (xs : List Int) (m : Nat), v0 = .int .i64 m ∧ v3 ≠ .slice none 0 0 ∧ m ≤ n ∧ xs ++ lebU m = lebU n ∧ wr.ownsRow w.heap.size 5 1 v3 xs.length (xs.map (Value.int .u8)) ∧ Below w.heap.size w wr) (fun v0 _ _ => (intOf v0).toNat)
  case atStart => exact ⟨[], n, rfl, by simp, by omega, by simp, World.ownsRow_made _ _ _ (Nat.le_refl _) (by unfold maxLen; omega) (by simp), below1 _ _⟩
  case round =>
    obtain ⟨xs, m, rfl, hv, hmn, hx, hown, hbel⟩ := hrel
    have HX := Lib.hid hx
    have hlen : xs.length ≤ 9 := by
      have h1 := lebU_pos m
      have h2 := lebU_length 9 n (by omega)
      have h3 := congrArg List.length hx
      simp at h3
      omega
    have hbs := hbel.size
    clear hx
    by_cases hm : 128 ≤ m
    · have hmi : (127 : Int) < (m : Int) := by omega
      have hand : bits .and .i64 (m : Int) 127 = (m : Int) % 128 := i64_and127 _
      go_wp2_with (at_builtin; refine wpList_append_lies _ rfl _ _ _ rfl w.heap.size 5 i0 _ 1 1 Tryz.underlying63 hi0 hz0 hz1 hz2 rfl (by omega) u3 xs.length (xs.map (Value.int .u8)) rfl (hown.alloc _) ⟨wr.heap.size, 0, none⟩ 1 1 [.int .u8 (((m % 128 + 128 : Nat) : Int))] rfl rfl (World.news_of_block (cs := #[.int .u8 (((m % 128 + 128 : Nat) : Int))]) (t := 5) (fr := (0, 0)) (heap_alloc_new wr _)) (by simp [Value.oneCell']) (by omega) (by unfold maxLen; omega) (by omega) (by simp; omega) (wr.heap.size + 1) (by simp) ?_; intro gg cap w1 hown1 hgrow hat hlt1)
      have hown2 : w1.ownsRow w.heap.size 5 1 (.slice (some ⟨gg, 0, none⟩) (xs.length + 1) cap) (xs ++ [((m % 128 + 128 : Nat) : Int)]).length ((xs ++ [((m % 128 + 128 : Nat) : Int)]).map (Value.int .u8)) := by
        rw [← own_map_snoc]; simpa using hown1
      have hbel2 : Below w.heap.size w w1 := (hbel.alloc hbel.size _).grown hgrow (by simp; omega) (fun g hg => (hown.lt g hg).1)
      clear hown1 hgrow hown hbel hat hlt1
      go_wp2_with fail
      go_roundw
      case rel =>
        refine ⟨xs ++ [((m % 128 + 128 : Nat) : Int)], m / 128, by go_num, by simp, by omega, ?_, hown2, hbel2⟩
        rw [← HX.out, lebU_big m hm]; simp
      case measure => simp [intOf]; omega
    · have hmi : ¬ (127 : Int) < (m : Int) := by omega
      skip
      have hxx : xs ++ [(m : Int)] = lebU n := by rw [← HX.out, lebU_small m (by omega)]
      have HXX := Lib.hid hxx
      clear hxx
      go_wp2_with (at_builtin; refine wpList_append_lies _ rfl _ _ _ rfl w.heap.size 5 i0 _ 1 1 Tryz.underlying63 hi0 hz0 hz1 hz2 rfl (by omega) u3 xs.length (xs.map (Value.int .u8)) rfl (hown.alloc _) ⟨wr.heap.size, 0, none⟩ 1 1 [.int .u8 ((m : Int))] rfl rfl (World.news_of_block (cs := #[.int .u8 ((m : Int))]) (t := 5) (fr := (0, 0)) (heap_alloc_new wr _)) (by simp [Value.oneCell']) (by omega) (by unfold maxLen; omega) (by omega) (by simp; omega) (wr.heap.size + 1) (by simp) ?_; intro gg cap w1 hown1 hgrow hat hlt1; rw [own_map_snoc, HXX.out] at hown1; have hcv := run_convert_own (P := Tryz.prog) w1 63 5 Tryz.underlying63 Tryz.underlying5 w.heap.size _ _ _ hown1 (by simp) 9 Tryz.underlying9)
      have hbel2 : Below w.heap.size w w1 := (hbel.alloc hbel.size _).grown hgrow (by simp; omega) (fun g hg => (hown.lt g hg).1)
      go_ret
      exact ⟨rfl, hbel2⟩

set_option maxRecDepth 100000 in
set_option maxHeartbeats 1000000 in
theorem specPutSleb_any (n : Int) (w : World) (hn0 : -9223372036854775808 ≤ n) (hn : n ≤ 9223372036854775807) :
    Calls Tryz.prog 130 #[.int .i64 n] w fun e w' => e = .returned (.string (strOfNums (lebS n))) ∧ Below w.heap.size w w' := by
  obtain ⟨i0, hi0, hz0, hz1, hz2⟩ := info_parts Tryz.infoU8
  go_enter Tryz.func130, Tryz.ntmps130
  go_wp2_with fail
  go_loopw [0, 3] (fun v0 v3 wr => ∃ (xs : List Int) (m : Int), v0 = .int .i64 m ∧ v3 ≠ .slice none 0 0 ∧ ((0 ≤ n → 0 ≤ m ∧ m ≤ n) ∧ (n < 0 → n ≤ m ∧ m < 0)) ∧ xs ++ lebS m = lebS n ∧ wr.ownsRow w.heap.size 5 1 v3 xs.length (xs.map (Value.int .u8)) ∧ Below w.heap.size w wr) (fun v0 _ _ => (intOf v0).natAbs)
  case atStart => exact ⟨[], n, rfl, by simp, by omega, by simp, World.ownsRow_made _ _ _ (Nat.le_refl _) (by unfold maxLen; omega) (by simp), below1 _ _⟩
  case round =>
    obtain ⟨xs, m, rfl, hv, hmn, hx, hown, hbel⟩ := hrel
    have HX := Lib.hid hx
    have hlen : xs.length ≤ 9 := by
      have h1 := lebS_pos m
      have h2 := lebS_length 9 n (by omega) (by omega)
      have h3 := congrArg List.length hx
      simp at h3
      omega
    have hbs := hbel.size
    clear hx
    by_cases hm : m < -64 ∨ 64 ≤ m
    · by_cases hA : m < -64
      · have hand : bits .and .i64 m 127 = m % 128 := i64_and127 _
        go_wp2_with (at_builtin; refine wpList_append_lies _ rfl _ _ _ rfl w.heap.size 5 i0 _ 1 1 Tryz.underlying63 hi0 hz0 hz1 hz2 rfl (by omega) u3 xs.length (xs.map (Value.int .u8)) rfl (hown.alloc _) ⟨wr.heap.size, 0, none⟩ 1 1 [.int .u8 (m % 128 + 128)] rfl rfl (World.news_of_block (cs := #[.int .u8 (m % 128 + 128)]) (t := 5) (fr := (0, 0)) (heap_alloc_new wr _)) (by simp [Value.oneCell']) (by omega) (by unfold maxLen; omega) (by omega) (by simp; omega) (wr.heap.size + 1) (by simp) ?_; intro gg cap w1 hown1 hgrow hat hlt1)
        have hown2 : w1.ownsRow w.heap.size 5 1 (.slice (some ⟨gg, 0, none⟩) (xs.length + 1) cap) (xs ++ [m % 128 + 128]).length ((xs ++ [m % 128 + 128]).map (Value.int .u8)) := by
          rw [← own_map_snoc]; simpa using hown1
        have hbel2 : Below w.heap.size w w1 := (hbel.alloc hbel.size _).grown hgrow (by simp; omega) (fun g hg => (hown.lt g hg).1)
        clear hown1 hgrow hown hbel hat hlt1
        go_wp2_with fail
        go_roundw
        case rel =>
          refine ⟨xs ++ [m % 128 + 128], m / 128, by go_num, by simp, by omega, ?_, hown2, hbel2⟩
          rw [← HX.out, lebS_big m hm]; simp
        case measure => simp [intOf]; omega
      · have hB : 64 ≤ m := by omega
        have hand : bits .and .i64 m 127 = m % 128 := i64_and127 _
        go_wp2_with (at_builtin; refine wpList_append_lies _ rfl _ _ _ rfl w.heap.size 5 i0 _ 1 1 Tryz.underlying63 hi0 hz0 hz1 hz2 rfl (by omega) u3 xs.length (xs.map (Value.int .u8)) rfl (hown.alloc _) ⟨wr.heap.size, 0, none⟩ 1 1 [.int .u8 (m % 128 + 128)] rfl rfl (World.news_of_block (cs := #[.int .u8 (m % 128 + 128)]) (t := 5) (fr := (0, 0)) (heap_alloc_new wr _)) (by simp [Value.oneCell']) (by omega) (by unfold maxLen; omega) (by omega) (by simp; omega) (wr.heap.size + 1) (by simp) ?_; intro gg cap w1 hown1 hgrow hat hlt1)
        have hown2 : w1.ownsRow w.heap.size 5 1 (.slice (some ⟨gg, 0, none⟩) (xs.length + 1) cap) (xs ++ [m % 128 + 128]).length ((xs ++ [m % 128 + 128]).map (Value.int .u8)) := by
          rw [← own_map_snoc]; simpa using hown1
        have hbel2 : Below w.heap.size w w1 := (hbel.alloc hbel.size _).grown hgrow (by simp; omega) (fun g hg => (hown.lt g hg).1)
        clear hown1 hgrow hown hbel hat hlt1
        go_wp2_with fail
        go_roundw
        case rel =>
          refine ⟨xs ++ [m % 128 + 128], m / 128, by go_num, by simp, by omega, ?_, hown2, hbel2⟩
          rw [← HX.out, lebS_big m hm]; simp
        case measure => simp [intOf]; omega
    · have hA : ¬ m < -64 := by omega
      have hB : ¬ 63 < m := by omega
      have hand : bits .and .i64 m 127 = m % 128 := i64_and127 _
      have hxx : xs ++ [m % 128] = lebS n := by rw [← HX.out, lebS_small m (by omega) (by omega)]
      have HXX := Lib.hid hxx
      clear hxx
      go_wp2_with (at_builtin; refine wpList_append_lies _ rfl _ _ _ rfl w.heap.size 5 i0 _ 1 1 Tryz.underlying63 hi0 hz0 hz1 hz2 rfl (by omega) u3 xs.length (xs.map (Value.int .u8)) rfl (hown.alloc _) ⟨wr.heap.size, 0, none⟩ 1 1 [.int .u8 (m % 128)] rfl rfl (World.news_of_block (cs := #[.int .u8 (m % 128)]) (t := 5) (fr := (0, 0)) (heap_alloc_new wr _)) (by simp [Value.oneCell']) (by omega) (by unfold maxLen; omega) (by omega) (by simp; omega) (wr.heap.size + 1) (by simp) ?_; intro gg cap w1 hown1 hgrow hat hlt1; rw [own_map_snoc, HXX.out] at hown1; have hcv := run_convert_own (P := Tryz.prog) w1 63 5 Tryz.underlying63 Tryz.underlying5 w.heap.size _ _ _ hown1 (by simp) 9 Tryz.underlying9)
      have hbel2 : Below w.heap.size w w1 := (hbel.alloc hbel.size _).grown hgrow (by simp; omega) (fun g hg => (hown.lt g hg).1)
      go_ret
      exact ⟨rfl, hbel2⟩
end Go.Proofs.YtbjcldekapipaaaGreatDoor
