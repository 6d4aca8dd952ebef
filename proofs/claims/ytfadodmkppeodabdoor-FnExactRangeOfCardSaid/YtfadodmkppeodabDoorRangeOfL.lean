/-
  The law FnExactRangeOf: both answer the same.
-/
import Derived.Test.YtfadodmkppeodabDoorRangeOfI
namespace Go.Proofs.YtfadodmkppeodabDoor
open Go.ChangeShapes Go.WideShapes Go.ChangeAt Go.RowKit

theorem eqRange_same (a b : Int) (w : World) :
    Calls Tryd.prog 22 #[.agg #[.int .i64 a, .int .i64 b], .agg #[.int .i64 a, .int .i64 b]] w fun e w' => e = .returned (.bool true) ∧ Below w.heap.size w w' := by
  go_enter Tryd.func22, Tryd.ntmps22
  go_wp2
  go_ret
  exact ⟨rfl, below2 _ _ _⟩

theorem ro_both (s : ByteArray) (hs : s.size ≤ 1048576) : ∃ a b c : Int, (∀ w : World, Calls Tryd.prog 20 #[.string s] w fun e w' => e = .returned (roV a b c) ∧ Below w.heap.size w w') ∧
    (∀ w : World, MaxC w → Calls Tryd.prog 21 #[.string s] w fun e w' => e = .returned (roV a b c) ∧ Below w.heap.size w w') := by
  by_cases h0 : s.size = 0
  · have he : s = ⟨#[]⟩ := by
      apply ByteArray.ext
      exact Array.eq_empty_of_size_eq_zero h0
    subst he
    exact ⟨0, 0, 6, fun w => specRO_short _ (by decide) w, fun w _ => implRO_empty w⟩
  · have hp : 0 < s.size := by omega
    obtain ⟨x, y, z, ok, x0, x1, y0, y1, z0, z1, h1, h2, C⟩ := rv_any (s.extract 1 s.size) (tail_size s hs)
    by_cases hk : Sign ((s[0]'hp).toNat : Int)
    · cases ok with
      | false =>
        refine ⟨0, 0, 6, fun w => ?_, fun w hm => implRO_bad s hp hk x y z C w hm⟩
        by_cases h3 : s.size < 2
        · exact specRO_short s h3 w
        · exact specRO_neg s (by omega) hs (by rw [(h2 rfl).1]; omega) w
      | true =>
        have hn := h1 rfl
        by_cases h3 : s.size < 2
        · exfalso
          have h4 : (s.extract 1 s.size).size < 5 := by rw [ByteArray.size_extract]; omega
          have h5 := num_none (s := s.extract 1 s.size) (fun ⟨a, b, c, h⟩ => by have := (ver_size h).1; omega)
          omega
        · refine ⟨_, _, _, fun w => specRO_some s (by omega) hs (by omega) hk w, fun w hm => ?_⟩
          rw [hn]
          exact implRO_good s hp hk x y z x0 x1 y0 y1 z0 z1 C w hm
    · refine ⟨0, 0, 6, fun w => ?_, fun w _ => implRO_none s hp hk w⟩
      by_cases h3 : s.size < 2
      · exact specRO_short s h3 w
      · by_cases h4 : 0 ≤ numOf (s.extract 1 s.size)
        · exact specRO_none s (by omega) hs h4 hk w
        · exact specRO_neg s (by omega) hs (by omega) w

theorem rangeOfLaw (s : ByteArray) (w : World) (hs : s.size ≤ maxLen) (hm : MaxC w) :
    Calls Tryd.prog 7 #[.string s] w fun e w' => e = .returned (.bool true) ∧ Below w.heap.size w w' := by
  unfold maxLen at hs
  by_cases hl : s.size ≤ 1048576
  · obtain ⟨a, b, c, c1, c2⟩ := ro_both s hl
    unfold roV at c1 c2
    have CS := Lib.hid c1
    have CI := Lib.hid c2
    have HM := Lib.hid hm
    clear hm c1 c2
    go_enter Tryd.func7, Tryd.ntmps7
    go_wp2_with (first
      | (go_at_call 20; refine (CS.out _).mono ?_; rintro e wx ⟨rfl, hbx⟩; obtain ⟨hcx, hfx⟩ := bcell hbx; have hall : Below w.heap.size w wx := hbx; have hzx := hbx.size; clear hbx)
      | (go_at_call 21; refine (CI.out _ (HM.out.keep (hall.alloc hall.size _))).mono ?_; rintro e wy ⟨rfl, hby⟩; obtain ⟨hcy, hfy⟩ := bcell hby; have hzy : wx.heap.size < wy.heap.size := (by have h1 := hby.size; (try simp at h1); omega); have hally := bchain (hall.alloc hall.size _) hby (hall.alloc hall.size _).size; clear hby)
      | (go_at_call 22; refine (eqRange_same _ _ _).mono ?_; rintro e wz ⟨rfl, hbz⟩))
    go_ret
    exact ⟨rfl, bchain (hally.alloc hally.size _) hbz (hally.alloc hally.size _).size⟩
  · go_enter Tryd.func7, Tryd.ntmps7
    go_wp2
    go_ret
    exact ⟨rfl, Below.refl _ _⟩
end Go.Proofs.YtfadodmkppeodabDoor
