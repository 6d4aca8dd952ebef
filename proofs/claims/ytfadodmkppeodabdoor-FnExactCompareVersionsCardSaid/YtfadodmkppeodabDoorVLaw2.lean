/-
  The laws FnExactCompareVersions and FnExactInRange: both answer the same.
-/
import Derived.Test.YtfadodmkppeodabDoorVLaw1
import Derived.Test.YtfadodmkppeodabDoorCmp
import Derived.Test.YtfadodmkppeodabDoorRangeD
namespace Go.Proofs.YtfadodmkppeodabDoor
open Go.ChangeShapes Go.WideShapes Go.ChangeAt Go.RowKit

theorem specCV_any (s t : ByteArray) (hs : s.size ≤ 1048576) (ht : t.size ≤ 1048576) (w : World) :
    Calls Tryd.prog 16 #[.string s, .string t] w fun e w' => e = .returned (if numOf s < 0 ∨ numOf t < 0 then .tuple #[.int .i64 0, .int .i64 14] else .tuple #[.int .i64 (cmpI (numOf s) (numOf t)), .int .i64 0]) ∧ Below w.heap.size w w' := by
  obtain ⟨M, hM⟩ : ∃ N, numOf s = N := ⟨_, rfl⟩
  obtain ⟨N, hN⟩ : ∃ N, numOf t = N := ⟨_, rfl⟩
  have CM := sn_any s hs M hM
  have CN := sn_any t ht N hN
  rw [hM, hN]
  clear hM hN
  unfold cmpI
  by_cases h1 : M < 0
  · rw [if_pos (Or.inl h1)]
    go_enter Tryd.func16, Tryd.ntmps16
    go_wp2_with (first
      | (go_at_call_of 32 (Value.string s); refine (CM.out _).mono ?_; rintro e wx ⟨rfl, hbx⟩)
      | (go_at_call_of 32 (Value.string t); refine (CN.out _).mono ?_; rintro e wy ⟨rfl, hby⟩))
    go_ret2
    exact ⟨rfl, bchain hbx hby hbx.size⟩
  · by_cases h2 : N < 0
    · rw [if_pos (Or.inr h2)]
      go_enter Tryd.func16, Tryd.ntmps16
      go_wp2_with (first
        | (go_at_call_of 32 (Value.string s); refine (CM.out _).mono ?_; rintro e wx ⟨rfl, hbx⟩)
        | (go_at_call_of 32 (Value.string t); refine (CN.out _).mono ?_; rintro e wy ⟨rfl, hby⟩))
      go_ret2
      exact ⟨rfl, bchain hbx hby hbx.size⟩
    · rw [if_neg (by omega)]
      by_cases h3 : M < N
      · rw [if_pos h3]
        go_enter Tryd.func16, Tryd.ntmps16
        go_wp2_with (first
          | (go_at_call_of 32 (Value.string s); refine (CM.out _).mono ?_; rintro e wx ⟨rfl, hbx⟩)
          | (go_at_call_of 32 (Value.string t); refine (CN.out _).mono ?_; rintro e wy ⟨rfl, hby⟩))
        go_ret2
        exact ⟨rfl, bchain hbx hby hbx.size⟩
      · rw [if_neg h3]
        by_cases h4 : N < M
        · rw [if_pos h4]
          go_enter Tryd.func16, Tryd.ntmps16
          go_wp2_with (first
            | (go_at_call_of 32 (Value.string s); refine (CM.out _).mono ?_; rintro e wx ⟨rfl, hbx⟩)
            | (go_at_call_of 32 (Value.string t); refine (CN.out _).mono ?_; rintro e wy ⟨rfl, hby⟩))
          go_ret2
          exact ⟨rfl, bchain hbx hby hbx.size⟩
        · rw [if_neg h4]
          go_enter Tryd.func16, Tryd.ntmps16
          go_wp2_with (first
            | (go_at_call_of 32 (Value.string s); refine (CM.out _).mono ?_; rintro e wx ⟨rfl, hbx⟩)
            | (go_at_call_of 32 (Value.string t); refine (CN.out _).mono ?_; rintro e wy ⟨rfl, hby⟩))
          go_ret2
          exact ⟨rfl, bchain hbx hby hbx.size⟩

theorem implCV_any (s t : ByteArray) (hs : s.size ≤ 1048576) (ht : t.size ≤ 1048576) (w : World) (hm : MaxC w) :
    Calls Tryd.prog 17 #[.string s, .string t] w fun e w' => e = .returned (if numOf s < 0 ∨ numOf t < 0 then .tuple #[.int .i64 0, .int .i64 14] else .tuple #[.int .i64 (cmpI (numOf s) (numOf t)), .int .i64 0]) ∧ Below w.heap.size w w' := by
  obtain ⟨x, y, z, ok, x0, x1, y0, y1, z0, z1, h1, h2, C⟩ := rv_any s hs
  obtain ⟨x', y', z', ok', x0', x1', y0', y1', z0', z1', h1', h2', C'⟩ := rv_any t ht
  obtain ⟨r, hr⟩ : ∃ r, (if numOf s < 0 ∨ numOf t < 0 then Value.tuple #[.int .i64 0, .int .i64 14] else .tuple #[.int .i64 (cmpI (numOf s) (numOf t)), .int .i64 0]) = r := ⟨_, rfl⟩
  rw [hr]
  have CC : Hid (∀ W : World, Calls Tryd.prog 35 #[.int .i64 1, .agg #[.int .i64 x, .int .i64 y, .int .i64 z], .agg #[.int .i64 x', .int .i64 y', .int .i64 z']] W fun ed w' => ed = .returned (.int .i64 (cmpI (x * 1000000 + y * 1000 + z) (x' * 1000000 + y' * 1000 + z'))) ∧ Below W.heap.size W w') := Lib.hid (fun W => by
    have := compare_any 1 x y z x' y' z' (by omega) (by omega) x0 x1 y0 y1 z0 z1 x0' x1' y0' y1' z0' z1' W
    rw [Int.one_mul] at this
    exact this)
  have HM := Lib.hid hm
  clear hm
  cases ok with
  | false =>
    rw [if_pos (Or.inl (by rw [(h2 rfl).1]; omega))] at hr
    subst hr
    clear h1 h2 h1' h2' x0 x1 y0 y1 z0 z1 x0' x1' y0' y1' z0' z1'
    go_enter Tryd.func17, Tryd.ntmps17
    go_wp2_with (first
      | (go_at_call_of 33 (Value.string s); refine (C.out _ HM.out).mono ?_; rintro e wx ⟨rfl, hbx⟩)
      | (go_at_call_of 33 (Value.string t); refine (C'.out _ (HM.out.keep (hbx.alloc hbx.size _))).mono ?_; rintro e wy ⟨rfl, hby⟩))
    go_ret2
    have hb1 := bchain (hbx.alloc hbx.size _) hby (hbx.alloc hbx.size _).size
    exact ⟨rfl, hb1.alloc hb1.size _⟩
  | true =>
    cases ok' with
    | false =>
      rw [if_pos (Or.inr (by rw [(h2' rfl).1]; omega))] at hr
      subst hr
      clear h1 h2 h1' h2' x0 x1 y0 y1 z0 z1 x0' x1' y0' y1' z0' z1'
      go_enter Tryd.func17, Tryd.ntmps17
      go_wp2_with (first
        | (go_at_call_of 33 (Value.string s); refine (C.out _ HM.out).mono ?_; rintro e wx ⟨rfl, hbx⟩)
        | (go_at_call_of 33 (Value.string t); refine (C'.out _ (HM.out.keep (hbx.alloc hbx.size _))).mono ?_; rintro e wy ⟨rfl, hby⟩))
      go_ret2
      have hb1 := bchain (hbx.alloc hbx.size _) hby (hbx.alloc hbx.size _).size
      exact ⟨rfl, hb1.alloc hb1.size _⟩
    | true =>
      rw [if_neg (by rw [h1 rfl, h1' rfl]; omega), h1 rfl, h1' rfl] at hr
      generalize cmpI (x * 1000000 + y * 1000 + z) (x' * 1000000 + y' * 1000 + z') = k at *
      subst hr
      clear h1 h2 h1' h2' x0 x1 y0 y1 z0 z1 x0' x1' y0' y1' z0' z1'
      go_enter Tryd.func17, Tryd.ntmps17
      go_wp2_with (first
        | (go_at_call_of 33 (Value.string s); refine (C.out _ HM.out).mono ?_; rintro e wx ⟨rfl, hbx⟩)
        | (go_at_call_of 33 (Value.string t); refine (C'.out _ (HM.out.keep (hbx.alloc hbx.size _))).mono ?_; rintro e wy ⟨rfl, hby⟩; obtain ⟨hcy, hfy⟩ := bcell hby; have hzy : wx.heap.size < wy.heap.size := (by have h9 := hby.size; simp at h9; omega))
        | (go_at_call 35; refine (CC.out _).mono ?_; rintro e wz ⟨rfl, hbz⟩))
      go_ret2
      have hb1 := bchain (hbx.alloc hbx.size _) hby (hbx.alloc hbx.size _).size
      have hb2 := hb1.alloc hb1.size (.cells #[.int .i64 x', .int .i64 y', .int .i64 z'] 43)
      exact ⟨rfl, bchain hb2 hbz hb2.size⟩

theorem compareLaw (s t : ByteArray) (w : World) (hs : s.size ≤ maxLen) (ht : t.size ≤ maxLen) (hm : MaxC w) :
    Calls Tryd.prog 5 #[.string s, .string t] w fun e w' => e = .returned (.bool true) ∧ Below w.heap.size w w' := by
  unfold maxLen at hs ht
  by_cases hl : s.size ≤ 1048576
  · by_cases hl2 : t.size ≤ 1048576
    · obtain ⟨a, b, hv⟩ : ∃ a b : Int, (if numOf s < 0 ∨ numOf t < 0 then Value.tuple #[.int .i64 0, .int .i64 14] else .tuple #[.int .i64 (cmpI (numOf s) (numOf t)), .int .i64 0]) = .tuple #[.int .i64 a, .int .i64 b] := by
        split
        · exact ⟨_, _, rfl⟩
        · exact ⟨_, _, rfl⟩
      have CS : Hid (∀ W : World, Calls Tryd.prog 16 #[.string s, .string t] W fun e w' => e = .returned (.tuple #[.int .i64 a, .int .i64 b]) ∧ Below W.heap.size W w') := Lib.hid (fun W => by rw [← hv]; exact specCV_any s t hl hl2 W)
      have CI : Hid (∀ W : World, MaxC W → Calls Tryd.prog 17 #[.string s, .string t] W fun e w' => e = .returned (.tuple #[.int .i64 a, .int .i64 b]) ∧ Below W.heap.size W w') := Lib.hid (fun W h => by rw [← hv]; exact implCV_any s t hl hl2 W h)
      have HM := Lib.hid hm
      clear hm hv
      go_enter Tryd.func5, Tryd.ntmps5
      go_wp2_with (first
        | (go_at_call 16; refine (CS.out _).mono ?_; rintro e wx ⟨rfl, ha⟩)
        | (go_at_call 17; refine (CI.out _ (HM.out.keep ha)).mono ?_; rintro e wy ⟨rfl, hb⟩))
      go_ret
      exact ⟨rfl, bchain ha hb ha.size⟩
    · go_enter Tryd.func5, Tryd.ntmps5
      go_wp2
      go_ret
      exact ⟨rfl, Below.refl _ _⟩
  · go_enter Tryd.func5, Tryd.ntmps5
    go_wp2
    go_ret
    exact ⟨rfl, Below.refl _ _⟩
end Go.Proofs.YtfadodmkppeodabDoor
