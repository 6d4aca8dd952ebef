/-
  The laws FnExactVersionOk and FnExactVersionNumber: both answer the same.
-/
import Derived.Test.YtfadodmkppeodabDoorNumV
import Derived.Test.YtfadodmkppeodabDoorVBelow
namespace Go.Proofs.YtfadodmkppeodabDoor
open Go.ChangeShapes Go.WideShapes Go.ChangeAt Go.RowKit

/-- The contract of l02Num, at the number's name. -/
theorem sn_any (s : ByteArray) (hs : s.size ≤ 1048576) (N : Int) (hN : numOf s = N) : Hid (∀ w : World, Calls Tryd.prog 32 #[.string s] w fun e w' => e = .returned (.int .i64 N) ∧ Below w.heap.size w w') := by
  subst hN
  exact Lib.hid (fun w => l02Num_any s w hs)

theorem implVersionOk_any (s : ByteArray) (hs : s.size ≤ 1048576) (w : World) (hm : MaxC w) :
    Calls Tryd.prog 13 #[.string s] w fun e w' => e = .returned (.bool (decide (0 ≤ numOf s))) ∧ Below w.heap.size w w' := by
  obtain ⟨x, y, z, ok, x0, x1, y0, y1, z0, z1, h1, h2, C⟩ := rv_any s hs
  have hb : decide (0 ≤ numOf s) = ok := by
    cases ok with
    | true => rw [h1 rfl]; simp; omega
    | false => rw [(h2 rfl).1]; rfl
  rw [hb]
  clear h1 h2 hb
  have HM := Lib.hid hm
  clear hm
  go_enter Tryd.func13, Tryd.ntmps13
  go_wp2_with (go_at_call 33; refine (C.out _ HM.out).mono ?_; rintro e wx ⟨rfl, hbx⟩)
  go_ret
  exact ⟨rfl, hbx.alloc hbx.size _⟩

theorem specVersionOk_any (s : ByteArray) (hs : s.size ≤ 1048576) (w : World) :
    Calls Tryd.prog 12 #[.string s] w fun e w' => e = .returned (.bool (decide (0 ≤ numOf s))) ∧ Below w.heap.size w w' := by
  obtain ⟨N, hN⟩ : ∃ N, numOf s = N := ⟨_, rfl⟩
  have C := sn_any s hs N hN
  rw [hN]
  clear hN
  go_enter Tryd.func12, Tryd.ntmps12
  go_wp2_with (go_at_call 32; refine (C.out _).mono ?_; rintro e wx ⟨rfl, hbx⟩)
  go_ret
  exact ⟨rfl, hbx⟩

theorem versionOkLaw (s : ByteArray) (w : World) (hs : s.size ≤ maxLen) (hm : MaxC w) :
    Calls Tryd.prog 3 #[.string s] w fun e w' => e = .returned (.bool true) ∧ Below w.heap.size w w' := by
  unfold maxLen at hs
  by_cases hl : s.size ≤ 1048576
  · have CS : Hid (∀ W : World, Calls Tryd.prog 12 #[.string s] W fun e w' => e = .returned (.bool (decide (0 ≤ numOf s))) ∧ Below W.heap.size W w') := Lib.hid (fun W => specVersionOk_any s hl W)
    have CI : Hid (∀ W : World, MaxC W → Calls Tryd.prog 13 #[.string s] W fun e w' => e = .returned (.bool (decide (0 ≤ numOf s))) ∧ Below W.heap.size W w') := Lib.hid (fun W h => implVersionOk_any s hl W h)
    generalize decide (0 ≤ numOf s) = b at *
    have HM := Lib.hid hm
    clear hm
    go_enter Tryd.func3, Tryd.ntmps3
    go_wp2_with (first
      | (go_at_call 12; refine (CS.out _).mono ?_; rintro e wx ⟨rfl, ha⟩)
      | (go_at_call 13; refine (CI.out _ (HM.out.keep ha)).mono ?_; rintro e wy ⟨rfl, hb⟩))
    go_ret
    exact ⟨rfl, bchain ha hb ha.size⟩
  · go_enter Tryd.func3, Tryd.ntmps3
    go_wp2
    go_ret
    exact ⟨rfl, Below.refl _ _⟩

/-- What both VersionNumber answer. -/
def vnV (N : Int) : Value := if N < 0 then .tuple #[.int .i64 0, .bool false] else .tuple #[.int .i64 N, .bool true]

theorem specVersionNumber_any (s : ByteArray) (hs : s.size ≤ 1048576) (w : World) :
    Calls Tryd.prog 14 #[.string s] w fun e w' => e = .returned (vnV (numOf s)) ∧ Below w.heap.size w w' := by
  obtain ⟨N, hN⟩ : ∃ N, numOf s = N := ⟨_, rfl⟩
  have C := sn_any s hs N hN
  rw [hN]
  clear hN
  unfold vnV
  by_cases h : N < 0
  · rw [if_pos h]
    go_enter Tryd.func14, Tryd.ntmps14
    go_wp2_with (go_at_call 32; refine (C.out _).mono ?_; rintro e wx ⟨rfl, hbx⟩)
    go_ret2
    exact ⟨rfl, hbx⟩
  · rw [if_neg h]
    go_enter Tryd.func14, Tryd.ntmps14
    go_wp2_with (go_at_call 32; refine (C.out _).mono ?_; rintro e wx ⟨rfl, hbx⟩)
    go_ret2
    exact ⟨rfl, hbx⟩

theorem implVersionNumber_any (s : ByteArray) (hs : s.size ≤ 1048576) (w : World) (hm : MaxC w) :
    Calls Tryd.prog 15 #[.string s] w fun e w' => e = .returned (vnV (numOf s)) ∧ Below w.heap.size w w' := by
  obtain ⟨x, y, z, ok, x0, x1, y0, y1, z0, z1, h1, h2, C⟩ := rv_any s hs
  have hb : vnV (numOf s) = .tuple #[.int .i64 (x * 1000000 + y * 1000 + z), .bool ok] := by
    cases ok with
    | true => rw [h1 rfl, vnV, if_neg (by omega)]
    | false =>
      obtain ⟨e, rfl, rfl, rfl⟩ := h2 rfl
      rw [e]
      rfl
  rw [hb]
  have CN : Hid (∀ W : World, Calls Tryd.prog 34 #[.agg #[.int .i64 x, .int .i64 y, .int .i64 z]] W fun e w' => e = .returned (.int .i64 (x * 1000000 + y * 1000 + z)) ∧ Below W.heap.size W w') := Lib.hid (fun W => number_any x y z x0 x1 y0 y1 z0 z1 W)
  generalize x * 1000000 + y * 1000 + z = n at *
  clear h1 h2 hb
  have HM := Lib.hid hm
  clear hm
  go_enter Tryd.func15, Tryd.ntmps15
  go_wp2_with (first
    | (go_at_call 33; refine (C.out _ HM.out).mono ?_; rintro e wx ⟨rfl, hbx⟩)
    | (go_at_call 34; refine (CN.out _).mono ?_; rintro e wy ⟨rfl, hby⟩))
  go_ret2
  exact ⟨rfl, bchain (hbx.alloc hbx.size _) hby (hbx.alloc hbx.size _).size⟩

theorem vnV_cases (N : Int) : ∃ (a : Int) (b : Bool), vnV N = .tuple #[.int .i64 a, .bool b] := by
  unfold vnV
  split
  · exact ⟨_, _, rfl⟩
  · exact ⟨_, _, rfl⟩

theorem versionNumberLaw (s : ByteArray) (w : World) (hs : s.size ≤ maxLen) (hm : MaxC w) :
    Calls Tryd.prog 4 #[.string s] w fun e w' => e = .returned (.bool true) ∧ Below w.heap.size w w' := by
  unfold maxLen at hs
  by_cases hl : s.size ≤ 1048576
  · obtain ⟨a, b, hv⟩ := vnV_cases (numOf s)
    have CS : Hid (∀ W : World, Calls Tryd.prog 14 #[.string s] W fun e w' => e = .returned (.tuple #[.int .i64 a, .bool b]) ∧ Below W.heap.size W w') := Lib.hid (fun W => by rw [← hv]; exact specVersionNumber_any s hl W)
    have CI : Hid (∀ W : World, MaxC W → Calls Tryd.prog 15 #[.string s] W fun e w' => e = .returned (.tuple #[.int .i64 a, .bool b]) ∧ Below W.heap.size W w') := Lib.hid (fun W h => by rw [← hv]; exact implVersionNumber_any s hl W h)
    have HM := Lib.hid hm
    clear hm hv
    go_enter Tryd.func4, Tryd.ntmps4
    go_wp2_with (first
      | (go_at_call 14; refine (CS.out _).mono ?_; rintro e wx ⟨rfl, ha⟩)
      | (go_at_call 15; refine (CI.out _ (HM.out.keep ha)).mono ?_; rintro e wy ⟨rfl, hb⟩))
    go_ret
    exact ⟨rfl, bchain ha hb ha.size⟩
  · go_enter Tryd.func4, Tryd.ntmps4
    go_wp2
    go_ret
    exact ⟨rfl, Below.refl _ _⟩
end Go.Proofs.YtfadodmkppeodabDoor
