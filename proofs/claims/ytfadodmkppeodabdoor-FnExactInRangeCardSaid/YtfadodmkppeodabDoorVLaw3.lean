/-
  The law FnExactInRange: both answer the same.
-/
import Derived.Test.YtfadodmkppeodabDoorVLaw2
namespace Go.Proofs.YtfadodmkppeodabDoor
open Go.ChangeShapes Go.WideShapes Go.ChangeAt Go.RowKit

/-- Does a number lie in a range? -/
def InR (N a b : Int) : Prop := 0 ≤ N ∧ rOk a b ∧ a ≤ N ∧ N < b

theorem specInR_yes (s : ByteArray) (hs : s.size ≤ 1048576) (a b : Int) (h : InR (numOf s) a b) (w : World) :
    Calls Tryd.prog 23 #[.string s, .agg #[.int .i64 a, .int .i64 b]] w fun e w' => e = .returned (.bool true) ∧ Below w.heap.size w w' := by
  obtain ⟨N, hN⟩ : ∃ N, numOf s = N := ⟨_, rfl⟩
  have C := sn_any s hs N hN
  rw [hN] at h
  clear hN
  obtain ⟨h0, h1, h2, h3⟩ := h
  have CR : Hid (∀ W : World, Calls Tryd.prog 40 #[.agg #[.int .i64 a, .int .i64 b]] W fun e w' => e = .returned (.bool true) ∧ Below W.heap.size W w') := Lib.hid (fun W => specRangeOk_yes a b W h1)
  clear h1
  go_enter Tryd.func23, Tryd.ntmps23
  go_wp2_with (first
    | (go_at_call 32; refine (C.out _).mono ?_; rintro e wx ⟨rfl, hbx⟩; obtain ⟨hcx, hfx⟩ := bcell hbx; have hzx : w.heap.size < wx.heap.size := (by have h9 := hbx.size; simp at h9; omega))
    | (go_at_call 40; refine (CR.out _).mono ?_; rintro e wy ⟨rfl, hby⟩; obtain ⟨hcy, hfy⟩ := bcell hby; have hzy : w.heap.size < wy.heap.size := (by have h9 := hby.size; omega)))
  go_ret
  exact ⟨rfl, bchain (bchain (below1 _ _) hbx (by simp)) hby (bchain (below1 _ _) hbx (by simp)).size⟩

theorem specInR_no (s : ByteArray) (hs : s.size ≤ 1048576) (a b : Int) (h : ¬ InR (numOf s) a b) (w : World) :
    Calls Tryd.prog 23 #[.string s, .agg #[.int .i64 a, .int .i64 b]] w fun e w' => e = .returned (.bool false) ∧ Below w.heap.size w w' := by
  obtain ⟨N, hN⟩ : ∃ N, numOf s = N := ⟨_, rfl⟩
  have C := sn_any s hs N hN
  rw [hN] at h
  clear hN
  by_cases h0 : 0 ≤ N
  · by_cases h1 : rOk a b
    · have CR : Hid (∀ W : World, Calls Tryd.prog 40 #[.agg #[.int .i64 a, .int .i64 b]] W fun e w' => e = .returned (.bool true) ∧ Below W.heap.size W w') := Lib.hid (fun W => specRangeOk_yes a b W h1)
      by_cases h2 : a ≤ N
      · have h3 : ¬ N < b := fun h3 => h ⟨h0, h1, h2, h3⟩
        have h3d : decide (N < b) = false := decide_eq_false h3
        clear h h1 h3
        go_enter Tryd.func23, Tryd.ntmps23
        go_wp2_with (first
          | (go_at_call 32; refine (C.out _).mono ?_; rintro e wx ⟨rfl, hbx⟩; obtain ⟨hcx, hfx⟩ := bcell hbx; have hzx : w.heap.size < wx.heap.size := (by have h9 := hbx.size; simp at h9; omega))
          | (go_at_call 40; refine (CR.out _).mono ?_; rintro e wy ⟨rfl, hby⟩; obtain ⟨hcy, hfy⟩ := bcell hby; have hzy : w.heap.size < wy.heap.size := (by have h9 := hby.size; omega)))
        go_ret
        exact ⟨rfl, bchain (bchain (below1 _ _) hbx (by simp)) hby (bchain (below1 _ _) hbx (by simp)).size⟩
      · clear h h1
        go_enter Tryd.func23, Tryd.ntmps23
        go_wp2_with (first
          | (go_at_call 32; refine (C.out _).mono ?_; rintro e wx ⟨rfl, hbx⟩; obtain ⟨hcx, hfx⟩ := bcell hbx; have hzx : w.heap.size < wx.heap.size := (by have h9 := hbx.size; simp at h9; omega))
          | (go_at_call 40; refine (CR.out _).mono ?_; rintro e wy ⟨rfl, hby⟩; obtain ⟨hcy, hfy⟩ := bcell hby; have hzy : w.heap.size < wy.heap.size := (by have h9 := hby.size; omega)))
        go_ret
        exact ⟨rfl, bchain (bchain (below1 _ _) hbx (by simp)) hby (bchain (below1 _ _) hbx (by simp)).size⟩
    · have CR : Hid (∀ W : World, Calls Tryd.prog 40 #[.agg #[.int .i64 a, .int .i64 b]] W fun e w' => e = .returned (.bool false) ∧ Below W.heap.size W w') := Lib.hid (fun W => specRangeOk_no a b W h1)
      clear h h1
      go_enter Tryd.func23, Tryd.ntmps23
      go_wp2_with (first
        | (go_at_call 32; refine (C.out _).mono ?_; rintro e wx ⟨rfl, hbx⟩; obtain ⟨hcx, hfx⟩ := bcell hbx; have hzx : w.heap.size < wx.heap.size := (by have h9 := hbx.size; simp at h9; omega))
        | (go_at_call 40; refine (CR.out _).mono ?_; rintro e wy ⟨rfl, hby⟩; obtain ⟨hcy, hfy⟩ := bcell hby; have hzy : w.heap.size < wy.heap.size := (by have h9 := hby.size; omega)))
      go_ret
      exact ⟨rfl, bchain (bchain (below1 _ _) hbx (by simp)) hby (bchain (below1 _ _) hbx (by simp)).size⟩
  · clear h
    go_enter Tryd.func23, Tryd.ntmps23
    go_wp2_with (go_at_call 32; refine (C.out _).mono ?_; rintro e wx ⟨rfl, hbx⟩; obtain ⟨hcx, hfx⟩ := bcell hbx; have hzx : w.heap.size < wx.heap.size := (by have h9 := hbx.size; simp at h9; omega))
    go_ret
    exact ⟨rfl, bchain (below1 _ _) hbx (by simp)⟩

/-- The contract of VersionNumber, at a number. -/
theorem vn_yes (s : ByteArray) (hs : s.size ≤ 1048576) (N : Int) (hN : numOf s = N) (h0 : 0 ≤ N) : Hid (∀ W : World, MaxC W → Calls Tryd.prog 15 #[.string s] W fun e w' => e = .returned (.tuple #[.int .i64 N, .bool true]) ∧ Below W.heap.size W w') := Lib.hid (fun W h => by
  have := implVersionNumber_any s hs W h
  rw [hN, vnV, if_neg (by omega)] at this
  exact this)
theorem vn_no (s : ByteArray) (hs : s.size ≤ 1048576) (h0 : ¬ 0 ≤ numOf s) : Hid (∀ W : World, MaxC W → Calls Tryd.prog 15 #[.string s] W fun e w' => e = .returned (.tuple #[.int .i64 0, .bool false]) ∧ Below W.heap.size W w') := Lib.hid (fun W h => by
  have := implVersionNumber_any s hs W h
  rw [vnV, if_pos (by omega)] at this
  exact this)

theorem implInR_yes (s : ByteArray) (hs : s.size ≤ 1048576) (a b : Int) (h : InR (numOf s) a b) (w : World) (hm : MaxC w) :
    Calls Tryd.prog 25 #[.string s, .agg #[.int .i64 a, .int .i64 b]] w fun e w' => e = .returned (.bool true) ∧ Below w.heap.size w w' := by
  obtain ⟨N, hN⟩ : ∃ N, numOf s = N := ⟨_, rfl⟩
  rw [hN] at h
  obtain ⟨h0, h1, h2, h3⟩ := h
  have C := vn_yes s hs N hN h0
  clear hN
  have CR : Hid (∀ W : World, Calls Tryd.prog 41 #[.agg #[.int .i64 a, .int .i64 b]] W fun e w' => e = .returned (.bool true) ∧ Below W.heap.size W w') := Lib.hid (fun W => implRangeOk_yes a b W h1)
  have HM := Lib.hid hm
  clear h1 hm
  go_enter Tryd.func25, Tryd.ntmps25
  go_wp2_with (first
    | (go_at_call 15; refine (C.out _ (HM.out.keep (below1 _ _))).mono ?_; rintro e wx ⟨rfl, hbx⟩; obtain ⟨hcx, hfx⟩ := bcell hbx; have hzx : w.heap.size < wx.heap.size := (by have h9 := hbx.size; simp at h9; omega))
    | (go_at_call 41; refine (CR.out _).mono ?_; rintro e wy ⟨rfl, hby⟩; obtain ⟨hcy, hfy⟩ := bcell hby; have hzy : w.heap.size < wy.heap.size := (by have h9 := hby.size; omega)))
  go_ret
  exact ⟨rfl, bchain (bchain (below1 _ _) hbx (by simp)) hby (bchain (below1 _ _) hbx (by simp)).size⟩

theorem implInR_no (s : ByteArray) (hs : s.size ≤ 1048576) (a b : Int) (h : ¬ InR (numOf s) a b) (w : World) (hm : MaxC w) :
    Calls Tryd.prog 25 #[.string s, .agg #[.int .i64 a, .int .i64 b]] w fun e w' => e = .returned (.bool false) ∧ Below w.heap.size w w' := by
  have HM := Lib.hid hm
  clear hm
  by_cases h0 : 0 ≤ numOf s
  · obtain ⟨N, hN⟩ : ∃ N, numOf s = N := ⟨_, rfl⟩
    have C := vn_yes s hs N hN (hN ▸ h0)
    rw [hN] at h h0
    clear hN
    by_cases h1 : rOk a b
    · have CR : Hid (∀ W : World, Calls Tryd.prog 41 #[.agg #[.int .i64 a, .int .i64 b]] W fun e w' => e = .returned (.bool true) ∧ Below W.heap.size W w') := Lib.hid (fun W => implRangeOk_yes a b W h1)
      by_cases h2 : a ≤ N
      · have h3 : ¬ N < b := fun h3 => h ⟨h0, h1, h2, h3⟩
        have h3d : decide (N < b) = false := decide_eq_false h3
        clear h h1 h3
        go_enter Tryd.func25, Tryd.ntmps25
        go_wp2_with (first
          | (go_at_call 15; refine (C.out _ (HM.out.keep (below1 _ _))).mono ?_; rintro e wx ⟨rfl, hbx⟩; obtain ⟨hcx, hfx⟩ := bcell hbx; have hzx : w.heap.size < wx.heap.size := (by have h9 := hbx.size; simp at h9; omega))
          | (go_at_call 41; refine (CR.out _).mono ?_; rintro e wy ⟨rfl, hby⟩; obtain ⟨hcy, hfy⟩ := bcell hby; have hzy : w.heap.size < wy.heap.size := (by have h9 := hby.size; omega)))
        go_ret
        exact ⟨rfl, bchain (bchain (below1 _ _) hbx (by simp)) hby (bchain (below1 _ _) hbx (by simp)).size⟩
      · clear h h1
        go_enter Tryd.func25, Tryd.ntmps25
        go_wp2_with (first
          | (go_at_call 15; refine (C.out _ (HM.out.keep (below1 _ _))).mono ?_; rintro e wx ⟨rfl, hbx⟩; obtain ⟨hcx, hfx⟩ := bcell hbx; have hzx : w.heap.size < wx.heap.size := (by have h9 := hbx.size; simp at h9; omega))
          | (go_at_call 41; refine (CR.out _).mono ?_; rintro e wy ⟨rfl, hby⟩; obtain ⟨hcy, hfy⟩ := bcell hby; have hzy : w.heap.size < wy.heap.size := (by have h9 := hby.size; omega)))
        go_ret
        exact ⟨rfl, bchain (bchain (below1 _ _) hbx (by simp)) hby (bchain (below1 _ _) hbx (by simp)).size⟩
    · have CR : Hid (∀ W : World, Calls Tryd.prog 41 #[.agg #[.int .i64 a, .int .i64 b]] W fun e w' => e = .returned (.bool false) ∧ Below W.heap.size W w') := Lib.hid (fun W => implRangeOk_no a b W h1)
      clear h h1
      go_enter Tryd.func25, Tryd.ntmps25
      go_wp2_with (first
        | (go_at_call 15; refine (C.out _ (HM.out.keep (below1 _ _))).mono ?_; rintro e wx ⟨rfl, hbx⟩; obtain ⟨hcx, hfx⟩ := bcell hbx; have hzx : w.heap.size < wx.heap.size := (by have h9 := hbx.size; simp at h9; omega))
        | (go_at_call 41; refine (CR.out _).mono ?_; rintro e wy ⟨rfl, hby⟩; obtain ⟨hcy, hfy⟩ := bcell hby; have hzy : w.heap.size < wy.heap.size := (by have h9 := hby.size; omega)))
      go_ret
      exact ⟨rfl, bchain (bchain (below1 _ _) hbx (by simp)) hby (bchain (below1 _ _) hbx (by simp)).size⟩
  · have C := vn_no s hs h0
    clear h h0
    go_enter Tryd.func25, Tryd.ntmps25
    go_wp2_with (go_at_call 15; refine (C.out _ (HM.out.keep (below1 _ _))).mono ?_; rintro e wx ⟨rfl, hbx⟩; obtain ⟨hcx, hfx⟩ := bcell hbx; have hzx : w.heap.size < wx.heap.size := (by have h9 := hbx.size; simp at h9; omega))
    go_ret
    exact ⟨rfl, bchain (below1 _ _) hbx (by simp)⟩

theorem inR_both (s : ByteArray) (hs : s.size ≤ 1048576) (a b : Int) : ∃ v : Bool, (v = true ↔ InR (numOf s) a b) ∧ (∀ w : World, Calls Tryd.prog 23 #[.string s, .agg #[.int .i64 a, .int .i64 b]] w fun e w' => e = .returned (.bool v) ∧ Below w.heap.size w w') ∧
    (∀ w : World, MaxC w → Calls Tryd.prog 25 #[.string s, .agg #[.int .i64 a, .int .i64 b]] w fun e w' => e = .returned (.bool v) ∧ Below w.heap.size w w') := by
  by_cases h : InR (numOf s) a b
  · exact ⟨true, ⟨fun _ => h, fun _ => rfl⟩, fun w => specInR_yes s hs a b h w, fun w hm => implInR_yes s hs a b h w hm⟩
  · exact ⟨false, ⟨(fun h2 => by cases h2), fun h2 => absurd h2 h⟩, fun w => specInR_no s hs a b h w, fun w hm => implInR_no s hs a b h w hm⟩

theorem inRangeLaw (s : ByteArray) (a b : Int) (w : World) (hs : s.size ≤ maxLen) (_ : (Lit.int .i64 a).wf = true) (_ : (Lit.int .i64 b).wf = true) (hm : MaxC w) :
    Calls Tryd.prog 8 #[.string s, .agg #[.int .i64 a, .int .i64 b]] w fun e w' => e = .returned (.bool true) ∧ Below w.heap.size w w' := by
  unfold maxLen at hs
  by_cases hl : s.size ≤ 1048576
  · obtain ⟨v, _, c1, c2⟩ := inR_both s hl a b
    have CS := Lib.hid c1
    have CI := Lib.hid c2
    have HM := Lib.hid hm
    clear c1 c2 hm
    go_enter Tryd.func8, Tryd.ntmps8
    go_wp2_with (first
      | (go_at_call 24; refine (toRange_any _ _ _).mono ?_; rintro e wx ⟨rfl, hbx⟩; obtain ⟨hcx, hfx⟩ := bcell hbx; have hzx : w.heap.size < wx.heap.size := (by have h1 := hbx.size; (try simp at h1); omega); have hall : Below w.heap.size w wx := (by first | exact bchain hall hbx hall.size | exact bchain (below1 _ _) hbx (by simp)); clear hbx)
      | (go_at_call 23; refine (CS.out _).mono ?_; rintro e wx ⟨rfl, hbx⟩; obtain ⟨hcx, hfx⟩ := bcell hbx; have hzx : w.heap.size < wx.heap.size := (by have h1 := hbx.size; (try simp at h1); omega); have hall : Below w.heap.size w wx := (by first | exact bchain hall hbx hall.size | exact bchain (below1 _ _) hbx (by simp)); clear hbx)
      | (go_at_call 25; refine (CI.out _ (HM.out.keep hall)).mono ?_; rintro e wx ⟨rfl, hbx⟩; obtain ⟨hcx, hfx⟩ := bcell hbx; have hzx : w.heap.size < wx.heap.size := (by have h1 := hbx.size; (try simp at h1); omega); have hall : Below w.heap.size w wx := (by first | exact bchain hall hbx hall.size | exact bchain (below1 _ _) hbx (by simp)); clear hbx))
    go_ret
    exact ⟨rfl, hall⟩
  · go_enter Tryd.func8, Tryd.ntmps8
    go_wp2
    go_ret
    exact ⟨rfl, below1 _ _⟩
end Go.Proofs.YtfadodmkppeodabDoor
