/-
  The walk of the law FnExactPointsOf: both answer alike, the answer lies in memory of its own.
-/
import Derived.Test.YtmnkkpahbmcekaaDoorPtsI
import Derived.Test.YtmnkkpahbmcekaaDoorI6M
namespace Go.Proofs.YtmnkkpahbmcekaaDoor
open Go.ChangeShapes Go.WideShapes Go.ChangeAt Go.RowKit Go.Deep

/-- An answer: points in memory of their own, and a word. -/
def AnsV (v : Bool) (P : List Int) (w : World) (e : Ending) (w' : World) : Prop := ∃ (R : Option Addr) (c g : Nat), e = .returned (.tuple #[.slice R P.length c, .bool v]) ∧ w.heap.size ≤ g ∧ (0 < P.length → g < w'.heap.size) ∧ Own6 w' P R g ∧ Below w.heap.size w w'
theorem ansV_of {v : Bool} {P : List Int} {w : World} {e : Ending} {w' : World} (h : PtsPost v P w e w') : AnsV v (if v then P else []) w e w' := by
  cases v with
  | true => exact h.1 rfl
  | false =>
    obtain ⟨R, c, h1, h2⟩ := h.2 rfl
    exact ⟨R, c, w.heap.size, h1, Nat.le_refl _, fun hp => absurd hp (by simp), own6_nil _ _ _, h2⟩

set_option maxHeartbeats 2000000 in
set_option maxRecDepth 100000 in
theorem fnExactPointsOfLaw (s : ByteArray) (w : World) (hs : s.size ≤ maxLen) (hT : Tabs w) :
    Calls Tryd.prog 3 #[.string s] w fun e w' => e = .returned (.bool true) ∧ Below w.heap.size w w' := by
  unfold maxLen at hs
  by_cases hl : s.size ≤ 1048576
  · have HT := Lib.hid hT
    have CS0 := fun W => (specPts_any s W).mono fun e w' h => ansV_of h
    have CI0 := fun W h => (implPts_any s W hl h).mono fun e w' h => ansV_of h
    have hjl : (if (decide (s.size ≤ 24) && Lib.validD s.data.toList) = true then ptsD s.size s.data.toList else []).length ≤ 1048576 := by
      split
      · exact Nat.le_trans (ptsD_len _ _) hl
      · simp
    generalize (decide (s.size ≤ 24) && Lib.validD s.data.toList) = v at *
    generalize (if v = true then ptsD s.size s.data.toList else []) = J at *
    have CS := Lib.hid CS0
    have CI := Lib.hid CI0
    have EJ := Lib.hid (fun R R' c c' W h h' => eqI64_any J hjl R R' c c' W h h')
    obtain ⟨M, hM⟩ : ∃ M, 1 + J.length = M := ⟨_, rfl⟩
    have MJ : Hid (∀ (R : Option Addr) (c g : Nat) (W : World), Own6 W J R g → Calls Tryd.prog 12 #[.slice R J.length c, .int .i64 1] W fun e w' => e = .returned (.int .i64 (M : Int)) ∧ Own6 w' (seq6 1 J.length) R g ∧ But6 [g] W w' ∧ (J.length = 0 → w' = W)) := Lib.hid (fun R c g W h => (mark6_any J hjl 1 (by omega) R c g W h).mono fun _ _ j => ⟨by rw [j.1, hM], j.2⟩)
    have HH : Hid (∀ (R : Option Addr) (c g : Nat) (W : World), Own6 W (seq6 1 J.length) R g → Calls Tryd.prog 13 #[.slice R J.length c, .int .i64 1] W fun e w' => e = .returned (.int .i64 (M : Int)) ∧ Below W.heap.size W w') := Lib.hid (fun R c g W h => (held6_any J.length hjl 1 (by omega) R c g W h).mono fun _ _ j => ⟨by rw [j.1, hM], j.2⟩)
    have hM0 : (0 : Int) ≤ (M : Int) := by omega
    have hi : ¬ (1048576 : Int) < (s.size : Int) := by omega
    clear hT CS0 CI0 hjl hM hl hs
    go_enter Tryd.func3, Tryd.ntmps3
    go_wp2_with fail
    go_at_call 9
    refine (CS.out _).mono ?_
    rintro e w2 ⟨RW, cW, gW, rfl, _, hlW, hoW, hb2⟩
    have HB2 := Lib.hid hb2
    have W_2 := Lib.hid hoW
    have LW := Lib.hid hlW
    clear hb2 hoW hlW
    go_wp2_with fail
    go_at_call 10
    refine (CI.out _ (HT.out.keep HB2.out)).mono ?_
    rintro e w3 ⟨RG, cG, gG, rfl, hgG, _, hoG, hb3⟩
    have HB3 := Lib.hid (next6 HB2.out hb3)
    have W_3 := Lib.hid (W_2.out.below hb3)
    have G_3 := Lib.hid hoG
    have GG := Lib.hid hgG
    clear hb3 hoG hgG
    go_wp2_with fail
    go_at_call 11
    refine (EJ.out _ _ _ _ _ G_3.out.row W_3.out.row).mono ?_
    rintro e w4 ⟨rfl, hb4⟩
    have HB4 := Lib.hid (next6 HB3.out hb4)
    have W_4 := Lib.hid (W_3.out.below hb4)
    have G_4 := Lib.hid (G_3.out.below hb4)
    clear hb4
    go_wp2_with fail
    go_at_call 12
    refine (MJ.out _ _ _ _ G_4.out).mono ?_
    rintro e w5 ⟨rfl, hm5, hk5, _⟩
    have HB5 : Hid (Below w.heap.size w w5) := Lib.hid (HB4.out.trans (hk5.below (fun b hb => by
      obtain rfl : b = gG := by simpa using hb
      exact Nat.le_trans HB2.out.size GG.out) HB4.out.size))
    have W_5 := Lib.hid (W_4.out.but hk5 (fun hp hm => by
      have e9 : gW = gG := by simpa using hm
      have l9 := LW.out hp
      have m9 := GG.out
      omega))
    have G_5 := Lib.hid hm5
    clear hm5 hk5
    go_wp2_with fail
    go_at_call 13
    refine (HH.out _ _ _ _ G_5.out).mono ?_
    rintro e w6 ⟨rfl, hb6⟩
    have HB6 := Lib.hid (next6 HB5.out hb6)
    have W_6 := Lib.hid (W_5.out.below hb6)
    have G_6 := Lib.hid (G_5.out.below hb6)
    clear hb6
    go_wp2_with fail
    go_at_call 10
    refine (CI.out _ (HT.out.keep HB6.out)).mono ?_
    rintro e w7 ⟨RZ, cZ, gZ, rfl, _, _, hoZ, hb7⟩
    have HB7 := Lib.hid (next6 HB6.out hb7)
    have W_7 := Lib.hid (W_6.out.below hb7)
    have G_7 := Lib.hid (G_6.out.below hb7)
    have Z_7 := Lib.hid hoZ
    clear hb7 hoZ
    go_wp2_with fail
    go_at_call 11
    refine (EJ.out _ _ _ _ _ Z_7.out.row W_7.out.row).mono ?_
    rintro e w8 ⟨rfl, hb8⟩
    have HB8 := Lib.hid (next6 HB7.out hb8)
    have G_8 := Lib.hid (G_7.out.below hb8)
    clear hb8
    go_wp2_with fail
    go_at_call 13
    refine (HH.out _ _ _ _ G_8.out).mono ?_
    rintro e w9 ⟨rfl, hb9⟩
    have HB9 := Lib.hid (next6 HB8.out hb9)
    clear hb9
    go_wp2_with fail
    go_ret
    exact ⟨rfl, HB9.out⟩
  · have hi : (1048576 : Int) < (s.size : Int) := by omega
    clear hl hs hT
    go_enter Tryd.func3, Tryd.ntmps3
    go_wp2_with fail
    go_ret
    exact ⟨rfl, Below.refl _ _⟩
end Go.Proofs.YtmnkkpahbmcekaaDoor
