/-
  The walk of the law FnExactTextOf: both answer alike, the argument stays.
-/
import Derived.Test.YtmnkkpahbmcekaaDoorTextOf
namespace Go.Proofs.YtmnkkpahbmcekaaDoor
open Go.ChangeShapes Go.WideShapes Go.ChangeAt Go.RowKit Go.Deep

set_option maxHeartbeats 1000000 in
theorem fnExactTextOfLaw (P : List Int) (R : Option Addr) (c : Nat) (w : World) (h : Row6 w P R) (hl : P.length ≤ maxLen) (_ : ∀ n ∈ P, -9223372036854775808 ≤ n ∧ n ≤ 9223372036854775807) (hT : Tabs w) :
    Calls Tryd.prog 4 #[.slice R P.length c] w fun e w' => e = .returned (.bool true) ∧ Below w.heap.size w w' := by
  have H := Lib.hid h
  have HT := Lib.hid hT
  clear h hT
  unfold maxLen at hl
  by_cases h20 : P.length ≤ 1048576
  · have h20i : ¬ (1048576 : Int) < (P.length : Int) := by omega
    obtain ⟨T, v, hv⟩ : ∃ (T : ByteArray) (v : Bool), ∀ (w : World) (e : Ending) (w' : World), TxPost P w e w' → e = .returned (.tuple #[.string T, .bool v]) ∧ Below w.heap.size w w' := by
      by_cases ho : TxOk P
      · exact ⟨_, true, fun w e w' h => ⟨h.1 ho, h.2.2⟩⟩
      · exact ⟨_, false, fun w e w' h => ⟨h.2.1 ho, h.2.2⟩⟩
    have CT := Lib.hid (fun R c W h => toI64_any P R c h20 W h)
    have CS := Lib.hid (fun R c W h => (specTextOf_any P h20 R c W h).mono fun e w' j => hv W e w' j)
    have CI := Lib.hid (fun R c W h hT => (implTextOf_any P h20 R c W h hT).mono fun e w' j => hv W e w' j)
    have CE := Lib.hid (fun R R' c c' W h h' => eqI64_any P h20 R R' c c' W h h')
    clear hv h20 hl
    go_enter Tryd.func4, Tryd.ntmps4
    go_wp2_with fail
    go_at_call 15
    refine (CT.out _ _ _ H.out).mono ?_
    rintro e w2 ⟨R2, c2, g2, rfl, _, _, ho2, hb2⟩
    have HO2 := Lib.hid ho2
    have HB2 := Lib.hid hb2
    clear ho2 hb2
    go_wp2_with fail
    go_at_call 14
    refine (CS.out _ _ _ HO2.out.row).mono ?_
    rintro e w3 ⟨rfl, hb3⟩
    have HB3 := Lib.hid (next6 HB2.out hb3)
    clear hb3
    go_wp2_with fail
    go_at_call 15
    refine (CT.out _ _ _ (H.out.below HB3.out)).mono ?_
    rintro e w4 ⟨R4, c4, g4, rfl, _, _, ho4, hb4⟩
    have HO4 := Lib.hid ho4
    have HB4 := Lib.hid (next6 HB3.out hb4)
    clear ho4 hb4
    go_wp2_with fail
    go_at_call 16
    refine (CI.out _ _ _ HO4.out.row (HT.out.keep HB4.out)).mono ?_
    rintro e w5 ⟨rfl, hb5⟩
    have HO5 := Lib.hid (HO4.out.below hb5)
    have HB5 := Lib.hid (next6 HB4.out hb5)
    clear hb5
    go_wp2_with fail
    go_at_call 15
    refine (CT.out _ _ _ (H.out.below HB5.out)).mono ?_
    rintro e w6 ⟨R6, c6, g6, rfl, _, _, ho6, hb6⟩
    have HO6 := Lib.hid ho6
    have HX6 := Lib.hid (HO5.out.below hb6)
    have HB6 := Lib.hid (next6 HB5.out hb6)
    clear ho6 hb6
    go_wp2_with fail
    go_at_call 11
    refine (CE.out _ _ _ _ _ HX6.out.row HO6.out.row).mono ?_
    rintro e w7 ⟨rfl, hb7⟩
    have HB7 := Lib.hid (next6 HB6.out hb7)
    clear hb7
    go_wp2_with fail
    go_ret
    exact ⟨rfl, HB7.out⟩
  · have h20i : (1048576 : Int) < (P.length : Int) := by omega
    clear h20 hl
    go_enter Tryd.func4, Tryd.ntmps4
    go_wp2_with fail
    go_ret
    exact ⟨rfl, Below.refl _ _⟩
end Go.Proofs.YtmnkkpahbmcekaaDoor
