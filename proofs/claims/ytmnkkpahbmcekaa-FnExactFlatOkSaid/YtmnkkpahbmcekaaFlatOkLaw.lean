/-
  The walk of the law FnExactFlatOk: both answer alike, the arguments stay.
-/
import Derived.Test.YtmnkkpahbmcekaaFlatOk
namespace Go.Proofs.Ytmnkkpahbmcekaa
open Go.ChangeShapes Go.WideShapes Go.ChangeAt Go.RowKit Go.Deep

set_option maxHeartbeats 2000000 in
set_option maxRecDepth 100000 in
theorem flatOkLaw (K F : List Int) (R : Option Addr) (c : Nat) (R' : Option Addr) (c' : Nat) (w : World) (h : Row6 w K R) (h' : Row6 w F R') (hp : K.length ≤ 1048576) (hq : F.length ≤ 1048576) :
    Calls Try.prog 7 #[.slice R K.length c, .slice R' F.length c'] w fun e w' => e = .returned (.bool true) ∧ Below w.heap.size w w' := by
  have H := Lib.hid h
  have H' := Lib.hid h'
  obtain ⟨v, hv⟩ : ∃ v : Bool, v = true ↔ FOk K F := by
    by_cases ho : FOk K F
    · exact ⟨true, iff6T ho⟩
    · exact ⟨false, iff6F ho⟩
  have TP := Lib.hid (fun W h => toI64_any K R c hp W h)
  have TQ := Lib.hid (fun W h => toI64_any F R' c' hq W h)
  have EP := Lib.hid (fun R R' c c' W h h' => eqI64_any K hp R R' c c' W h h')
  have EQ := Lib.hid (fun R R' c c' W h h' => eqI64_any F hq R R' c c' W h h')
  have CS := Lib.hid (fun R R' c c' W h h' => (specFlatOk_any K F hp hq R R' c c' W h h').mono (R' := fun e w' => e = .returned (.bool v) ∧ Below W.heap.size W w') fun _ _ ⟨u, e1, e2, e3⟩ => ⟨by rw [e1, says6_same e2 hv], e3⟩)
  have CI := Lib.hid (fun R R' c c' W h h' => (implFlatOk_any K F hp hq R R' c c' W h h').mono (R' := fun e w' => e = .returned (.bool v) ∧ Below W.heap.size W w') fun _ _ ⟨u, e1, e2, e3⟩ => ⟨by rw [e1, says6_same e2 hv], e3⟩)
  have hPi : ¬ (1048576 : Int) < (K.length : Int) := by omega
  have hQi : ¬ (1048576 : Int) < (F.length : Int) := by omega
  clear h h' hp hq hv
  go_enter Try.func7, Try.ntmps7
  go_wp2_with fail
  go_at_call 14
  refine (TP.out _ H.out).mono ?_
  rintro e w2 ⟨RA, cA, gA, rfl, _, _, hoA, hb2⟩
  have HB2 := Lib.hid hb2
  have A_2 := Lib.hid hoA
  clear hoA hb2
  go_wp2_with fail
  go_at_call 14
  refine (TQ.out _ (H'.out.below HB2.out)).mono ?_
  rintro e w3 ⟨RB, cB, gB, rfl, _, _, hoB, hb3⟩
  have HB3 := Lib.hid (next6 HB2.out hb3)
  have A_3 := Lib.hid (A_2.out.below hb3)
  have B_3 := Lib.hid hoB
  clear hoB hb3
  go_wp2_with fail
  go_at_call 21
  refine (CS.out _ _ _ _ _ A_3.out.row B_3.out.row).mono ?_
  rintro e w4 ⟨rfl, hb4⟩
  have HB4 := Lib.hid (next6 HB3.out hb4)
  have A_4 := Lib.hid (A_3.out.below hb4)
  have B_4 := Lib.hid (B_3.out.below hb4)
  clear hb4
  go_wp2_with fail
  go_at_call 14
  refine (TP.out _ (H.out.below HB4.out)).mono ?_
  rintro e w5 ⟨RX, cX, gX, rfl, _, _, hoX, hb5⟩
  have HB5 := Lib.hid (next6 HB4.out hb5)
  have X_5 := Lib.hid hoX
  clear hoX hb5
  go_wp2_with fail
  go_at_call 14
  refine (TQ.out _ (H'.out.below HB5.out)).mono ?_
  rintro e w6 ⟨RY, cY, gY, rfl, _, _, hoY, hb6⟩
  have HB6 := Lib.hid (next6 HB5.out hb6)
  have X_6 := Lib.hid (X_5.out.below hb6)
  have Y_6 := Lib.hid hoY
  clear hoY hb6
  go_wp2_with fail
  go_at_call 22
  refine (CI.out _ _ _ _ _ X_6.out.row Y_6.out.row).mono ?_
  rintro e w7 ⟨rfl, hb7⟩
  have HB7 := Lib.hid (next6 HB6.out hb7)
  have X_7 := Lib.hid (X_6.out.below hb7)
  have Y_7 := Lib.hid (Y_6.out.below hb7)
  clear hb7
  go_wp2_with fail
  go_at_call 14
  refine (TP.out _ (H.out.below HB7.out)).mono ?_
  rintro e w8 ⟨RC, cC, gC, rfl, _, _, hoC, hb8⟩
  have HB8 := Lib.hid (next6 HB7.out hb8)
  have X_8 := Lib.hid (X_7.out.below hb8)
  have Y_8 := Lib.hid (Y_7.out.below hb8)
  have C_8 := Lib.hid hoC
  clear hoC hb8
  go_wp2_with fail
  go_at_call 16
  refine (EP.out _ _ _ _ _ X_8.out.row C_8.out.row).mono ?_
  rintro e w9 ⟨rfl, hb9⟩
  have HB9 := Lib.hid (next6 HB8.out hb9)
  have X_9 := Lib.hid (X_8.out.below hb9)
  have Y_9 := Lib.hid (Y_8.out.below hb9)
  have C_9 := Lib.hid (C_8.out.below hb9)
  clear hb9
  go_wp2_with fail
  go_at_call 14
  refine (TQ.out _ (H'.out.below HB9.out)).mono ?_
  rintro e w10 ⟨RD, cD, gD, rfl, _, _, hoD, hb10⟩
  have HB10 := Lib.hid (next6 HB9.out hb10)
  have Y_10 := Lib.hid (Y_9.out.below hb10)
  have D_10 := Lib.hid hoD
  clear hoD hb10
  go_wp2_with fail
  go_at_call 16
  refine (EQ.out _ _ _ _ _ Y_10.out.row D_10.out.row).mono ?_
  rintro e w11 ⟨rfl, hb11⟩
  have HB11 := Lib.hid (next6 HB10.out hb11)
  have Y_11 := Lib.hid (Y_10.out.below hb11)
  have D_11 := Lib.hid (D_10.out.below hb11)
  clear hb11
  go_wp2_with fail
  go_ret
  exact ⟨rfl, HB11.out⟩
set_option maxHeartbeats 1000000 in
theorem fnExactFlatOkLaw (K F : List Int) (R : Option Addr) (c : Nat) (R' : Option Addr) (c' : Nat) (w : World) (h : Row6 w K R) (h' : Row6 w F R') (hlP : K.length ≤ maxLen) (_ : ∀ n ∈ K, -9223372036854775808 ≤ n ∧ n ≤ 9223372036854775807) (hlQ : F.length ≤ maxLen) (_ : ∀ n ∈ F, -9223372036854775808 ≤ n ∧ n ≤ 9223372036854775807) :
    Calls Try.prog 7 #[.slice R K.length c, .slice R' F.length c'] w fun e w' => e = .returned (.bool true) ∧ Below w.heap.size w w' := by
  unfold maxLen at hlP hlQ
  by_cases hp : K.length ≤ 1048576
  · by_cases hq : F.length ≤ 1048576
    · exact flatOkLaw K F R c R' c' w h h' hp hq
    · have hPi : ¬ (1048576 : Int) < (K.length : Int) := by omega
      have hQi : (1048576 : Int) < (F.length : Int) := by omega
      clear hp hq hlP hlQ h h'
      go_enter Try.func7, Try.ntmps7
      go_wp2_with fail
      go_ret
      exact ⟨rfl, Below.refl _ _⟩
  · have hPi : (1048576 : Int) < (K.length : Int) := by omega
    clear hp hlP hlQ h h'
    go_enter Try.func7, Try.ntmps7
    go_wp2_with fail
    go_ret
    exact ⟨rfl, Below.refl _ _⟩
end Go.Proofs.Ytmnkkpahbmcekaa
