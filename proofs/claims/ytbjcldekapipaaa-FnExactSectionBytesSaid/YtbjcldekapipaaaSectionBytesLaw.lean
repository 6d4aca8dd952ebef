/-
  The walk of the law FnExactSectionBytes.
-/
import Derived.Test.YtbjcldekapipaaaSecA
import Derived.Test.YtbjcldekapipaaaSecI
namespace Go.Proofs.Ytbjcldekapipaaa
open Go.ChangeShapes Go.WideShapes Go.ChangeAt Go.RowKit Go.Deep

set_option maxHeartbeats 1000000 in
set_option maxRecDepth 100000 in
theorem fnExactSectionBytesLaw (xs : List Sc) (R : Option Addr) (c : Nat) (w : World) (ha : Scs w 0 xs R) (hl : xs.length ≤ maxLen) (hf : ∀ x ∈ xs, x.Fin) :
    Calls Try.prog 4 #[.slice R xs.length c] w fun e w' => e = .returned (.bool true) ∧ Below w.heap.size w w' := by
  have SX := (fun W (h : Scs W 0 xs R) => szSectionS_any xs hl hf 1048576 (by omega) (by omega) R c 0 W h)
  have HA := Lib.hid ha
  by_cases hn : (1048576 : Int) - ((xs.length : Int) + Sc.wts xs) < 0
  · rw [leftOr_neg hn] at SX
    have SX := Lib.hid SX
    clear hn ha hf hl
    go_enter Try.func4, Try.ntmps4
    go_wp2_with (go_at_call 11; refine (SX.out _ HA.out).mono ?_; rintro e w1 ⟨rfl, h1⟩; have HB1 := Lib.hid h1; clear h1)
    go_ret
    exact ⟨rfl, HB1.out⟩
  · rw [leftOr_pos (by omega)] at SX
    obtain ⟨M, hM⟩ : ∃ M, (1048576 : Int) - ((xs.length : Int) + Sc.wts xs) = M := ⟨_, rfl⟩
    rw [hM] at SX
    have hM0 : ¬ M < 0 := by omega
    have hnn := Sc.wts_nonneg xs
    have hx : xs.length ≤ 1048576 := by omega
    have hw0 : ∀ (i : Nat) (x : Sc), xs[i]? = some x → x.wt ≤ 1048576 := fun i x hix => by have := Sc.wt_mem hix; omega
    have SX := Lib.hid SX
    have TX := Lib.hid (fun W (h : Scs W 0 xs R) => toSectionS_any xs hx hw0 R c 0 W h)
    have SP := Lib.hid (fun (R' : Option Addr) (c' lo : Nat) (W : World) (h : Scs W lo xs R') => specSectionBytes_any xs hx hw0 R' c' lo W h)
    have IM := Lib.hid (fun (R' : Option Addr) (c' lo : Nat) (W : World) (h : Scs W lo xs R') => implSectionBytes_any xs hx hw0 R' c' lo W h )
    have EQ := Lib.hid (fun (R1 R2 : Option Addr) (c1 c2 l1 l2 : Nat) (W : World) (h1 : Scs W l1 xs R1) (h2 : Scs W l2 xs R2) => eqSectionS_any xs hx hw0 R1 R2 c1 c2 l1 l2 W h1 h2)
    generalize secA xs = T at *
    clear hn ha hf hl hM hw0
    go_enter Try.func4, Try.ntmps4
    go_wp2_with fail
    go_at_call 11
    refine (SX.out _ HA.out).mono ?_
    rintro e w1 ⟨rfl, h1⟩
    have HB1 := Lib.hid h1
    have HA1 := Lib.hid (Scs.below HA.out h1)
    clear h1
    go_wp2_with fail
    go_at_call 13
    refine (TX.out _ HA1.out).mono ?_
    rintro e w2 ⟨R2, c2, rfl, h2, hb2⟩
    have HX2 := Lib.hid h2
    have HB2 := Lib.hid (bnext HB1.out hb2)
    have HA2 := Lib.hid (Scs.below HA1.out hb2)
    clear h2 hb2
    go_wp2_with fail
    go_at_call 12
    refine (SP.out _ _ _ _ HX2.out).mono ?_
    rintro e w3 ⟨rfl, hb3⟩
    have HB3 := Lib.hid (bnext HB2.out hb3)
    have HA3 := Lib.hid (Scs.below HA2.out hb3)
    clear hb3
    go_wp2_with fail
    go_at_call 13
    refine (TX.out _ HA3.out).mono ?_
    rintro e w4 ⟨R4, c4, rfl, h4, hb4⟩
    have HX4 := Lib.hid h4
    have HB4 := Lib.hid (bnext HB3.out hb4)
    have HA4 := Lib.hid (Scs.below HA3.out hb4)
    clear h4 hb4
    go_wp2_with fail
    go_at_call 14
    refine (IM.out _ _ _ _ HX4.out).mono ?_
    rintro e w5 ⟨rfl, hb5⟩
    have HB5 := Lib.hid (bnext HB4.out hb5)
    have HA5 := Lib.hid (Scs.below HA4.out hb5)
    have HX5 := Lib.hid (Scs.below HX4.out hb5)
    clear hb5
    go_wp2_with fail
    go_at_call 13
    refine (TX.out _ HA5.out).mono ?_
    rintro e w6 ⟨R6, c6, rfl, h6, hb6⟩
    have HX6 := Lib.hid h6
    have HX56 := Lib.hid (Scs.below HX5.out hb6)
    have HB6 := Lib.hid (bnext HB5.out hb6)
    clear h6 hb6
    go_wp2_with fail
    go_at_call 15
    refine (EQ.out _ _ _ _ _ _ _ HX56.out HX6.out).mono ?_
    rintro e w7 ⟨rfl, hb7⟩
    have HB7 := Lib.hid (bnext HB6.out hb7)
    clear hb7
    go_wp2_with fail
    go_ret
    exact ⟨rfl, HB7.out⟩
end Go.Proofs.Ytbjcldekapipaaa
