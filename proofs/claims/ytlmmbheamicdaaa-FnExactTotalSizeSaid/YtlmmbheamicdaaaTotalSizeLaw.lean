/-
  The walk of the law FnExactTotalSize: both answer alike, and the argument stays.
-/
import Derived.Test.YtlmmbheamicdaaaLayL
namespace Go.Proofs.Ytlmmbheamicdaaa
open Go.ChangeShapes Go.WideShapes Go.ChangeAt Go.RowKit Go.Deep

set_option maxHeartbeats 1000000 in
set_option maxRecDepth 100000 in
theorem fnExactTotalSizeLaw (ks : List Ty) (B : Option Addr) (cb : Nat) (w : World) (h : Ty.RowAt w 0 ks B) (hl : ks.length ≤ maxLen) (hf : ∀ t ∈ ks, t.Fin) (hm : MaxC w) :
    Calls Try.prog 10 #[.slice B ks.length cb] w fun e w' => e = .returned (.bool true) ∧ Below w.heap.size w w' := by
  have S := szTypeS_of ks hl (fun i t ht => szType_any t (hf t (List.mem_of_getElem? ht))) 1048576 (by omega) (by omega) B cb 0
  have HA := Lib.hid h
  have HM := Lib.hid hm
  have hn0 := Ty.wts_nonneg ks
  clear h hm hf
  by_cases hn : 1048576 - (ks.length : Int) - Ty.wts ks < 0
  · rw [leftOr_neg hn] at S
    have S := Lib.hid S
    clear hn hl
    go_enter Try.func10, Try.ntmps10
    go_wp2_with fail
    go_at_call 35
    refine (S.out _ HA.out).mono ?_
    rintro e w2 ⟨rfl, hb2⟩
    have HB2 := Lib.hid hb2
    clear hb2
    go_wp2_with fail
    go_ret
    exact ⟨rfl, HB2.out⟩
  · have hT : (ks.length : Int) + Ty.wts ks ≤ 1048576 := by omega
    rw [leftOr_pos (by omega)] at S
    obtain ⟨L, hL⟩ : ∃ L, 1048576 - (ks.length : Int) - Ty.wts ks = L := ⟨_, rfl⟩
    rw [hL] at S
    have hL0 : 0 ≤ L := by omega
    have S := Lib.hid S
    obtain ⟨hlk, hwk⟩ := wt_in hT
    have HT := Lib.hid (fun W (h : Ty.RowAt W 0 ks B) => toTypeS_of ks hlk (fun i t ht => toType_any t (hwk i t ht)) B cb 0 W h)
    have HE := Lib.hid (fun B1 B2 c1 c2 lo lo' W h h' => eqTypeS_of ks hlk (fun i t ht => eqType_any t (hwk i t ht)) B1 B2 c1 c2 lo lo' W h h')
    have HS := Lib.hid (fun B c lo W h => specTotalSize_any ks hT B c lo W h)
    have HI := Lib.hid (fun B c lo W h h2 => implTotalSize_any ks hT B c lo W h h2)
    clear hn hL hn0 hT hlk hwk hl
    go_enter Try.func10, Try.ntmps10
    go_wp2_with fail
    go_at_call 35
    refine (S.out _ HA.out).mono ?_
    rintro e w2 ⟨rfl, hb2⟩
    have HB2 := Lib.hid hb2
    clear hb2 S
    go_wp2_with fail
    go_at_call 37
    refine (HT.out _ (HA.out.below HB2.out)).mono ?_
    rintro e w3 ⟨rfl, ha3, hb3⟩
    have HB3 := Lib.hid (bnext HB2.out hb3)
    have HA3 := Lib.hid ha3
    clear hb3 ha3
    go_wp2_with fail
    go_at_call 36
    refine (HS.out _ _ _ _ HA3.out).mono ?_
    rintro e w4 ⟨v, rfl, hv, hb4⟩
    have HB4 := Lib.hid (bnext HB3.out hb4)
    have HV := Lib.hid hv
    clear hv hb4
    go_wp2_with fail
    go_at_call 37
    refine (HT.out _ (HA.out.below HB4.out)).mono ?_
    rintro e w5 ⟨rfl, ha5, hb5⟩
    have HB5 := Lib.hid (bnext HB4.out hb5)
    have HA5 := Lib.hid ha5
    clear hb5 ha5
    go_wp2_with fail
    go_at_call 38
    refine (HI.out _ _ _ _ HA5.out (HM.out.keep HB5.out)).mono ?_
    rintro e w6 ⟨u, rfl, hu, hb6⟩
    have HB6 := Lib.hid (bnext HB5.out hb6)
    have HA6 := Lib.hid (HA5.out.below hb6)
    obtain rfl : v = u := saysInt_same HV.out hu
    clear hu hb6
    go_wp2_with fail
    go_at_call 37
    refine (HT.out _ (HA.out.below HB6.out)).mono ?_
    rintro e w7 ⟨rfl, ha7, hb7⟩
    have HB7 := Lib.hid (bnext HB6.out hb7)
    have HA7 := Lib.hid ha7
    have HA67 := Lib.hid (HA6.out.below hb7)
    clear hb7 ha7
    go_wp2_with fail
    go_at_call 39
    refine (HE.out _ _ _ _ _ _ _ HA67.out HA7.out).mono ?_
    rintro e w8 ⟨rfl, hb8⟩
    have HB8 := Lib.hid (bnext HB7.out hb8)
    clear hb8
    go_wp2_with fail
    go_ret
    exact ⟨rfl, HB8.out⟩
end Go.Proofs.Ytlmmbheamicdaaa
