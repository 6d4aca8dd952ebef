/-
  The walk of the law FnExactTokensText: both answer alike, and the argument stays.
-/
import Derived.Test.YtfadodmkppeodaaTokTextI
namespace Go.Proofs.Ytfadodmkppeodaa
open Go.ChangeShapes Go.WideShapes Go.ChangeAt Go.RowKit Go.Deep

theorem tokensTextLaw (xs : List Tok) (A : Option Addr) (ca : Nat) (w : World) (h : Toks w 0 xs A) (hx : xs.length ≤ maxLen) (fx : ∀ t ∈ xs, TokFin t) :
    Calls Try.prog 12 #[.slice A xs.length ca] w fun e w' => e = .returned (.bool true) ∧ Below w.heap.size w w' := by
  have S1 : Hid (∀ W : World, Toks W 0 xs A → Calls Try.prog 44 #[.slice A xs.length ca, .int .i64 1048576] W fun e w' => e = .returned (.int .i64 (leftOr (1048576 - xs.length - sumSz (txs xs)))) ∧ Below W.heap.size W w') := Lib.hid (fun W hW => szTokenS_any xs A ca 1048576 (by omega) (by omega) hx fx 0 W hW)
  have H := Lib.hid h
  have n1 := sumSz_nonneg (txs xs)
  obtain ⟨L, hL⟩ : ∃ L, 1048576 - (xs.length : Int) - sumSz (txs xs) = L := ⟨_, rfl⟩
  rw [hL] at S1
  by_cases hn : L < 0
  · rw [leftOr_neg hn] at S1
    clear h fx hx hL n1 hn
    go_enter Try.func12, Try.ntmps12
    go_wp2_with (go_at_call 44; (with_reducible refine (S1.out _ H.out).mono ?_); rintro e w2 ⟨rfl, hb2⟩)
    go_ret
    exact ⟨rfl, hb2⟩
  · rw [leftOr_pos (by omega)] at S1
    have hx1 : xs.length ≤ 1048576 := by omega
    have hs1 : sumSz (txs xs) ≤ 1048576 := by omega
    have hL0 : 0 ≤ L := by omega
    have TX : Hid (∀ W : World, Toks W 0 xs A → Calls Try.prog 46 #[.slice A xs.length ca] W fun e w' => e = .returned (.slice (some ⟨W.heap.size, 0, none⟩) xs.length xs.length) ∧ Toks w' W.heap.size xs (some ⟨W.heap.size, 0, none⟩) ∧ Below W.heap.size W w') := Lib.hid (fun W hW => toTokenS_any xs hx1 A ca 0 W hW)
    have CS := Lib.hid (fun A' ca' lo W h => specTokText_any xs hx1 hs1 A' ca' lo W h)
    have CI := Lib.hid (fun A' ca' lo W h => implTokText_any xs hx1 hs1 A' ca' lo W h)
    have CE := Lib.hid (fun A1 A2 c1 c2 lo lo' W h h' => eqTokenS_same xs hx1 A1 A2 c1 c2 lo lo' W h h')
    clear h fx hx hL n1 hn hs1
    go_enter Try.func12, Try.ntmps12
    go_wp2_with fail
    go_at_call 44
    refine (S1.out _ H.out).mono ?_
    rintro e w2 ⟨rfl, hb2⟩
    have HB2 := Lib.hid hb2
    clear hb2
    go_wp2_with fail
    go_at_call 46
    refine (TX.out _ (H.out.below HB2.out)).mono ?_
    rintro e w3 ⟨rfl, ht3, hb3⟩
    have HT3 := Lib.hid ht3
    have HB3 := Lib.hid (bnext HB2.out hb3)
    clear ht3 hb3
    go_wp2_with fail
    go_at_call 45
    refine (CS.out _ _ _ _ HT3.out).mono ?_
    rintro e w4 ⟨rfl, hb4⟩
    have HB4 := Lib.hid (bnext HB3.out hb4)
    clear hb4
    go_wp2_with fail
    go_at_call 46
    refine (TX.out _ (H.out.below HB4.out)).mono ?_
    rintro e w5 ⟨rfl, ht5, hb5⟩
    have HT5 := Lib.hid ht5
    have HB5 := Lib.hid (bnext HB4.out hb5)
    clear ht5 hb5
    go_wp2_with fail
    go_at_call 47
    refine (CI.out _ _ _ _ HT5.out).mono ?_
    rintro e w6 ⟨rfl, hb6⟩
    have HB6 := Lib.hid (bnext HB5.out hb6)
    have HN6 := Lib.hid hb6
    clear hb6
    go_wp2_with fail
    go_at_call 46
    refine (TX.out _ (H.out.below HB6.out)).mono ?_
    rintro e w7 ⟨rfl, ht7, hb7⟩
    have HT7 := Lib.hid ht7
    have HB7 := Lib.hid (bnext HB6.out hb7)
    have HN7 := Lib.hid hb7
    clear ht7 hb7
    go_wp2_with fail
    go_at_call 48
    refine (CE.out _ _ _ _ _ _ _ ((HT5.out.below HN6.out).below HN7.out) HT7.out).mono ?_
    rintro e w8 ⟨rfl, hb8⟩
    have HB8 := Lib.hid (bnext HB7.out hb8)
    clear hb8
    go_wp2_with fail
    go_ret
    exact ⟨rfl, HB8.out⟩
end Go.Proofs.Ytfadodmkppeodaa
