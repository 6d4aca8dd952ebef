/-
  The walk of the law FnExactFlatOfAll: both answer alike, the argument stays, the answer lies in memory of its own.
-/
import Derived.Test.YtlmmbheamicdaabMFl
namespace Go.Proofs.Ytlmmbheamicdaab
open Go.ChangeShapes Go.WideShapes Go.ChangeAt Go.RowKit Go.Deep

set_option maxHeartbeats 2000000 in
set_option maxRecDepth 100000 in
theorem fnExactFlatOfAllLaw (ks : List Ty) (B : Option Addr) (cb : Nat) (w : World) (h : Ty.RowAt w 0 ks B) (hl : ks.length ≤ maxLen) (hf : ∀ t ∈ ks, t.Fin) (hm : MaxC w) :
    Calls Try.prog 6 #[.slice B ks.length cb] w fun e w' => e = .returned (.bool true) ∧ Below w.heap.size w w' := by
  have S := szTypeS_of ks hl (fun i t ht => szType_any t (hf t (List.mem_of_getElem? ht))) 1048576 (by omega) (by omega) B cb 0
  have HA := Lib.hid h
  have HM := Lib.hid hm
  have hn0 := Ty.wts_nonneg ks
  clear h hm hf
  by_cases hn : 1048576 - (ks.length : Int) - Ty.wts ks < 0
  · rw [leftOr_neg hn] at S
    have S := Lib.hid S
    clear hn hl
    go_enter Try.func6, Try.ntmps6
    go_wp2_with fail
    go_at_call 16
    refine (S.out _ HA.out).mono ?_
    rintro e w2 ⟨rfl, hb2⟩
    have HB2 := Lib.hid hb2
    clear hb2
    go_wp2_with fail
    go_ret
    exact ⟨rfl, HB2.out⟩
  · have hT : (ks.length : Int) + Ty.wts ks ≤ 1048576 := by omega
    rw [leftOr_pos (by omega)] at S
    obtain ⟨L, hL⟩ : ∃ L, 1048576 - (ks.length : Int) - Ty.wts ks = L := ⟨_, rfl⟩
    rw [hL] at S
    have hL0 : 0 ≤ L := by omega
    have S := Lib.hid S
    obtain ⟨hlk, hwk⟩ := wt_in hT
    obtain ⟨P, h1, h0⟩ : ∃ P : List Int, (RowOk ks → P = Ty.flats ks) ∧ (¬ RowOk ks → P = []) := by
      by_cases ho : RowOk ks
      · exact ⟨_, fun _ => rfl, fun h => absurd ho h⟩
      · exact ⟨_, fun h => absurd h ho, fun _ => rfl⟩
    have hPl := rowFlat_len h1 h0
    have hmc := Ty.mcs_le7 ks
    have HT := Lib.hid (fun W (h : Ty.RowAt W 0 ks B) => toTypeS_of ks hlk (fun i t ht => toType_any t (hwk i t ht)) B cb 0 W h)
    have HTO := Lib.hid (fun W (h : Ty.RowAt W 0 ks B) => toTypeS_own_of ks hlk (fun i t ht => toType_own t (hwk i t ht)) B cb 0 W h)
    have HE := Lib.hid (fun B1 B2 c1 c2 lo lo' W h h' => eqTypeS_of ks hlk (fun i t ht => eqType_any t (hwk i t ht)) B1 B2 c1 c2 lo lo' W h h')
    have HS := Lib.hid (fun B c lo W h => (specFlatAll_any ks hT B c lo W h P h1 h0).mono fun _ _ k => flatAns k)
    have HI := Lib.hid (fun B c lo W h h2 => (implFlatAll_any ks hT B c lo W h h2 P h1 h0).mono fun _ _ k => flatAns k)
    have EJ := Lib.hid (fun R R' c c' W h h' => eqI64_any P hPl R R' c c' W h h')
    obtain ⟨K, hK⟩ : ∃ K, 1 + Ty.mcs ks = K := ⟨_, rfl⟩
    have HMT : Hid (∀ (R : Option Addr) (c : Nat) (bs : List Nat) (W : World), Ty.RowsOwn W ks R bs → bs.Nodup → Calls Try.prog 14 #[.slice R ks.length c, .int .i64 1] W fun e w' => e = .returned (.int .i64 (K : Int)) ∧ Kb bs W w') := Lib.hid (fun R c bs W h hd => (markTypeS_rows ks 1 (by omega) (by omega) R c bs W h hd).mono fun _ _ j => ⟨by rw [j.1, hK], j.2.2⟩)
    have hK0 : (0 : Int) ≤ (K : Int) := by omega
    obtain ⟨Q, hQ⟩ : ∃ Q, 1 + P.length = Q := ⟨_, rfl⟩
    have HMK : Hid (∀ (R : Option Addr) (c g : Nat) (W : World), Own6 W P R g → Calls Try.prog 23 #[.slice R P.length c, .int .i64 1] W fun e w' => e = .returned (.int .i64 (Q : Int)) ∧ Own6 w' (seq6 1 P.length) R g ∧ But6 [g] W w' ∧ (P.length = 0 → w' = W)) := Lib.hid (fun R c g W h => (mark6_any P hPl 1 (by omega) R c g W h).mono fun _ _ j => ⟨by rw [j.1, hQ], j.2⟩)
    have HHK : Hid (∀ (R : Option Addr) (c g : Nat) (W : World), Own6 W (seq6 1 P.length) R g → Calls Try.prog 24 #[.slice R P.length c, .int .i64 1] W fun e w' => e = .returned (.int .i64 (Q : Int)) ∧ Below W.heap.size W w') := Lib.hid (fun R c g W h => (held6_any P.length hPl 1 (by omega) R c g W h).mono fun _ _ j => ⟨by rw [j.1, hQ], j.2⟩)
    have hQ0 : (0 : Int) ≤ (Q : Int) := by omega
    clear hn hL hn0 hT hlk hwk hl h1 h0 hPl hmc hK hQ
    go_enter Try.func6, Try.ntmps6
    go_wp2_with fail
    go_at_call 16
    refine (S.out _ HA.out).mono ?_
    rintro e w2 ⟨rfl, hb2⟩
    have HB2 := Lib.hid hb2
    clear hb2 S
    go_wp2_with fail
    go_at_call 18
    refine (HT.out _ (HA.out.below HB2.out)).mono ?_
    rintro e w3 ⟨rfl, ha3, hb3⟩
    have HB3 := Lib.hid (bnext HB2.out hb3)
    have HA3 := Lib.hid ha3
    clear hb3 ha3
    go_wp2_with fail
    go_at_call 25
    refine (HS.out _ _ _ _ HA3.out).mono ?_
    rintro e w4 ⟨R4, c4, g4, rfl, _, hl4, ho4, hb4⟩
    have HB4 := Lib.hid (bnext HB3.out hb4)
    have N4 := Lib.hid ho4
    have L4 := Lib.hid hl4
    clear hb4 ho4 hl4
    go_wp2_with fail
    go_at_call 18
    refine (HTO.out _ (HA.out.below HB4.out)).mono ?_
    rintro e w5 ⟨rfl, ⟨bs5, hro5, hnd5, hbs5⟩, hb5⟩
    have HB5 := Lib.hid (bnext HB4.out hb5)
    have N5 := Lib.hid (N4.out.below hb5)
    have HO5 := Lib.hid hro5
    have HD5 := Lib.hid hnd5
    have HBS5 := Lib.hid hbs5
    have HA5 := Lib.hid (rowsAt7 hro5 (lo := 0) (fun _ _ => Nat.zero_le _))
    have S5 := Lib.hid hb5.size
    clear hb5 hro5 hnd5 hbs5
    go_wp2_with fail
    go_at_call 26
    refine (HI.out _ _ _ _ HA5.out (HM.out.keep HB5.out)).mono ?_
    rintro e w6 ⟨R6, c6, g6, rfl, hg6, _, ho6, hb6⟩
    have HB6 := Lib.hid (bnext HB5.out hb6)
    have N6 := Lib.hid (N5.out.below hb6)
    have M6 := Lib.hid ho6
    have G6 := Lib.hid hg6
    have HO6 := Lib.hid (HO5.out.keep (KeptBut.of_below (bs := []) hb6) (by simp))
    have HA6 := Lib.hid (HA5.out.below hb6)
    clear hb6 ho6 hg6
    go_wp2_with fail
    go_at_call 22
    refine (EJ.out _ _ _ _ _ M6.out.row N6.out.row).mono ?_
    rintro e w7 ⟨rfl, hb7⟩
    have HB7 := Lib.hid (bnext HB6.out hb7)
    have N7 := Lib.hid (N6.out.below hb7)
    have M7 := Lib.hid (M6.out.below hb7)
    have HO7 := Lib.hid (HO6.out.keep (KeptBut.of_below (bs := []) hb7) (by simp))
    have HA7 := Lib.hid (HA6.out.below hb7)
    clear hb7
    go_wp2_with fail
    go_at_call 18
    refine (HT.out _ (HA.out.below HB7.out)).mono ?_
    rintro e w8 ⟨rfl, ha8, hb8⟩
    have HB8 := Lib.hid (bnext HB7.out hb8)
    have N8 := Lib.hid (N7.out.below hb8)
    have M8 := Lib.hid (M7.out.below hb8)
    have HO8 := Lib.hid (HO7.out.keep (KeptBut.of_below (bs := []) hb8) (by simp))
    have HA8 := Lib.hid (HA7.out.below hb8)
    have HC8 := Lib.hid ha8
    clear hb8 ha8
    go_wp2_with fail
    go_at_call 11
    refine (HE.out _ _ _ _ _ _ _ HA8.out HC8.out).mono ?_
    rintro e w9 ⟨rfl, hb9⟩
    have HB9 := Lib.hid (bnext HB8.out hb9)
    have N9 := Lib.hid (N8.out.below hb9)
    have M9 := Lib.hid (M8.out.below hb9)
    have HO9 := Lib.hid (HO8.out.keep (KeptBut.of_below (bs := []) hb9) (by simp))
    clear hb9
    go_wp2_with fail
    go_at_call 14
    refine (HMT.out _ _ _ _ HO9.out HD5.out).mono ?_
    rintro e w10 ⟨rfl, hk10⟩
    have HB10 : Hid (Below w.heap.size w w10) := Lib.hid (HB9.out.trans (kbBelow7 hk10 (fun b hb => Nat.le_trans HB4.out.size (HBS5.out b hb).1) HB9.out.size))
    have N10 := Lib.hid (N9.out.but (kbBut6 hk10) (fun hp hm => by
      have h1 := L4.out hp
      have h2 := HBS5.out _ hm
      omega))
    have M10 := Lib.hid (M9.out.but (kbBut6 hk10) (fun hp hm => by
      have h1 := G6.out
      have h2 := HBS5.out _ hm
      omega))
    clear hk10 N9 M9 HO9
    go_wp2_with fail
    go_at_call 22
    refine (EJ.out _ _ _ _ _ M10.out.row N10.out.row).mono ?_
    rintro e w11 ⟨rfl, hb11⟩
    have HB11 := Lib.hid (bnext HB10.out hb11)
    have N11 := Lib.hid (N10.out.below hb11)
    have M11 := Lib.hid (M10.out.below hb11)
    clear hb11
    go_wp2_with fail
    go_at_call 23
    refine (HMK.out _ _ _ _ M11.out).mono ?_
    rintro e w12 ⟨rfl, ho12, hk12, _⟩
    have HB12 : Hid (Below w.heap.size w w12) := Lib.hid (HB11.out.trans (hk12.below (fun b hb => by
      rw [List.mem_singleton] at hb
      subst hb
      exact Nat.le_trans HB5.out.size G6.out) HB11.out.size))
    have N12 := Lib.hid (N11.out.but hk12 (fun hp hm => by
      rw [List.mem_singleton] at hm
      have h1 := L4.out hp
      have h2 := G6.out
      have h3 := S5.out
      omega))
    have M12 := Lib.hid ho12
    clear hk12 ho12 N11 M11
    go_wp2_with fail
    go_at_call 24
    refine (HHK.out _ _ _ _ M12.out).mono ?_
    rintro e w13 ⟨rfl, hb13⟩
    have HB13 := Lib.hid (bnext HB12.out hb13)
    have N13 := Lib.hid (N12.out.below hb13)
    have M13 := Lib.hid (M12.out.below hb13)
    clear hb13
    go_wp2_with fail
    go_at_call 18
    refine (HT.out _ (HA.out.below HB13.out)).mono ?_
    rintro e w14 ⟨rfl, ha14, hb14⟩
    have HB14 := Lib.hid (bnext HB13.out hb14)
    have N14 := Lib.hid (N13.out.below hb14)
    have M14 := Lib.hid (M13.out.below hb14)
    have HA14 := Lib.hid ha14
    clear hb14 ha14
    go_wp2_with fail
    go_at_call 26
    refine (HI.out _ _ _ _ HA14.out (HM.out.keep HB14.out)).mono ?_
    rintro e w15 ⟨R15, c15, g15, rfl, _, _, ho15, hb15⟩
    have HB15 := Lib.hid (bnext HB14.out hb15)
    have N15 := Lib.hid (N14.out.below hb15)
    have M15 := Lib.hid (M14.out.below hb15)
    have L15 := Lib.hid ho15
    clear hb15 ho15
    go_wp2_with fail
    go_at_call 22
    refine (EJ.out _ _ _ _ _ L15.out.row N15.out.row).mono ?_
    rintro e w16 ⟨rfl, hb16⟩
    have HB16 := Lib.hid (bnext HB15.out hb16)
    have M16 := Lib.hid (M15.out.below hb16)
    clear hb16
    go_wp2_with fail
    go_at_call 24
    refine (HHK.out _ _ _ _ M16.out).mono ?_
    rintro e w17 ⟨rfl, hb17⟩
    have HB17 := Lib.hid (bnext HB16.out hb17)
    clear hb17
    go_wp2_with fail
    go_ret
    exact ⟨rfl, HB17.out⟩
end Go.Proofs.Ytlmmbheamicdaab
