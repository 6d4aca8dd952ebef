/-
  The walk of the law FnExactPartsAt: both answer alike, the argument stays, the answer lies in memory of its own.
-/
import Derived.Test.YtlmmbheamicdaaaNums
import Derived.Test.YtlmmbheamicdaaaTyMDW
import Derived.Test.YtlmmbheamicdaaaTyOwnW
namespace Go.Proofs.Ytlmmbheamicdaaa
open Go.ChangeShapes Go.WideShapes Go.ChangeAt Go.RowKit Go.Deep

mutual
theorem Ty.mc_le : ∀ T : Ty, (T.mc : Int) ≤ 2 * T.wt
  | .mk k n ls ks => by
    have h1 := Ty.mcs_le ks
    have h2 := sumSz_nonneg ls
    rw [Ty.mc, Ty.wt]
    omega
theorem Ty.mcs_le : ∀ ks : List Ty, (Ty.mcs ks : Int) ≤ 2 * ks.length + 2 * Ty.wts ks
  | [] => by simp [Ty.mcs, Ty.wts]
  | t :: ts => by
    have h1 := Ty.mc_le t
    have h2 := Ty.mcs_le ts
    rw [Ty.mcs, Ty.wts]
    simp only [List.length_cons]
    omega
end
theorem kbBelow {bs : List Nat} {B : Nat} {w w' : World} (h : Kb bs w w') (hs : ∀ b ∈ bs, B ≤ b) (hB : B ≤ w.heap.size) : Below B w w' := ⟨h.os, h.tape, h.output, h.but.1, fun k hk => h.but.2 k (by omega) (fun hm => by have := hs k hm; omega)⟩
theorem rowsAt {w : World} {lo : Nat} {ks : List Ty} {B : Option Addr} {bs : List Nat} (h : Ty.RowsOwn w ks B bs) (hlo : ∀ b ∈ bs, lo ≤ b) : Ty.RowAt w lo ks B := by
  have h2 : Ty.Own w (.mk 0 ⟨#[]⟩ [] ks) none B bs := by
    unfold Ty.Own
    exact ⟨[], bs, by simp, Or.inl ⟨rfl, rfl⟩, h⟩
  exact (Ty.Own.at_ hlo h2).rowAt
/-- The answer: numbers in memory of their own. -/
def PartsAns (P : List Int) (w : World) (e : Ending) (w' : World) : Prop := ∃ (R : Option Addr) (c g : Nat), e = .returned (.slice R P.length c) ∧ w.heap.size ≤ g ∧ (0 < P.length → g < w'.heap.size) ∧ Nums w' P R g ∧ Below w.heap.size w w'

set_option maxRecDepth 100000 in
theorem specPartsAt_any (ks : List Ty) (hT : (ks.length : Int) + Ty.wts ks ≤ 1048576) (P : List Int) (hP1 : RowOk ks → P = Ty.offs 0 ks) (hP0 : ¬ RowOk ks → P = []) (B : Option Addr) (cb lo : Nat) (w : World) (h : Ty.RowAt w lo ks B) :
    Calls Try.prog 42 #[.slice B ks.length cb] w (PartsAns P w) := by
  obtain ⟨hl, hw⟩ := wt_in hT
  have CO := l09Ok_any ks hl hw B cb lo w h
  have H := Lib.hid h
  clear h
  by_cases ho : RowOk ks
  · have CO := Lib.hid (CO.mono fun _ _ j => j.yes ho)
    have CP := Lib.hid (fun W (h : Ty.RowAt W lo ks B) => partsS_any ks lo (fun i t ht => shapeS_all t lo (ho.2 i t ht) (hw i t ht)) (fun i t ht => (ho.2 i t ht).layOk) hl B cb W h)
    have hP := hP1 ho
    have HPL : Hid (P.length = ks.length) := Lib.hid (by rw [hP, Ty.offs_length])
    have HP := Lib.hid hP
    clear ho hw hT hP hP1 hP0
    go_enter Try.func42, Try.ntmps42
    go_wp2_with fail
    go_at_call 67
    refine CO.out.mono ?_
    rintro e w2 ⟨rfl, hb2⟩
    have HB2 := Lib.hid hb2
    clear hb2
    go_wp2_with fail
    go_at_call 68
    refine (CP.out _ (H.out.below HB2.out)).mono ?_
    rintro e w3 ⟨R3, c3, rfl, hown, hb3⟩
    have HB3 := Lib.hid (bnext HB2.out hb3)
    have HO := Lib.hid hown
    clear hb3 hown
    go_wp2_with fail
    go_ret
    have ho := HO.out
    rw [← HP.out, ← HPL.out] at ho
    obtain ⟨g, h1, h2, h3⟩ := Nums.of_own ho
    exact ⟨R3, c3, g, by first | (rw [HPL.out]; done) | (rw [HPL.out]; rfl), Nat.le_trans HB2.out.size h1, h2, h3, HB3.out⟩
  · have CO := Lib.hid (CO.mono fun _ _ j => j.no ho)
    have hP := hP0 ho
    subst hP
    clear ho hw hT hP1 hP0
    go_enter Try.func42, Try.ntmps42
    go_wp2_with fail
    go_at_call 67
    refine CO.out.mono ?_
    rintro e w2 ⟨rfl, hb2⟩
    have HB2 := Lib.hid hb2
    clear hb2
    go_wp2_with fail
    go_ret
    exact ⟨_, _, w2.heap.size, rfl, HB2.out.size, fun hp => absurd hp (by simp), fun hp => absurd hp (by simp), bnext HB2.out (below1 _ _)⟩

set_option maxRecDepth 100000 in
theorem implPartsAt_any (ks : List Ty) (hT : (ks.length : Int) + Ty.wts ks ≤ 1048576) (P : List Int) (hP1 : RowOk ks → P = Ty.offs 0 ks) (hP0 : ¬ RowOk ks → P = []) (B : Option Addr) (cb lo : Nat) (w : World) (h : Ty.RowAt w lo ks B) (hm : MaxC w) :
    Calls Try.prog 43 #[.slice B ks.length cb] w (PartsAns P w) := by
  obtain ⟨hl, hw⟩ := wt_in hT
  have CO := rowOk_any ks hl hw B cb lo w h hm
  have H := Lib.hid h
  clear h hm
  by_cases ho : RowOk ks
  · have CO := Lib.hid (CO.mono fun _ _ j => j.yes ho)
    have CP := Lib.hid (fun W (h : Ty.RowAt W lo ks B) => partsI_any ks lo (fun i t ht => shapeI_all t lo (ho.2 i t ht) (hw i t ht)) (fun i t ht => (ho.2 i t ht).layOk) hl B cb W h)
    have hP := hP1 ho
    have HPL : Hid (P.length = ks.length) := Lib.hid (by rw [hP, Ty.offs_length])
    have HP := Lib.hid hP
    clear ho hw hT hP hP1 hP0
    go_enter Try.func43, Try.ntmps43
    go_wp2_with fail
    go_at_call 69
    refine CO.out.mono ?_
    rintro e w2 ⟨rfl, hb2⟩
    have HB2 := Lib.hid hb2
    clear hb2
    go_wp2_with fail
    go_at_call 70
    refine (CP.out _ (H.out.below HB2.out)).mono ?_
    rintro e w3 ⟨R3, c3, rfl, hown, hb3⟩
    have HB3 := Lib.hid (bnext HB2.out hb3)
    have HO := Lib.hid hown
    clear hb3 hown
    go_wp2_with fail
    go_ret
    have ho := HO.out
    rw [← HP.out, ← HPL.out] at ho
    obtain ⟨g, h1, h2, h3⟩ := Nums.of_own ho
    exact ⟨R3, c3, g, by first | (rw [HPL.out]; done) | (rw [HPL.out]; rfl), Nat.le_trans HB2.out.size h1, h2, h3, HB3.out⟩
  · have CO := Lib.hid (CO.mono fun _ _ j => j.no ho)
    have hP := hP0 ho
    subst hP
    clear ho hw hT hP1 hP0
    go_enter Try.func43, Try.ntmps43
    go_wp2_with fail
    go_at_call 69
    refine CO.out.mono ?_
    rintro e w2 ⟨rfl, hb2⟩
    have HB2 := Lib.hid hb2
    clear hb2
    go_wp2_with fail
    go_ret
    exact ⟨_, _, w2.heap.size, rfl, HB2.out.size, fun hp => absurd hp (by simp), fun hp => absurd hp (by simp), HB2.out⟩

set_option maxHeartbeats 2000000 in
set_option maxRecDepth 100000 in
theorem fnExactPartsAtLaw (ks : List Ty) (B : Option Addr) (cb : Nat) (w : World) (h : Ty.RowAt w 0 ks B) (hl : ks.length ≤ maxLen) (hf : ∀ t ∈ ks, t.Fin) (hm : MaxC w) :
    Calls Try.prog 12 #[.slice B ks.length cb] w fun e w' => e = .returned (.bool true) ∧ Below w.heap.size w w' := by
  have S := szTypeS_of ks hl (fun i t ht => szType_any t (hf t (List.mem_of_getElem? ht))) 1048576 (by omega) (by omega) B cb 0
  have HA := Lib.hid h
  have HM := Lib.hid hm
  have hn0 := Ty.wts_nonneg ks
  clear h hm hf
  by_cases hn : 1048576 - (ks.length : Int) - Ty.wts ks < 0
  · rw [leftOr_neg hn] at S
    have S := Lib.hid S
    clear hn hl
    go_enter Try.func12, Try.ntmps12
    go_wp2_with fail
    go_at_call 35
    refine (S.out _ HA.out).mono ?_
    rintro e w2 ⟨rfl, hb2⟩
    have HB2 := Lib.hid hb2
    clear hb2
    go_wp2_with fail
    go_ret
    exact ⟨rfl, HB2.out⟩
  · have hT : (ks.length : Int) + Ty.wts ks ≤ 1048576 := by omega
    rw [leftOr_pos (by omega)] at S
    obtain ⟨L, hL⟩ : ∃ L, 1048576 - (ks.length : Int) - Ty.wts ks = L := ⟨_, rfl⟩
    rw [hL] at S
    have hL0 : 0 ≤ L := by omega
    have S := Lib.hid S
    obtain ⟨hlk, hwk⟩ := wt_in hT
    obtain ⟨P, hP1, hP0⟩ : ∃ P : List Int, (RowOk ks → P = Ty.offs 0 ks) ∧ (¬ RowOk ks → P = []) := by
      by_cases ho : RowOk ks
      · exact ⟨_, fun _ => rfl, fun h => absurd ho h⟩
      · exact ⟨_, fun h => absurd h ho, fun _ => rfl⟩
    have hpl : P.length ≤ 1048576 := by
      by_cases ho : RowOk ks
      · rw [hP1 ho, Ty.offs_length]
        exact hlk
      · rw [hP0 ho]
        simp
    have hmc := Ty.mcs_le ks
    have HT := Lib.hid (fun W (h : Ty.RowAt W 0 ks B) => toTypeS_of ks hlk (fun i t ht => toType_any t (hwk i t ht)) B cb 0 W h)
    have HTO := Lib.hid (fun W (h : Ty.RowAt W 0 ks B) => toTypeS_own_of ks hlk (fun i t ht => fun A B ca cb lo w h => toType_own t (hwk i t ht) A B ca cb lo w h) B cb 0 W h)
    have HE := Lib.hid (fun B1 B2 c1 c2 lo lo' W h h' => eqTypeS_of ks hlk (fun i t ht => eqType_any t (hwk i t ht)) B1 B2 c1 c2 lo lo' W h h')
    have HS := Lib.hid (fun B c lo W h => specPartsAt_any ks hT P hP1 hP0 B c lo W h)
    have HI := Lib.hid (fun B c lo W h h2 => implPartsAt_any ks hT P hP1 hP0 B c lo W h h2)
    have EN := Lib.hid (fun R R' c c' g g' W h h' => eqNums_any P hpl R R' c c' g g' W h h')
    obtain ⟨K, hK⟩ : ∃ K, 1 + Ty.mcs ks = K := ⟨_, rfl⟩
    have HMT : Hid (∀ (B : Option Addr) (cb : Nat) (bs : List Nat) (W : World), Ty.RowsOwn W ks B bs → bs.Nodup → Calls Try.prog 45 #[.slice B ks.length cb, .int .i64 1] W fun e w' => e = .returned (.int .i64 (K : Int)) ∧ Kb bs W w') := Lib.hid (fun B cb bs W h hd => (markTypeS_rows ks 1 (by omega) (by omega) B cb bs W h hd).mono fun _ _ j => ⟨by rw [j.1, hK], j.2.2⟩)
    have hK0 : (0 : Int) ≤ (K : Int) := by omega
    obtain ⟨Q, hQ⟩ : ∃ Q, 1 + P.length = Q := ⟨_, rfl⟩
    have HMN : Hid (∀ (R : Option Addr) (c g : Nat) (W : World), Nums W P R g → Calls Try.prog 46 #[.slice R P.length c, .int .i64 1] W fun e w' => e = .returned (.int .i64 (Q : Int)) ∧ Nums w' (seqI 1 P.length) R g ∧ Kb [g] W w') := Lib.hid (fun R c g W h => (markNums_any P hpl 1 (by omega) R c g W h).mono fun _ _ j => ⟨by rw [j.1, hQ], j.2⟩)
    have HHN : Hid (∀ (R : Option Addr) (c g : Nat) (W : World), Nums W (seqI 1 P.length) R g → Calls Try.prog 47 #[.slice R P.length c, .int .i64 1] W fun e w' => e = .returned (.int .i64 (Q : Int)) ∧ Below W.heap.size W w') := Lib.hid (fun R c g W h => (heldNums_any P.length hpl 1 (by omega) R c g W h).mono fun _ _ j => ⟨by rw [j.1, hQ], j.2⟩)
    have hQ0 : (0 : Int) ≤ (Q : Int) := by omega
    clear hn hL hn0 hT hlk hwk hl hP1 hP0 hmc hK hQ hpl
    go_enter Try.func12, Try.ntmps12
    go_wp2_with fail
    go_at_call 35
    refine (S.out _ HA.out).mono ?_
    rintro e w2 ⟨rfl, hb2⟩
    have HB2 := Lib.hid hb2
    clear hb2 S
    go_wp2_with fail
    go_at_call 37
    refine (HT.out _ (HA.out.below HB2.out)).mono ?_
    rintro e w3 ⟨rfl, ha3, hb3⟩
    have HB3 := Lib.hid (bnext HB2.out hb3)
    have HA3 := Lib.hid ha3
    clear hb3 ha3
    go_wp2_with fail
    go_at_call 42
    refine (HS.out _ _ _ _ HA3.out).mono ?_
    rintro e w4 ⟨R4, c4, g4, rfl, hg4, hl4, hn4, hb4⟩
    have HB4 := Lib.hid (bnext HB3.out hb4)
    have N4 := Lib.hid hn4
    have HG4 := Lib.hid (Nat.le_trans HB3.out.size hg4)
    have HL4 := Lib.hid hl4
    clear hn4 hb4 hg4 hl4
    go_wp2_with fail
    go_at_call 37
    refine (HTO.out _ (HA.out.below HB4.out)).mono ?_
    rintro e w5 ⟨rfl, ⟨bs, ho5, hd5, hbs⟩, hb5⟩
    have HB5 := Lib.hid (bnext HB4.out hb5)
    have HO5 := Lib.hid ho5
    have HD5 := Lib.hid hd5
    have HBS := Lib.hid hbs
    have HA5 := Lib.hid (rowsAt (lo := w4.heap.size) ho5 (fun b hb => (hbs b hb).1))
    have N5 := Lib.hid (N4.out.below hb5)
    have HS45 := Lib.hid hb5.size
    clear hb5 ho5 hd5 hbs
    go_wp2_with fail
    go_at_call 43
    refine (HI.out _ _ _ _ HA5.out (HM.out.keep HB5.out)).mono ?_
    rintro e w6 ⟨R6, c6, g6, rfl, hg6, hl6, hn6, hb6⟩
    have HB6 := Lib.hid (bnext HB5.out hb6)
    have N6 := Lib.hid (N5.out.below hb6)
    have M6 := Lib.hid hn6
    have HG6 := Lib.hid hg6
    have HA6 := Lib.hid (HA5.out.below hb6)
    have HO6 := Lib.hid (Ty.RowsOwn.keep HO5.out (KeptBut.of_below (bs := []) hb6) (by simp))
    have HS56 := Lib.hid hb6.size
    clear hn6 hb6 hg6 hl6
    go_wp2_with fail
    go_at_call 44
    refine (EN.out _ _ _ _ _ _ _ M6.out N6.out).mono ?_
    rintro e w7 ⟨rfl, hb7⟩
    have HB7 := Lib.hid (bnext HB6.out hb7)
    have N7 := Lib.hid (N6.out.below hb7)
    have M7 := Lib.hid (M6.out.below hb7)
    have HA7 := Lib.hid (HA6.out.below hb7)
    have HO7 := Lib.hid (Ty.RowsOwn.keep HO6.out (KeptBut.of_below (bs := []) hb7) (by simp))
    clear hb7
    go_wp2_with fail
    go_at_call 37
    refine (HT.out _ (HA.out.below HB7.out)).mono ?_
    rintro e w8 ⟨rfl, ha8, hb8⟩
    have HB8 := Lib.hid (bnext HB7.out hb8)
    have N8 := Lib.hid (N7.out.below hb8)
    have M8 := Lib.hid (M7.out.below hb8)
    have HA8 := Lib.hid (HA7.out.below hb8)
    have HC8 := Lib.hid ha8
    have HO8 := Lib.hid (Ty.RowsOwn.keep HO7.out (KeptBut.of_below (bs := []) hb8) (by simp))
    clear hb8 ha8
    go_wp2_with fail
    go_at_call 39
    refine (HE.out _ _ _ _ _ _ _ HA8.out HC8.out).mono ?_
    rintro e w9 ⟨rfl, hb9⟩
    have HB9 := Lib.hid (bnext HB8.out hb9)
    have N9 := Lib.hid (N8.out.below hb9)
    have M9 := Lib.hid (M8.out.below hb9)
    have HO9 := Lib.hid (Ty.RowsOwn.keep HO8.out (KeptBut.of_below (bs := []) hb9) (by simp))
    clear hb9 HA8 HC8 HA7 HA6 HA5 HO8 HO7 HO6 HO5 N8 N7 N6 N5 M8 M7 M6 HE
    go_wp2_with fail
    go_at_call 45
    refine (HMT.out _ _ _ _ HO9.out HD5.out).mono ?_
    rintro e w10 ⟨rfl, hk10⟩
    have HB10 : Hid (Below w.heap.size w w10) := Lib.hid (HB9.out.trans (kbBelow hk10 (fun b hb => Nat.le_trans HB4.out.size (HBS.out b hb).1) HB9.out.size))
    have N10 : Hid (Nums w10 P R4 g4) := Lib.hid (fun hp => (N9.out.kb hk10 (fun _ hm => by
      have h1 := HBS.out _ hm
      have := HL4.out hp
      omega)) hp)
    have M10 := Lib.hid (M9.out.kb hk10 (fun _ hm => by
      have h1 := HBS.out _ hm
      have := HG6.out
      omega))
    clear hk10 N9 M9 HO9
    go_wp2_with fail
    go_at_call 44
    refine (EN.out _ _ _ _ _ _ _ M10.out N10.out).mono ?_
    rintro e w11 ⟨rfl, hb11⟩
    have HB11 := Lib.hid (bnext HB10.out hb11)
    have N11 := Lib.hid (N10.out.below hb11)
    have M11 := Lib.hid (M10.out.below hb11)
    clear hb11 N10 M10
    go_wp2_with fail
    go_at_call 46
    refine (HMN.out _ _ _ _ M11.out).mono ?_
    rintro e w12 ⟨rfl, hm12, hk12⟩
    have HB12 : Hid (Below w.heap.size w w12) := Lib.hid (HB11.out.trans (kbBelow hk12 (fun b hb => by
      obtain rfl : b = g6 := by simpa using hb
      exact Nat.le_trans HB5.out.size HG6.out) HB11.out.size))
    have N12 : Hid (Nums w12 P R4 g4) := Lib.hid (fun hp => (N11.out.kb hk12 (fun _ hm => by
      obtain rfl : g4 = g6 := by simpa using hm
      have h1 := HL4.out hp
      have h2 := HG6.out
      have h3 := HS45.out
      omega)) hp)
    have M12 := Lib.hid hm12
    clear hm12 hk12 N11 M11
    go_wp2_with fail
    go_at_call 47
    refine (HHN.out _ _ _ _ M12.out).mono ?_
    rintro e w13 ⟨rfl, hb13⟩
    have HB13 := Lib.hid (bnext HB12.out hb13)
    have N13 := Lib.hid (N12.out.below hb13)
    have M13 := Lib.hid (M12.out.below hb13)
    clear hb13
    go_wp2_with fail
    go_at_call 37
    refine (HT.out _ (HA.out.below HB13.out)).mono ?_
    rintro e w14 ⟨rfl, ha14, hb14⟩
    have HB14 := Lib.hid (bnext HB13.out hb14)
    have N14 := Lib.hid (N13.out.below hb14)
    have M14 := Lib.hid (M13.out.below hb14)
    have HA14 := Lib.hid ha14
    clear hb14 ha14
    go_wp2_with fail
    go_at_call 43
    refine (HI.out _ _ _ _ HA14.out (HM.out.keep HB14.out)).mono ?_
    rintro e w15 ⟨R15, c15, g15, rfl, _, _, hn15, hb15⟩
    have HB15 := Lib.hid (bnext HB14.out hb15)
    have N15 := Lib.hid (N14.out.below hb15)
    have M15 := Lib.hid (M14.out.below hb15)
    have L15 := Lib.hid hn15
    clear hb15 hn15
    go_wp2_with fail
    go_at_call 44
    refine (EN.out _ _ _ _ _ _ _ L15.out N15.out).mono ?_
    rintro e w16 ⟨rfl, hb16⟩
    have HB16 := Lib.hid (bnext HB15.out hb16)
    have M16 := Lib.hid (M15.out.below hb16)
    clear hb16
    go_wp2_with fail
    go_at_call 47
    refine (HHN.out _ _ _ _ M16.out).mono ?_
    rintro e w17 ⟨rfl, hb17⟩
    have HB17 := Lib.hid (bnext HB16.out hb17)
    clear hb17
    go_wp2_with fail
    go_ret
    exact ⟨rfl, HB17.out⟩
end Go.Proofs.Ytlmmbheamicdaaa
