/-
  The walk of the law FnExactJoinKinds: both answer alike, the arguments stay, the answer lies in memory of its own.
-/
import Derived.Test.YtmnkkpahbmcekaaJoinI
import Derived.Test.YtmnkkpahbmcekaaI6M
namespace Go.Proofs.Ytmnkkpahbmcekaa
open Go.ChangeShapes Go.WideShapes Go.ChangeAt Go.RowKit Go.Deep

/-- What is joined where both are in order; else nothing. -/
noncomputable def jk6 (P Q : List Int) : List Int := by
  classical
  exact if KOk P ∧ KOk Q then join6 P Q else []
theorem jk6_yes {P Q : List Int} (h : KOk P) (k : KOk Q) : jk6 P Q = join6 P Q := by
  unfold jk6
  rw [if_pos ⟨h, k⟩]
theorem jk6_no {P Q : List Int} (h : ¬ (KOk P ∧ KOk Q)) : jk6 P Q = [] := by
  unfold jk6
  rw [if_neg h]
theorem jk6_len {P Q : List Int} (hp : P.length ≤ 1048576) (hq : Q.length ≤ 1048576) : (jk6 P Q).length ≤ 1048576 := by
  by_cases h : KOk P ∧ KOk Q
  · rw [jk6_yes h.1 h.2, join6_len]
    omega
  · rw [jk6_no h]
    simp

set_option maxHeartbeats 1000000 in
theorem specJoin_noP (P Q : List Int) (hp : P.length ≤ 1048576) (_hq : Q.length ≤ 1048576) (hp1 : ¬ KOk P) (R R' : Option Addr) (c c' : Nat) (w : World) (h : Row6 w P R) (_h' : Row6 w Q R') :
    Calls Try.prog 17 #[.slice R P.length c, .slice R' Q.length c'] w (Ans6 [] w) := by
  have C1 := Lib.hid ((specKindsOk_any P hp R c w h).mono fun _ _ j => j.no hp1)
  clear h hp1
  go_enter Try.func17, Try.ntmps17
  go_wp2_with fail
  go_at_call 13
  refine C1.out.mono ?_
  rintro e w2 ⟨rfl, hb2⟩
  have HB2 := Lib.hid hb2
  clear hb2
  go_wp2_with fail
  go_ret
  exact ⟨_, _, w.heap.size, rfl, Nat.le_refl _, fun hp => absurd hp (by simp), own6_nil _ _ _, next6 HB2.out (below1 _ _)⟩
set_option maxHeartbeats 1000000 in
theorem specJoin_noQ (P Q : List Int) (hp : P.length ≤ 1048576) (hq : Q.length ≤ 1048576) (hp1 : KOk P) (hq1 : ¬ KOk Q) (R R' : Option Addr) (c c' : Nat) (w : World) (h : Row6 w P R) (h' : Row6 w Q R') :
    Calls Try.prog 17 #[.slice R P.length c, .slice R' Q.length c'] w (Ans6 [] w) := by
  have C1 := Lib.hid ((specKindsOk_any P hp R c w h).mono fun _ _ j => j.yes hp1)
  have C2 := Lib.hid (fun W h' => (specKindsOk_any Q hq R' c' W h').mono fun _ _ j => j.no hq1)
  have H' := Lib.hid h' 
  clear h h' hp1 hq1
  go_enter Try.func17, Try.ntmps17
  go_wp2_with fail
  go_at_call 13
  refine C1.out.mono ?_
  rintro e w2 ⟨rfl, hb2⟩
  have HB2 := Lib.hid hb2
  clear hb2
  go_wp2_with fail
  go_at_call 13
  refine (C2.out _ (H'.out.below HB2.out)).mono ?_
  rintro e w3 ⟨rfl, hb3⟩
  have HB3 := Lib.hid (next6 HB2.out hb3)
  clear hb3
  go_wp2_with fail
  go_ret
  exact ⟨_, _, w.heap.size, rfl, Nat.le_refl _, fun hp => absurd hp (by simp), own6_nil _ _ _, next6 HB3.out (below1 _ _)⟩
set_option maxHeartbeats 1000000 in
theorem implJoin_noP (P Q : List Int) (hp : P.length ≤ 1048576) (_hq : Q.length ≤ 1048576) (hp1 : ¬ KOk P) (R R' : Option Addr) (c c' : Nat) (w : World) (h : Row6 w P R) (_h' : Row6 w Q R') :
    Calls Try.prog 18 #[.slice R P.length c, .slice R' Q.length c'] w (Ans6 [] w) := by
  have C1 := Lib.hid ((implKindsOk_any P hp R c w h).mono fun _ _ j => j.no hp1)
  clear h hp1
  go_enter Try.func18, Try.ntmps18
  go_wp2_with fail
  go_at_call 15
  refine C1.out.mono ?_
  rintro e w2 ⟨rfl, hb2⟩
  have HB2 := Lib.hid hb2
  clear hb2
  go_wp2_with fail
  go_ret
  exact ⟨_, _, w.heap.size, rfl, Nat.le_refl _, fun hp => absurd hp (by simp), own6_nil _ _ _, HB2.out⟩
set_option maxHeartbeats 1000000 in
theorem implJoin_noQ (P Q : List Int) (hp : P.length ≤ 1048576) (hq : Q.length ≤ 1048576) (hp1 : KOk P) (hq1 : ¬ KOk Q) (R R' : Option Addr) (c c' : Nat) (w : World) (h : Row6 w P R) (h' : Row6 w Q R') :
    Calls Try.prog 18 #[.slice R P.length c, .slice R' Q.length c'] w (Ans6 [] w) := by
  have C1 := Lib.hid ((implKindsOk_any P hp R c w h).mono fun _ _ j => j.yes hp1)
  have C2 := Lib.hid (fun W h' => (implKindsOk_any Q hq R' c' W h').mono fun _ _ j => j.no hq1)
  have H' := Lib.hid h' 
  clear h h' hp1 hq1
  go_enter Try.func18, Try.ntmps18
  go_wp2_with fail
  go_at_call 15
  refine C1.out.mono ?_
  rintro e w2 ⟨rfl, hb2⟩
  have HB2 := Lib.hid hb2
  clear hb2
  go_wp2_with fail
  go_at_call 15
  refine (C2.out _ (H'.out.below HB2.out)).mono ?_
  rintro e w3 ⟨rfl, hb3⟩
  have HB3 := Lib.hid (next6 HB2.out hb3)
  clear hb3
  go_wp2_with fail
  go_ret
  exact ⟨_, _, w.heap.size, rfl, Nat.le_refl _, fun hp => absurd hp (by simp), own6_nil _ _ _, HB3.out⟩
set_option maxHeartbeats 1000000 in
theorem specJoin_yes (P Q : List Int) (hp : P.length ≤ 1048576) (hq : Q.length ≤ 1048576) (hp1 : KOk P) (hq1 : KOk Q) (R R' : Option Addr) (c c' : Nat) (w : World) (h : Row6 w P R) (h' : Row6 w Q R') :
    Calls Try.prog 17 #[.slice R P.length c, .slice R' Q.length c'] w (Ans6 (join6 P Q) w) := by
  have C1 := Lib.hid ((specKindsOk_any P hp R c w h).mono fun _ _ j => j.yes hp1)
  have C2 := Lib.hid (fun W h' => (specKindsOk_any Q hq R' c' W h').mono fun _ _ j => j.yes hq1)
  have C3 := Lib.hid (fun W h h' => l12Join_any P Q hp hq R R' c c' W h h')
  have H := Lib.hid h
  have H' := Lib.hid h'
  generalize join6 P Q = J at *
  clear h h' hp1 hq1
  go_enter Try.func17, Try.ntmps17
  go_wp2_with fail
  go_at_call 13
  refine C1.out.mono ?_
  rintro e w2 ⟨rfl, hb2⟩
  have HB2 := Lib.hid hb2
  clear hb2
  go_wp2_with fail
  go_at_call 13
  refine (C2.out _ (H'.out.below HB2.out)).mono ?_
  rintro e w3 ⟨rfl, hb3⟩
  have HB3 := Lib.hid (next6 HB2.out hb3)
  clear hb3
  go_wp2_with fail
  go_at_call 29
  refine (C3.out _ (H.out.below HB3.out) (H'.out.below HB3.out)).mono ?_
  rintro e w4 ⟨R4, c4, g4, rfl, hg4, hl4, ho4, hb4⟩
  have HB4 := Lib.hid (next6 HB3.out hb4)
  have HO4 := Lib.hid ho4
  have HG4 := Lib.hid (Nat.le_trans HB3.out.size hg4)
  have HL4 := Lib.hid hl4
  clear hb4 ho4 hg4 hl4
  go_wp2_with fail
  go_ret
  exact ⟨R4, c4, g4, rfl, HG4.out, HL4.out, HO4.out, HB4.out⟩
theorem specJoin_any (P Q : List Int) (hp : P.length ≤ 1048576) (hq : Q.length ≤ 1048576) (R R' : Option Addr) (c c' : Nat) (w : World) (h : Row6 w P R) (h' : Row6 w Q R') :
    Calls Try.prog 17 #[.slice R P.length c, .slice R' Q.length c'] w (Ans6 (jk6 P Q) w) := by
  by_cases hp1 : KOk P
  · by_cases hq1 : KOk Q
    · rw [jk6_yes hp1 hq1]
      exact specJoin_yes P Q hp hq hp1 hq1 R R' c c' w h h'
    · rw [jk6_no (fun k => hq1 k.2)]
      exact specJoin_noQ P Q hp hq hp1 hq1 R R' c c' w h h'
  · rw [jk6_no (fun k => hp1 k.1)]
    exact specJoin_noP P Q hp hq hp1 R R' c c' w h h'
theorem implJoin_any (P Q : List Int) (hp : P.length ≤ 1048576) (hq : Q.length ≤ 1048576) (R R' : Option Addr) (c c' : Nat) (w : World) (h : Row6 w P R) (h' : Row6 w Q R') :
    Calls Try.prog 18 #[.slice R P.length c, .slice R' Q.length c'] w (Ans6 (jk6 P Q) w) := by
  by_cases hp1 : KOk P
  · by_cases hq1 : KOk Q
    · rw [jk6_yes hp1 hq1]
      by_cases hl : P.length < Q.length
      · exact implJoin_swap P Q hp hq hp1 hq1 hl R R' c c' w h h'
      · exact implJoin_stay P Q hp hq hp1 hq1 hl R R' c c' w h h'
    · rw [jk6_no (fun k => hq1 k.2)]
      exact implJoin_noQ P Q hp hq hp1 hq1 R R' c c' w h h'
  · rw [jk6_no (fun k => hp1 k.1)]
    exact implJoin_noP P Q hp hq hp1 R R' c c' w h h'

set_option maxHeartbeats 2000000 in
set_option maxRecDepth 100000 in
theorem joinKindsLaw (P Q : List Int) (R : Option Addr) (c : Nat) (R' : Option Addr) (c' : Nat) (w : World) (h : Row6 w P R) (h' : Row6 w Q R') (hp : P.length ≤ 1048576) (hq : Q.length ≤ 1048576) :
    Calls Try.prog 6 #[.slice R P.length c, .slice R' Q.length c'] w fun e w' => e = .returned (.bool true) ∧ Below w.heap.size w w' := by
  have H := Lib.hid h
  have H' := Lib.hid h'
  have TP := Lib.hid (fun W h => toI64_any P R c hp W h)
  have TQ := Lib.hid (fun W h => toI64_any Q R' c' hq W h)
  have EP := Lib.hid (fun R R' c c' W h h' => eqI64_any P hp R R' c c' W h h')
  have EQ := Lib.hid (fun R R' c c' W h h' => eqI64_any Q hq R R' c c' W h h')
  have CS := Lib.hid (fun R R' c c' W h h' => specJoin_any P Q hp hq R R' c c' W h h')
  have CI := Lib.hid (fun R R' c c' W h h' => implJoin_any P Q hp hq R R' c c' W h h')
  have hjl := jk6_len hp hq
  obtain ⟨J, hJ⟩ : ∃ J, jk6 P Q = J := ⟨_, rfl⟩
  rw [hJ] at CS CI hjl
  have EJ := Lib.hid (fun R R' c c' W h h' => eqI64_any J hjl R R' c c' W h h')
  obtain ⟨K, hK⟩ : ∃ K, 1 + P.length = K := ⟨_, rfl⟩
  obtain ⟨K2, hK2⟩ : ∃ K2, K + Q.length = K2 := ⟨_, rfl⟩
  obtain ⟨M, hM⟩ : ∃ M, 1 + J.length = M := ⟨_, rfl⟩
  have MP : Hid (∀ (R : Option Addr) (c g : Nat) (W : World), Own6 W P R g → Calls Try.prog 19 #[.slice R P.length c, .int .i64 1] W fun e w' => e = .returned (.int .i64 (K : Int)) ∧ But6 [g] W w' ∧ (P.length = 0 → w' = W)) := Lib.hid (fun R c g W h => (mark6_any P hp 1 (by omega) R c g W h).mono fun _ _ j => ⟨by rw [j.1, hK], j.2.2⟩)
  have MQ : Hid (∀ (R : Option Addr) (c g : Nat) (W : World), Own6 W Q R g → Calls Try.prog 19 #[.slice R Q.length c, .int .i64 (K : Int)] W fun e w' => e = .returned (.int .i64 (K2 : Int)) ∧ But6 [g] W w' ∧ (Q.length = 0 → w' = W)) := Lib.hid (fun R c g W h => (mark6_any Q hq K (by omega) R c g W h).mono fun _ _ j => ⟨by rw [j.1, hK2], j.2.2⟩)
  have MJ : Hid (∀ (R : Option Addr) (c g : Nat) (W : World), Own6 W J R g → Calls Try.prog 19 #[.slice R J.length c, .int .i64 1] W fun e w' => e = .returned (.int .i64 (M : Int)) ∧ Own6 w' (seq6 1 J.length) R g ∧ But6 [g] W w' ∧ (J.length = 0 → w' = W)) := Lib.hid (fun R c g W h => (mark6_any J hjl 1 (by omega) R c g W h).mono fun _ _ j => ⟨by rw [j.1, hM], j.2⟩)
  have HH : Hid (∀ (R : Option Addr) (c g : Nat) (W : World), Own6 W (seq6 1 J.length) R g → Calls Try.prog 20 #[.slice R J.length c, .int .i64 1] W fun e w' => e = .returned (.int .i64 (M : Int)) ∧ Below W.heap.size W w') := Lib.hid (fun R c g W h => (held6_any J.length hjl 1 (by omega) R c g W h).mono fun _ _ j => ⟨by rw [j.1, hM], j.2⟩)
  have hK0 : (0 : Int) ≤ (K : Int) := by omega
  have hK20 : (0 : Int) ≤ (K2 : Int) := by omega
  have hM0 : (0 : Int) ≤ (M : Int) := by omega
  have hPi : ¬ (1048576 : Int) < (P.length : Int) := by omega
  have hQi : ¬ (1048576 : Int) < (Q.length : Int) := by omega
  clear h h' hJ hK hK2 hM hjl hp hq
  go_enter Try.func6, Try.ntmps6
  go_wp2_with fail
  go_at_call 14
  refine (TP.out _ H.out).mono ?_
  rintro e w2 ⟨RA, cA, gA, rfl, hgA, hlA, hoA, hb2⟩
  have HB2 := Lib.hid hb2
  have A_2 := Lib.hid hoA
  have GA := Lib.hid hgA
  have LA := Lib.hid hlA
  have S2 := Lib.hid hb2.size
  clear hoA hb2 hgA hlA
  go_wp2_with fail
  go_at_call 14
  refine (TQ.out _ (H'.out.below HB2.out)).mono ?_
  rintro e w3 ⟨RB, cB, gB, rfl, hgB, hlB, hoB, hb3⟩
  have HB3 := Lib.hid (next6 HB2.out hb3)
  have A_3 := Lib.hid (A_2.out.below hb3)
  have B_3 := Lib.hid hoB
  have GB := Lib.hid hgB
  have LB := Lib.hid hlB
  have S3 := Lib.hid hb3.size
  clear hoB hb3 hgB hlB
  go_wp2_with fail
  go_at_call 17
  refine (CS.out _ _ _ _ _ A_3.out.row B_3.out.row).mono ?_
  rintro e w4 ⟨RW, cW, gW, rfl, hgW, hlW, hoW, hb4⟩
  have HB4 := Lib.hid (next6 HB3.out hb4)
  have A_4 := Lib.hid (A_3.out.below hb4)
  have B_4 := Lib.hid (B_3.out.below hb4)
  have W_4 := Lib.hid hoW
  have GW := Lib.hid hgW
  have LW := Lib.hid hlW
  have S4 := Lib.hid hb4.size
  clear hoW hb4 hgW hlW
  go_wp2_with fail
  go_at_call 14
  refine (TP.out _ (H.out.below HB4.out)).mono ?_
  rintro e w5 ⟨RX, cX, gX, rfl, hgX, hlX, hoX, hb5⟩
  have HB5 := Lib.hid (next6 HB4.out hb5)
  have W_5 := Lib.hid (W_4.out.below hb5)
  have X_5 := Lib.hid hoX
  have GX := Lib.hid hgX
  have LX := Lib.hid hlX
  have S5 := Lib.hid hb5.size
  clear hoX hb5 hgX hlX
  go_wp2_with fail
  go_at_call 14
  refine (TQ.out _ (H'.out.below HB5.out)).mono ?_
  rintro e w6 ⟨RY, cY, gY, rfl, hgY, hlY, hoY, hb6⟩
  have HB6 := Lib.hid (next6 HB5.out hb6)
  have W_6 := Lib.hid (W_5.out.below hb6)
  have X_6 := Lib.hid (X_5.out.below hb6)
  have Y_6 := Lib.hid hoY
  have GY := Lib.hid hgY
  have LY := Lib.hid hlY
  have S6 := Lib.hid hb6.size
  clear hoY hb6 hgY hlY
  go_wp2_with fail
  go_at_call 18
  refine (CI.out _ _ _ _ _ X_6.out.row Y_6.out.row).mono ?_
  rintro e w7 ⟨RG, cG, gG, rfl, hgG, hlG, hoG, hb7⟩
  have HB7 := Lib.hid (next6 HB6.out hb7)
  have W_7 := Lib.hid (W_6.out.below hb7)
  have X_7 := Lib.hid (X_6.out.below hb7)
  have Y_7 := Lib.hid (Y_6.out.below hb7)
  have G_7 := Lib.hid hoG
  have GG := Lib.hid hgG
  have LG := Lib.hid hlG
  have S7 := Lib.hid hb7.size
  clear hoG hb7 hgG hlG
  go_wp2_with fail
  go_at_call 16
  refine (EJ.out _ _ _ _ _ G_7.out.row W_7.out.row).mono ?_
  rintro e w8 ⟨rfl, hb8⟩
  have HB8 := Lib.hid (next6 HB7.out hb8)
  have W_8 := Lib.hid (W_7.out.below hb8)
  have X_8 := Lib.hid (X_7.out.below hb8)
  have Y_8 := Lib.hid (Y_7.out.below hb8)
  have G_8 := Lib.hid (G_7.out.below hb8)
  have S8 := Lib.hid hb8.size
  clear hb8
  go_wp2_with fail
  go_at_call 14
  refine (TP.out _ (H.out.below HB8.out)).mono ?_
  rintro e w9 ⟨RC, cC, gC, rfl, hgC, hlC, hoC, hb9⟩
  have HB9 := Lib.hid (next6 HB8.out hb9)
  have W_9 := Lib.hid (W_8.out.below hb9)
  have X_9 := Lib.hid (X_8.out.below hb9)
  have Y_9 := Lib.hid (Y_8.out.below hb9)
  have G_9 := Lib.hid (G_8.out.below hb9)
  have C_9 := Lib.hid hoC
  have GC := Lib.hid hgC
  have LC := Lib.hid hlC
  have S9 := Lib.hid hb9.size
  clear hoC hb9 hgC hlC
  go_wp2_with fail
  go_at_call 16
  refine (EP.out _ _ _ _ _ X_9.out.row C_9.out.row).mono ?_
  rintro e w10 ⟨rfl, hb10⟩
  have HB10 := Lib.hid (next6 HB9.out hb10)
  have W_10 := Lib.hid (W_9.out.below hb10)
  have X_10 := Lib.hid (X_9.out.below hb10)
  have Y_10 := Lib.hid (Y_9.out.below hb10)
  have G_10 := Lib.hid (G_9.out.below hb10)
  have C_10 := Lib.hid (C_9.out.below hb10)
  have S10 := Lib.hid hb10.size
  clear hb10
  go_wp2_with fail
  go_at_call 14
  refine (TQ.out _ (H'.out.below HB10.out)).mono ?_
  rintro e w11 ⟨RD, cD, gD, rfl, hgD, hlD, hoD, hb11⟩
  have HB11 := Lib.hid (next6 HB10.out hb11)
  have W_11 := Lib.hid (W_10.out.below hb11)
  have X_11 := Lib.hid (X_10.out.below hb11)
  have Y_11 := Lib.hid (Y_10.out.below hb11)
  have G_11 := Lib.hid (G_10.out.below hb11)
  have D_11 := Lib.hid hoD
  have GD := Lib.hid hgD
  have LD := Lib.hid hlD
  have S11 := Lib.hid hb11.size
  clear hoD hb11 hgD hlD
  go_wp2_with fail
  go_at_call 16
  refine (EQ.out _ _ _ _ _ Y_11.out.row D_11.out.row).mono ?_
  rintro e w12 ⟨rfl, hb12⟩
  have HB12 := Lib.hid (next6 HB11.out hb12)
  have W_12 := Lib.hid (W_11.out.below hb12)
  have X_12 := Lib.hid (X_11.out.below hb12)
  have Y_12 := Lib.hid (Y_11.out.below hb12)
  have G_12 := Lib.hid (G_11.out.below hb12)
  have D_12 := Lib.hid (D_11.out.below hb12)
  have S12 := Lib.hid hb12.size
  clear hb12
  go_wp2_with fail
  go_at_call 19
  refine (MP.out _ _ _ _ X_12.out).mono ?_
  rintro e w13 ⟨rfl, hk13, hq13⟩
  have HB13 : Hid (Below w.heap.size w w13) := Lib.hid (HB12.out.trans (hk13.below (fun b hb => by
    obtain rfl : b = gX := by simpa using hb
    exact Nat.le_trans HB4.out.size GX.out) HB12.out.size))
  have W_13 := Lib.hid (W_12.out.but hk13 (fun hp hm => by
    have e9 : gW = gX := by simpa using hm
    have l9 := LW.out hp
    have m9 := GX.out
    
    omega))
  have Y_13 : Hid (Own6 w13 Q RY gY) := by
    by_cases hv : 0 < P.length
    · exact Lib.hid (Y_12.out.but hk13 (fun hp hm => by
        have e9 : gY = gX := by simpa using hm
        have l9 := LX.out hv
        have m9 := GY.out
        
        omega))
    · rw [hq13 (by omega)]
      exact Y_12
  have G_13 : Hid (Own6 w13 J RG gG) := by
    by_cases hv : 0 < P.length
    · exact Lib.hid (G_12.out.but hk13 (fun hp hm => by
        have e9 : gG = gX := by simpa using hm
        have l9 := LX.out hv
        have m9 := GG.out
        have z6 := S6.out
        omega))
    · rw [hq13 (by omega)]
      exact G_12
  clear hk13 hq13
  go_wp2_with fail
  go_at_call 19
  refine (MQ.out _ _ _ _ Y_13.out).mono ?_
  rintro e w14 ⟨rfl, hk14, hq14⟩
  have HB14 : Hid (Below w.heap.size w w14) := Lib.hid (HB13.out.trans (hk14.below (fun b hb => by
    obtain rfl : b = gY := by simpa using hb
    exact Nat.le_trans HB5.out.size GY.out) HB13.out.size))
  have W_14 := Lib.hid (W_13.out.but hk14 (fun hp hm => by
    have e9 : gW = gY := by simpa using hm
    have l9 := LW.out hp
    have m9 := GY.out
    have z5 := S5.out
    omega))
  have G_14 : Hid (Own6 w14 J RG gG) := by
    by_cases hv : 0 < Q.length
    · exact Lib.hid (G_13.out.but hk14 (fun hp hm => by
        have e9 : gG = gY := by simpa using hm
        have l9 := LY.out hv
        have m9 := GG.out
        
        omega))
    · rw [hq14 (by omega)]
      exact G_13
  clear hk14 hq14
  go_wp2_with fail
  go_at_call 16
  refine (EJ.out _ _ _ _ _ G_14.out.row W_14.out.row).mono ?_
  rintro e w15 ⟨rfl, hb15⟩
  have HB15 := Lib.hid (next6 HB14.out hb15)
  have W_15 := Lib.hid (W_14.out.below hb15)
  have G_15 := Lib.hid (G_14.out.below hb15)
  have S15 := Lib.hid hb15.size
  clear hb15
  go_wp2_with fail
  go_at_call 19
  refine (MJ.out _ _ _ _ G_15.out).mono ?_
  rintro e w16 ⟨rfl, hm16, hk16, hq16⟩
  have HB16 : Hid (Below w.heap.size w w16) := Lib.hid (HB15.out.trans (hk16.below (fun b hb => by
    obtain rfl : b = gG := by simpa using hb
    exact Nat.le_trans HB6.out.size GG.out) HB15.out.size))
  have W_16 := Lib.hid (W_15.out.but hk16 (fun hp hm => by
    have e9 : gW = gG := by simpa using hm
    have l9 := LW.out hp
    have m9 := GG.out
    have z5 := S5.out
    have z6 := S6.out
    omega))
  have G_16 := Lib.hid hm16
  clear hk16 hq16 hm16
  go_wp2_with fail
  go_at_call 20
  refine (HH.out _ _ _ _ G_16.out).mono ?_
  rintro e w17 ⟨rfl, hb17⟩
  have HB17 := Lib.hid (next6 HB16.out hb17)
  have W_17 := Lib.hid (W_16.out.below hb17)
  have G_17 := Lib.hid (G_16.out.below hb17)
  have S17 := Lib.hid hb17.size
  clear hb17
  go_wp2_with fail
  go_at_call 14
  refine (TP.out _ (H.out.below HB17.out)).mono ?_
  rintro e w18 ⟨RE, cE, gE, rfl, hgE, hlE, hoE, hb18⟩
  have HB18 := Lib.hid (next6 HB17.out hb18)
  have W_18 := Lib.hid (W_17.out.below hb18)
  have G_18 := Lib.hid (G_17.out.below hb18)
  have E_18 := Lib.hid hoE
  have GE := Lib.hid hgE
  have LE := Lib.hid hlE
  have S18 := Lib.hid hb18.size
  clear hoE hb18 hgE hlE
  go_wp2_with fail
  go_at_call 14
  refine (TQ.out _ (H'.out.below HB18.out)).mono ?_
  rintro e w19 ⟨RF, cF, gF, rfl, hgF, hlF, hoF, hb19⟩
  have HB19 := Lib.hid (next6 HB18.out hb19)
  have W_19 := Lib.hid (W_18.out.below hb19)
  have G_19 := Lib.hid (G_18.out.below hb19)
  have E_19 := Lib.hid (E_18.out.below hb19)
  have F_19 := Lib.hid hoF
  have GF := Lib.hid hgF
  have LF := Lib.hid hlF
  have S19 := Lib.hid hb19.size
  clear hoF hb19 hgF hlF
  go_wp2_with fail
  go_at_call 18
  refine (CI.out _ _ _ _ _ E_19.out.row F_19.out.row).mono ?_
  rintro e w20 ⟨RZ, cZ, gZ, rfl, hgZ, hlZ, hoZ, hb20⟩
  have HB20 := Lib.hid (next6 HB19.out hb20)
  have W_20 := Lib.hid (W_19.out.below hb20)
  have G_20 := Lib.hid (G_19.out.below hb20)
  have E_20 := Lib.hid (E_19.out.below hb20)
  have F_20 := Lib.hid (F_19.out.below hb20)
  have Z_20 := Lib.hid hoZ
  have GZ := Lib.hid hgZ
  have LZ := Lib.hid hlZ
  have S20 := Lib.hid hb20.size
  clear hoZ hb20 hgZ hlZ
  go_wp2_with fail
  go_at_call 16
  refine (EJ.out _ _ _ _ _ Z_20.out.row W_20.out.row).mono ?_
  rintro e w21 ⟨rfl, hb21⟩
  have HB21 := Lib.hid (next6 HB20.out hb21)
  have W_21 := Lib.hid (W_20.out.below hb21)
  have G_21 := Lib.hid (G_20.out.below hb21)
  have Z_21 := Lib.hid (Z_20.out.below hb21)
  have S21 := Lib.hid hb21.size
  clear hb21
  go_wp2_with fail
  go_at_call 20
  refine (HH.out _ _ _ _ G_21.out).mono ?_
  rintro e w22 ⟨rfl, hb22⟩
  have HB22 := Lib.hid (next6 HB21.out hb22)
  have W_22 := Lib.hid (W_21.out.below hb22)
  have G_22 := Lib.hid (G_21.out.below hb22)
  have Z_22 := Lib.hid (Z_21.out.below hb22)
  have S22 := Lib.hid hb22.size
  clear hb22
  go_wp2_with fail
  go_ret
  exact ⟨rfl, HB22.out⟩
set_option maxHeartbeats 1000000 in
theorem fnExactJoinKindsLaw (P Q : List Int) (R : Option Addr) (c : Nat) (R' : Option Addr) (c' : Nat) (w : World) (h : Row6 w P R) (h' : Row6 w Q R') (hlP : P.length ≤ maxLen) (_ : ∀ n ∈ P, -9223372036854775808 ≤ n ∧ n ≤ 9223372036854775807) (hlQ : Q.length ≤ maxLen) (_ : ∀ n ∈ Q, -9223372036854775808 ≤ n ∧ n ≤ 9223372036854775807) :
    Calls Try.prog 6 #[.slice R P.length c, .slice R' Q.length c'] w fun e w' => e = .returned (.bool true) ∧ Below w.heap.size w w' := by
  unfold maxLen at hlP hlQ
  by_cases hp : P.length ≤ 1048576
  · by_cases hq : Q.length ≤ 1048576
    · exact joinKindsLaw P Q R c R' c' w h h' hp hq
    · have hPi : ¬ (1048576 : Int) < (P.length : Int) := by omega
      have hQi : (1048576 : Int) < (Q.length : Int) := by omega
      clear hp hq hlP hlQ h h'
      go_enter Try.func6, Try.ntmps6
      go_wp2_with fail
      go_ret
      exact ⟨rfl, Below.refl _ _⟩
  · have hPi : (1048576 : Int) < (P.length : Int) := by omega
    clear hp hlP hlQ h h'
    go_enter Try.func6, Try.ntmps6
    go_wp2_with fail
    go_ret
    exact ⟨rfl, Below.refl _ _⟩
end Go.Proofs.Ytmnkkpahbmcekaa
