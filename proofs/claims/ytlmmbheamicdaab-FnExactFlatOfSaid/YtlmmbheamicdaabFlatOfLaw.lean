/-
  The walk of the law FnExactFlatOf: both answer alike, the argument stays, the answer lies in memory of its own.
-/
import Derived.Test.YtlmmbheamicdaabMFl
namespace Go.Proofs.Ytlmmbheamicdaab
open Go.ChangeShapes Go.WideShapes Go.ChangeAt Go.RowKit Go.Deep

set_option maxHeartbeats 2000000 in
set_option maxRecDepth 100000 in
theorem fnExactFlatOfLaw (T : Ty) (A B : Option Addr) (ca cb : Nat) (w : World) (hat : Ty.At w 0 T A B) (hfin : T.Fin) (hm : MaxC w) :
    Calls Try.prog 5 #[.agg #[.int .i64 T.kind, .string T.name, .slice A T.labels.length ca, .slice B T.kids.length cb]] w fun e w' => e = .returned (.bool true) ∧ Below w.heap.size w w' := by
  have S := szType_any T hfin 1048576 (by omega) (by omega) A B ca cb 0
  have HA := Lib.hid hat
  have HM := Lib.hid hm
  have hn0 := T.wt_nonneg
  clear hat hm hfin
  by_cases hn : 1048576 - T.wt < 0
  · rw [leftOr_neg hn] at S
    have S := Lib.hid S
    clear hn
    go_enter Try.func5, Try.ntmps5
    go_wp2_with fail
    go_at_call 7
    refine (S.out _ (HA.out.below (below1 _ _))).mono ?_
    rintro e w2 ⟨rfl, hb2⟩
    have HB2 := Lib.hid (bnext (below1 _ _) hb2)
    clear hb2
    go_wp2_with fail
    go_ret
    exact ⟨rfl, HB2.out⟩
  · have hT : T.wt ≤ 1048576 := by omega
    rw [leftOr_pos (by omega)] at S
    obtain ⟨L, hL⟩ : ∃ L, 1048576 - T.wt = L := ⟨_, rfl⟩
    rw [hL] at S
    have hL0 : 0 ≤ L := by omega
    have S := Lib.hid S
    obtain ⟨P, h1, h0⟩ : ∃ P : List Int, (T.Ok → P = T.flat) ∧ (¬ T.Ok → P = []) := by
      by_cases ho : T.Ok
      · exact ⟨_, fun _ => rfl, fun h => absurd ho h⟩
      · exact ⟨_, fun h => absurd h ho, fun _ => rfl⟩
    have hPl := oneFlat_len h1 h0
    have hmc := T.mc_le7
    have TI := TyIn.of hT A B ca cb
    have HT := Lib.hid TI.to_
    have HE := Lib.hid TI.eq_
    have HTO := Lib.hid (fun W (h : Ty.At W 0 T A B) => toType_own T hT A B ca cb 0 W h)
    have HS := Lib.hid (fun A' B' ca' cb' lo W h => (specFlatOf_any T hT A' B' ca' cb' lo W h P h1 h0).mono fun _ _ k => flatAns k)
    have HI := Lib.hid (fun A' B' ca' cb' W h h2 => (implFlatOf_any T hT A' B' ca' cb' W h h2 P h1 h0).mono fun _ _ k => flatAns k)
    have EJ := Lib.hid (fun R R' c c' W h h' => eqI64_any P hPl R R' c c' W h h')
    obtain ⟨K, hK⟩ : ∃ K, 1 + T.mc = K := ⟨_, rfl⟩
    have HMT : Hid (∀ (A' B' : Option Addr) (ca' cb' : Nat) (bs : List Nat) (W : World), Ty.Own W T A' B' bs → bs.Nodup → Calls Try.prog 13 #[.agg #[.int .i64 T.kind, .string T.name, .slice A' T.labels.length ca', .slice B' T.kids.length cb'], .int .i64 1] W fun e w' => e = .returned (.int .i64 (K : Int)) ∧ Kb bs W w') := Lib.hid (fun A' B' ca' cb' bs W h hd => (markType_exact T 1 (by omega) (by omega) A' B' ca' cb' bs W h hd).mono fun _ _ j => ⟨by rw [j.1, hK], j.2.2⟩)
    have hK0 : (0 : Int) ≤ (K : Int) := by omega
    obtain ⟨Q, hQ⟩ : ∃ Q, 1 + P.length = Q := ⟨_, rfl⟩
    have HMK : Hid (∀ (R : Option Addr) (c g : Nat) (W : World), Own6 W P R g → Calls Try.prog 23 #[.slice R P.length c, .int .i64 1] W fun e w' => e = .returned (.int .i64 (Q : Int)) ∧ Own6 w' (seq6 1 P.length) R g ∧ But6 [g] W w' ∧ (P.length = 0 → w' = W)) := Lib.hid (fun R c g W h => (mark6_any P hPl 1 (by omega) R c g W h).mono fun _ _ j => ⟨by rw [j.1, hQ], j.2⟩)
    have HHK : Hid (∀ (R : Option Addr) (c g : Nat) (W : World), Own6 W (seq6 1 P.length) R g → Calls Try.prog 24 #[.slice R P.length c, .int .i64 1] W fun e w' => e = .returned (.int .i64 (Q : Int)) ∧ Below W.heap.size W w') := Lib.hid (fun R c g W h => (held6_any P.length hPl 1 (by omega) R c g W h).mono fun _ _ j => ⟨by rw [j.1, hQ], j.2⟩)
    have hQ0 : (0 : Int) ≤ (Q : Int) := by omega
    clear hn hL hn0 TI hT h1 h0 hPl hmc hK hQ
    go_enter Try.func5, Try.ntmps5
    go_wp2_with fail
    go_at_call 7
    refine (S.out _ (HA.out.below (below1 _ _))).mono ?_
    rintro e w2 ⟨rfl, hb2⟩
    have k0 := keepCell (a := ⟨w.heap.size, 0, none⟩) (v := .int .i64 T.kind) hb2 (by go_simp)
    have k1 := keepCell (a := ⟨w.heap.size, 1, none⟩) (v := .string T.name) hb2 (by go_simp)
    have k2 := keepCell (a := ⟨w.heap.size, 2, none⟩) (v := .slice A T.labels.length ca) hb2 (by go_simp)
    have k3 := keepCell (a := ⟨w.heap.size, 3, none⟩) (v := .slice B T.kids.length cb) hb2 (by go_simp)
    have HB2 := Lib.hid (bnext (below1 _ _) hb2)
    have HZ2 : Hid (w.heap.size < w2.heap.size) := Lib.hid (World.block_lt_of_cell? w2 _ k0)
    clear hb2 S
    go_wp2_with fail
    go_at_call 9
    refine (HT.out _ (HA.out.below HB2.out)).mono ?_
    rintro e w3 ⟨A3, B3, rfl, ha3, hb3⟩
    replace k0 := keepCell hb3 k0
    replace k1 := keepCell hb3 k1
    replace k2 := keepCell hb3 k2
    replace k3 := keepCell hb3 k3
    have HB3 := Lib.hid (bnext HB2.out hb3)
    have HA3 := Lib.hid ha3
    have HZ3 : Hid (w.heap.size < w3.heap.size) := Lib.hid (Nat.lt_of_lt_of_le HZ2.out hb3.size)
    clear hb3 ha3
    go_wp2_with fail
    go_at_call 20
    refine (HS.out _ _ _ _ _ _ HA3.out).mono ?_
    rintro e w4 ⟨R4, c4, g4, rfl, _, hl4, ho4, hb4⟩
    replace k0 := keepCell hb4 k0
    replace k1 := keepCell hb4 k1
    replace k2 := keepCell hb4 k2
    replace k3 := keepCell hb4 k3
    have HB4 := Lib.hid (bnext HB3.out hb4)
    have N4 := Lib.hid ho4
    have L4 := Lib.hid hl4
    have HZ4 : Hid (w.heap.size < w4.heap.size) := Lib.hid (Nat.lt_of_lt_of_le HZ3.out hb4.size)
    clear hb4 ho4 hl4
    go_wp2_with fail
    go_at_call 9
    refine (HTO.out _ (HA.out.below HB4.out)).mono ?_
    rintro e w5 ⟨A5, B5, bs5, rfl, ho5, hd5, hbs5, hb5⟩
    replace k0 := keepCell hb5 k0
    replace k1 := keepCell hb5 k1
    replace k2 := keepCell hb5 k2
    replace k3 := keepCell hb5 k3
    have HB5 := Lib.hid (bnext HB4.out hb5)
    have HO5 := Lib.hid ho5
    have HD5 := Lib.hid hd5
    have HBS5 := Lib.hid hbs5
    have HA5 := Lib.hid (Ty.Own.at_ (lo := 0) (fun _ _ => Nat.zero_le _) ho5)
    have N5 := Lib.hid (N4.out.below hb5)
    have HS45 := Lib.hid hb5.size
    clear hb5 ho5 hd5 hbs5
    go_wp2_with fail
    go_at_call 21
    refine (HI.out _ _ _ _ _ (HA5.out.below (below1 _ _)) (HM.out.keep (bnext HB5.out (below1 _ _)))).mono ?_
    rintro e w6 ⟨R6, c6, g6, rfl, hg6, _, ho6, hb6⟩
    have j0 := keepCell (a := ⟨w5.heap.size, 0, none⟩) (v := .int .i64 T.kind) hb6 (by go_simp)
    have j1 := keepCell (a := ⟨w5.heap.size, 1, none⟩) (v := .string T.name) hb6 (by go_simp)
    have j2 := keepCell (a := ⟨w5.heap.size, 2, none⟩) (v := .slice A5 T.labels.length T.labels.length) hb6 (by go_simp)
    have j3 := keepCell (a := ⟨w5.heap.size, 3, none⟩) (v := .slice B5 T.kids.length T.kids.length) hb6 (by go_simp)
    replace k0 := keepCell hb6 (keepCell (below1 w5 _) k0)
    replace k1 := keepCell hb6 (keepCell (below1 w5 _) k1)
    replace k2 := keepCell hb6 (keepCell (below1 w5 _) k2)
    replace k3 := keepCell hb6 (keepCell (below1 w5 _) k3)
    have HB6 := Lib.hid (bnext (bnext HB5.out (below1 _ _)) hb6)
    have HN6 := Lib.hid (bnext (below1 _ _) hb6)
    have N6 := Lib.hid (N5.out.below HN6.out)
    have M6 := Lib.hid ho6
    have G6 : Hid (w5.heap.size ≤ g6) := Lib.hid (by simp at hg6; omega)
    have HO6 := Lib.hid (Ty.Own.keep (KeptBut.of_below (bs := []) HN6.out) (by simp) HO5.out)
    clear hb6 ho6 hg6
    go_wp2_with fail
    go_at_call 22
    refine (EJ.out _ _ _ _ _ M6.out.row N6.out.row).mono ?_
    rintro e w7 ⟨rfl, hb7⟩
    replace k0 := keepCell hb7 k0
    replace k1 := keepCell hb7 k1
    replace k2 := keepCell hb7 k2
    replace k3 := keepCell hb7 k3
    replace j0 := keepCell hb7 j0
    replace j1 := keepCell hb7 j1
    replace j2 := keepCell hb7 j2
    replace j3 := keepCell hb7 j3
    have HB7 := Lib.hid (bnext HB6.out hb7)
    have HN7 := Lib.hid (bnext HN6.out hb7)
    have N7 := Lib.hid (N6.out.below hb7)
    have M7 := Lib.hid (M6.out.below hb7)
    have HO7 := Lib.hid (Ty.Own.keep (KeptBut.of_below (bs := []) hb7) (by simp) HO6.out)
    clear hb7 N6 M6 HO6
    go_wp2_with fail
    go_region_held3 (fun w' => w'.cell? ⟨w5.heap.size, 0, none⟩ = some (.int .i64 T.kind) ∧ w'.cell? ⟨w5.heap.size, 1, none⟩ = some (.string T.name) ∧ w'.cell? ⟨w5.heap.size, 2, none⟩ = some (.slice A5 T.labels.length T.labels.length) ∧ w'.cell? ⟨w5.heap.size, 3, none⟩ = some (.slice B5 T.kids.length T.kids.length) ∧ w'.cell? ⟨w.heap.size, 0, none⟩ = some (.int .i64 T.kind) ∧ w'.cell? ⟨w.heap.size, 1, none⟩ = some (.string T.name) ∧ w'.cell? ⟨w.heap.size, 2, none⟩ = some (.slice A T.labels.length ca) ∧ w'.cell? ⟨w.heap.size, 3, none⟩ = some (.slice B T.kids.length cb) ∧ Below w7.heap.size w7 w')
      (first | assumption | (exact (Below.refl _ _).drew) | (exact ⟨j0, j1, j2, j3, k0, k1, k2, k3, (Below.refl _ _).drew⟩) | (refine ⟨?_, ?_, ?_, ?_, ?_, ?_, ?_, ?_, ?_⟩ <;> assumption))
      (first
        | (go_at_call 9; refine (HT.out _ (HA.out.below HB7.out.drew)).mono ?_; rintro e w8 ⟨A8, B8, rfl, ha8, hb8⟩; have hbw : Below w7.heap.size w7 w8 := (Below.refl w7.heap.size w7).drew.trans hb8; have pj0 := keepCell hbw j0; have pj1 := keepCell hbw j1; have pj2 := keepCell hbw j2; have pj3 := keepCell hbw j3; have pk0 := keepCell hbw k0; have pk1 := keepCell hbw k1; have pk2 := keepCell hbw k2; have pk3 := keepCell hbw k3)
        | (go_at_call 12; refine (HE.out _ _ _ _ _ _ _ _ _ _ _ ((HA5.out.below HN7.out).below hbw) ha8).mono ?_; rintro e w9 ⟨rfl, hb9⟩; have hbw9 : Below w7.heap.size w7 w9 := hbw.trans (hb9.mono hbw.size); have rj0 := keepCell hbw9 j0; have rj1 := keepCell hbw9 j1; have rj2 := keepCell hbw9 j2; have rj3 := keepCell hbw9 j3; have rk0 := keepCell hbw9 k0; have rk1 := keepCell hbw9 k1; have rk2 := keepCell hbw9 k2; have rk3 := keepCell hbw9 k3))
    go_wp2_with fail
    go_at_call 13
    refine (HMT.out _ _ _ _ _ _ (Ty.Own.keep (KeptBut.of_below (bs := []) hbw9) (by simp) HO7.out) HD5.out).mono ?_
    rintro e w10 ⟨rfl, hk10⟩
    have HB9 := Lib.hid (bnext HB7.out hbw9)
    have HB10 : Hid (Below w.heap.size w w10) := Lib.hid (HB9.out.trans (kbBelow7 hk10 (fun b hb => Nat.le_trans HB4.out.size (HBS5.out b hb).1) HB9.out.size))
    have hkn : w.heap.size ∉ bs5 := fun hm => by
      have h1 := HBS5.out _ hm
      have h2 := HZ4.out
      omega
    replace k0 := hk10.cell (a := ⟨w.heap.size, 0, none⟩) hkn rk0
    replace k1 := hk10.cell (a := ⟨w.heap.size, 1, none⟩) hkn rk1
    replace k2 := hk10.cell (a := ⟨w.heap.size, 2, none⟩) hkn rk2
    replace k3 := hk10.cell (a := ⟨w.heap.size, 3, none⟩) hkn rk3
    have N10 := Lib.hid ((N7.out.below hbw9).but (kbBut6 hk10) (fun hp hm => by
      have h1 := L4.out hp
      have h2 := HBS5.out _ hm
      omega))
    have M10 := Lib.hid ((M7.out.below hbw9).but (kbBut6 hk10) (fun hp hm => by
      have h1 := G6.out
      have h2 := HBS5.out _ hm
      omega))
    clear hk10 N7 M7 HO7 hkn hb9 hbw9
    go_wp2_with fail
    go_at_call 22
    refine (EJ.out _ _ _ _ _ M10.out.row N10.out.row).mono ?_
    rintro e w11 ⟨rfl, hb11⟩
    replace k0 := keepCell hb11 k0
    replace k1 := keepCell hb11 k1
    replace k2 := keepCell hb11 k2
    replace k3 := keepCell hb11 k3
    have HB11 := Lib.hid (bnext HB10.out hb11)
    have N11 := Lib.hid (N10.out.below hb11)
    have M11 := Lib.hid (M10.out.below hb11)
    clear hb11 N10 M10
    go_wp2_with fail
    go_at_call 23
    refine (HMK.out _ _ _ _ M11.out).mono ?_
    rintro e w12 ⟨rfl, ho12, hk12, _⟩
    have HB12 : Hid (Below w.heap.size w w12) := Lib.hid (HB11.out.trans (hk12.below (fun b hb => by
      rw [List.mem_singleton] at hb
      subst hb
      exact Nat.le_trans HB5.out.size G6.out) HB11.out.size))
    have hkn : w.heap.size ≠ g6 := fun e => by
      have h1 := G6.out
      have h2 := HZ4.out
      have h3 := HS45.out
      omega
    have hkc : ∀ o, w12.cell? ⟨w.heap.size, o, none⟩ = w11.cell? ⟨w.heap.size, o, none⟩ := fun o => World.cell?_of_block (hk12.block w.heap.size (World.block_lt_of_cell? _ _ k0) (by rw [List.mem_singleton]; exact hkn))
    replace k0 := (hkc 0).trans k0
    replace k1 := (hkc 1).trans k1
    replace k2 := (hkc 2).trans k2
    replace k3 := (hkc 3).trans k3
    have N12 := Lib.hid (N11.out.but hk12 (fun hp hm => by
      rw [List.mem_singleton] at hm
      have h1 := L4.out hp
      have h2 := G6.out
      have h3 := HS45.out
      omega))
    have M12 := Lib.hid ho12
    clear hkc
    clear ho12 hk12 N11 M11 hkn
    go_wp2_with fail
    go_at_call 24
    refine (HHK.out _ _ _ _ M12.out).mono ?_
    rintro e w13 ⟨rfl, hb13⟩
    replace k0 := keepCell hb13 k0
    replace k1 := keepCell hb13 k1
    replace k2 := keepCell hb13 k2
    replace k3 := keepCell hb13 k3
    have HB13 := Lib.hid (bnext HB12.out hb13)
    have N13 := Lib.hid (N12.out.below hb13)
    have M13 := Lib.hid (M12.out.below hb13)
    clear hb13
    go_wp2_with fail
    go_at_call 9
    refine (HT.out _ (HA.out.below HB13.out)).mono ?_
    rintro e w14 ⟨A14, B14, rfl, ha14, hb14⟩
    have HB14 := Lib.hid (bnext HB13.out hb14)
    have N14 := Lib.hid (N13.out.below hb14)
    have M14 := Lib.hid (M13.out.below hb14)
    have HA14 := Lib.hid ha14
    clear hb14 ha14
    go_wp2_with fail
    go_at_call 21
    refine (HI.out _ _ _ _ _ (HA14.out.low (Nat.zero_le _)) (HM.out.keep HB14.out)).mono ?_
    rintro e w15 ⟨R15, c15, g15, rfl, _, _, ho15, hb15⟩
    have HB15 := Lib.hid (bnext HB14.out hb15)
    have N15 := Lib.hid (N14.out.below hb15)
    have M15 := Lib.hid (M14.out.below hb15)
    have L15 := Lib.hid ho15
    clear hb15 ho15
    go_wp2_with fail
    go_at_call 22
    refine (EJ.out _ _ _ _ _ L15.out.row N15.out.row).mono ?_
    rintro e w16 ⟨rfl, hb16⟩
    have HB16 := Lib.hid (bnext HB15.out hb16)
    have M16 := Lib.hid (M15.out.below hb16)
    clear hb16
    go_wp2_with fail
    go_at_call 24
    refine (HHK.out _ _ _ _ M16.out).mono ?_
    rintro e w17 ⟨rfl, hb17⟩
    have HB17 := Lib.hid (bnext HB16.out hb17)
    clear hb17
    go_wp2_with fail
    go_ret
    exact ⟨rfl, HB17.out⟩
end Go.Proofs.Ytlmmbheamicdaab
