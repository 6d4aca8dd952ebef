/-
  The walk of the law FnExactPartsOf: both answer alike, and the argument stays.
-/
import Derived.Test.YtlmmbheamicdaaaTyNum
namespace Go.Proofs.Ytlmmbheamicdaaa
open Go.ChangeShapes Go.WideShapes Go.ChangeAt Go.RowKit Go.Deep

set_option maxHeartbeats 1000000 in
set_option maxRecDepth 100000 in
theorem fnExactPartsOfLaw (T : Ty) (A B : Option Addr) (ca cb : Nat) (w : World) (hat : Ty.At w 0 T A B) (hfin : T.Fin) (hm : MaxC w) :
    Calls Try.prog 4 #[.agg #[.int .i64 T.kind, .string T.name, .slice A T.labels.length ca, .slice B T.kids.length cb]] w fun e w' => e = .returned (.bool true) ∧ Below w.heap.size w w' := by
  have S := szType_any T hfin 1048576 (by omega) (by omega) A B ca cb 0
  have HA := Lib.hid hat
  have HM := Lib.hid hm
  have hn0 := T.wt_nonneg
  clear hat hm hfin
  by_cases hn : 1048576 - T.wt < 0
  · rw [leftOr_neg hn] at S
    have S := Lib.hid S
    clear hn
    go_enter Try.func4, Try.ntmps4
    go_wp2_with fail
    go_at_call 14
    refine (S.out _ (HA.out.below (below1 _ _))).mono ?_
    rintro e w2 ⟨rfl, hb2⟩
    have HB2 := Lib.hid (bnext (below1 _ _) hb2)
    clear hb2
    go_wp2_with fail
    go_ret
    exact ⟨rfl, HB2.out⟩
  · have hT : T.wt ≤ 1048576 := by omega
    rw [leftOr_pos (by omega)] at S
    obtain ⟨L, hL⟩ : ∃ L, 1048576 - T.wt = L := ⟨_, rfl⟩
    rw [hL] at S
    have hL0 : 0 ≤ L := by omega
    have S := Lib.hid S
    have TI := TyIn.of hT A B ca cb
    have HT := Lib.hid TI.to_
    have HE := Lib.hid TI.eq_
    have HS := Lib.hid (fun A' B' ca' cb' lo W h => specParts_any T hT A' B' ca' cb' lo W h)
    have HI := Lib.hid (fun A' B' ca' cb' lo W h h2 => implParts_any T lo hT A' B' ca' cb' W h h2)
    clear hn hL hn0 TI hT
    go_enter Try.func4, Try.ntmps4
    go_wp2_with fail
    go_at_call 14
    refine (S.out _ (HA.out.below (below1 _ _))).mono ?_
    rintro e w2 ⟨rfl, hb2⟩
    have k0 := keepCell (a := ⟨w.heap.size, 0, none⟩) (v := .int .i64 T.kind) hb2 (by go_simp)
    have k1 := keepCell (a := ⟨w.heap.size, 1, none⟩) (v := .string T.name) hb2 (by go_simp)
    have k2 := keepCell (a := ⟨w.heap.size, 2, none⟩) (v := .slice A T.labels.length ca) hb2 (by go_simp)
    have k3 := keepCell (a := ⟨w.heap.size, 3, none⟩) (v := .slice B T.kids.length cb) hb2 (by go_simp)
    have HB2 := Lib.hid (bnext (below1 _ _) hb2)
    clear hb2 S
    go_wp2_with fail
    go_at_call 16
    refine (HT.out _ (HA.out.below HB2.out)).mono ?_
    rintro e w3 ⟨A3, B3, rfl, ha3, hb3⟩
    replace k0 := keepCell hb3 k0
    replace k1 := keepCell hb3 k1
    replace k2 := keepCell hb3 k2
    replace k3 := keepCell hb3 k3
    have HB3 := Lib.hid (bnext HB2.out hb3)
    have HA3 := Lib.hid ha3
    clear hb3 ha3
    go_wp2_with fail
    go_at_call 19
    refine (HS.out _ _ _ _ _ _ HA3.out).mono ?_
    rintro e w4 ⟨v, rfl, hv, hb4⟩
    replace k0 := keepCell hb4 k0
    replace k1 := keepCell hb4 k1
    replace k2 := keepCell hb4 k2
    replace k3 := keepCell hb4 k3
    have HB4 := Lib.hid (bnext HB3.out hb4)
    have HV := Lib.hid hv
    clear hv
    clear hb4
    go_wp2_with fail
    go_at_call 16
    refine (HT.out _ (HA.out.below HB4.out)).mono ?_
    rintro e w5 ⟨A5, B5, rfl, ha5, hb5⟩
    replace k0 := keepCell hb5 k0
    replace k1 := keepCell hb5 k1
    replace k2 := keepCell hb5 k2
    replace k3 := keepCell hb5 k3
    have HB5 := Lib.hid (bnext HB4.out hb5)
    have HA5 := Lib.hid ha5
    clear hb5 ha5
    go_wp2_with fail
    go_at_call 20
    refine (HI.out _ _ _ _ _ _ (HA5.out.below (below1 _ _)) (HM.out.keep (bnext HB5.out (below1 _ _)))).mono ?_
    rintro e w6 ⟨u, rfl, hu, hb6⟩
    have j0 := keepCell (a := ⟨w5.heap.size, 0, none⟩) (v := .int .i64 T.kind) hb6 (by go_simp)
    have j1 := keepCell (a := ⟨w5.heap.size, 1, none⟩) (v := .string T.name) hb6 (by go_simp)
    have j2 := keepCell (a := ⟨w5.heap.size, 2, none⟩) (v := .slice A5 T.labels.length T.labels.length) hb6 (by go_simp)
    have j3 := keepCell (a := ⟨w5.heap.size, 3, none⟩) (v := .slice B5 T.kids.length T.kids.length) hb6 (by go_simp)
    replace k0 := keepCell hb6 (keepCell (below1 w5 _) k0)
    replace k1 := keepCell hb6 (keepCell (below1 w5 _) k1)
    replace k2 := keepCell hb6 (keepCell (below1 w5 _) k2)
    replace k3 := keepCell hb6 (keepCell (below1 w5 _) k3)
    have HB6 := Lib.hid (bnext (bnext HB5.out (below1 _ _)) hb6)
    have HN6 := Lib.hid (bnext (below1 _ _) hb6)
    obtain rfl : v = u := saysNum_same HV.out hu
    clear hu
    clear hb6
    go_wp2_with fail
    go_region_held3 (fun w' => w'.cell? ⟨w5.heap.size, 0, none⟩ = some (.int .i64 T.kind) ∧ w'.cell? ⟨w5.heap.size, 1, none⟩ = some (.string T.name) ∧ w'.cell? ⟨w5.heap.size, 2, none⟩ = some (.slice A5 T.labels.length T.labels.length) ∧ w'.cell? ⟨w5.heap.size, 3, none⟩ = some (.slice B5 T.kids.length T.kids.length) ∧ w'.cell? ⟨w.heap.size, 0, none⟩ = some (.int .i64 T.kind) ∧ w'.cell? ⟨w.heap.size, 1, none⟩ = some (.string T.name) ∧ w'.cell? ⟨w.heap.size, 2, none⟩ = some (.slice A T.labels.length ca) ∧ w'.cell? ⟨w.heap.size, 3, none⟩ = some (.slice B T.kids.length cb) ∧ Below w6.heap.size w6 w')
      (first | assumption | (exact (Below.refl _ _).drew) | (exact ⟨j0, j1, j2, j3, k0, k1, k2, k3, (Below.refl _ _).drew⟩) | (refine ⟨?_, ?_, ?_, ?_, ?_, ?_, ?_, ?_, ?_⟩ <;> assumption))
      (first
        | (go_at_call 16; refine (HT.out _ (HA.out.below HB6.out.drew)).mono ?_; rintro e w7 ⟨A7, B7, rfl, ha7, hb7⟩; have hbw : Below w6.heap.size w6 w7 := (Below.refl w6.heap.size w6).drew.trans hb7; have pj0 := keepCell hbw j0; have pj1 := keepCell hbw j1; have pj2 := keepCell hbw j2; have pj3 := keepCell hbw j3; have pk0 := keepCell hbw k0; have pk1 := keepCell hbw k1; have pk2 := keepCell hbw k2; have pk3 := keepCell hbw k3)
        | (go_at_call 18; refine (HE.out _ _ _ _ _ _ _ _ _ _ _ ((HA5.out.below HN6.out).below hbw) ha7).mono ?_; rintro e w8 ⟨rfl, hb8⟩; have hbw8 : Below w6.heap.size w6 w8 := hbw.trans (hb8.mono hbw.size); have rj0 := keepCell hbw8 j0; have rj1 := keepCell hbw8 j1; have rj2 := keepCell hbw8 j2; have rj3 := keepCell hbw8 j3; have rk0 := keepCell hbw8 k0; have rk1 := keepCell hbw8 k1; have rk2 := keepCell hbw8 k2; have rk3 := keepCell hbw8 k3))
    go_wp2_with fail
    go_ret
    exact ⟨rfl, bnext HB6.out (by assumption)⟩
end Go.Proofs.Ytlmmbheamicdaaa
