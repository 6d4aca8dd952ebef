/-
  The walk of the law FnExactFuncOk: both answer alike, and the argument stays.
-/
import Derived.Test.YtlmmbheamicdaaaDoorFnOkI
namespace Go.Proofs.YtlmmbheamicdaaaDoor
open Go.ChangeShapes Go.WideShapes Go.ChangeAt Go.RowKit Go.Deep

set_option maxHeartbeats 1000000 in
set_option maxRecDepth 100000 in
theorem specFuncOk_any (x : Fn) (hT : x.wt ≤ 1048576) (R A B : Option Addr) (c ca cb lo : Nat) (w : World) (hat : Fn.At w lo x R A B) :
    Calls Tryd.prog 5 #[.agg #[.slice R x.params.length c, .int .i64 x.res.kind, .string x.res.name, .slice A x.res.labels.length ca, .slice B x.res.kids.length cb, .bool x.async]] w (SaysB (Fn.Ok x) w) := by
  have C := Lib.hid (fun W h => l03Func_any x hT R A B c ca cb lo W h)
  have HA := Lib.hid hat
  clear hat hT
  go_enter Tryd.func5, Tryd.ntmps5
  go_wp2_with fail
  go_at_call 11
  first
    | refine (C.out _ HA.out).mono ?_
    | refine (C.out _ (HA.out.below (below1 _ _))).mono ?_
  rintro e w2 ⟨v, rfl, hv, hb⟩
  have HV := Lib.hid hv
  have HB := Lib.hid hb
  clear hv hb C
  go_wp2_with fail
  go_ret
  first
    | exact ⟨v, rfl, HV.out, HB.out⟩
    | exact ⟨v, rfl, HV.out, bnext (below1 _ _) HB.out⟩

set_option maxHeartbeats 2000000 in
set_option maxRecDepth 100000 in
theorem fnExactFuncOkLaw (x : Fn) (R A B : Option Addr) (c ca cb : Nat) (w : World) (hat : Fn.At w 0 x R A B) (hfin : x.Fin) (hm : MaxC w) :
    Calls Tryd.prog 3 #[.agg #[.slice R x.params.length c, .int .i64 x.res.kind, .string x.res.name, .slice A x.res.labels.length ca, .slice B x.res.kids.length cb, .bool x.async]] w fun e w' => e = .returned (.bool true) ∧ Below w.heap.size w w' := by
  have S := fun W h => szFuncType_any x hfin 1048576 (by omega) (by omega) R c A B ca cb 0 W h
  have HA := Lib.hid hat
  have HM := Lib.hid hm
  have hn0 := x.wt_nonneg
  clear hat hm hfin
  by_cases hn : 1048576 - x.wt < 0
  · rw [leftOr_neg hn] at S
    have S := Lib.hid S
    clear hn
    go_enter Tryd.func3, Tryd.ntmps3
    go_wp2_with fail
    go_at_call 4
    refine (S.out _ (HA.out.below (below1 _ _))).mono ?_
    rintro e w2 ⟨rfl, hb2⟩
    have HB2 := Lib.hid (bnext (below1 _ _) hb2)
    clear hb2
    go_wp2_with fail
    go_ret
    exact ⟨rfl, HB2.out⟩
  · have hT : x.wt ≤ 1048576 := by omega
    rw [leftOr_pos (by omega)] at S
    obtain ⟨L, hL⟩ : ∃ L, 1048576 - x.wt = L := ⟨_, rfl⟩
    rw [hL] at S
    have hL0 : 0 ≤ L := by omega
    have S := Lib.hid S
    have HT := Lib.hid (fun W h => toFuncType_any x hT R c A B ca cb 0 W h)
    have HE := Lib.hid (fun R1 c1 A1 B1 d1 e1 R2 c2 A2 B2 d2 e2 lo lo' W h h' => eqFuncType_any x hT R1 c1 A1 B1 d1 e1 R2 c2 A2 B2 d2 e2 lo lo' W h h')
    have HS := Lib.hid (fun R A B c ca cb lo W h => specFuncOk_any x hT R A B c ca cb lo W h)
    have HI := Lib.hid (fun R A B c ca cb lo W h h2 => implFuncOk_any x hT R A B c ca cb lo W h h2)
    clear hn hL hn0 hT
    go_enter Tryd.func3, Tryd.ntmps3
    go_wp2_with fail
    go_at_call 4
    refine (S.out _ (HA.out.below (below1 _ _))).mono ?_
    rintro e w2 ⟨rfl, hb2⟩
    have k0 := keepCell (a := ⟨w.heap.size, 0, none⟩) (v := .slice R x.params.length c) hb2 (by go_simp)
    have k1 := keepCell (a := ⟨w.heap.size, 1, none⟩) (v := .int .i64 x.res.kind) hb2 (by go_simp)
    have k2 := keepCell (a := ⟨w.heap.size, 2, none⟩) (v := .string x.res.name) hb2 (by go_simp)
    have k3 := keepCell (a := ⟨w.heap.size, 3, none⟩) (v := .slice A x.res.labels.length ca) hb2 (by go_simp)
    have k4 := keepCell (a := ⟨w.heap.size, 4, none⟩) (v := .slice B x.res.kids.length cb) hb2 (by go_simp)
    have k5 := keepCell (a := ⟨w.heap.size, 5, none⟩) (v := .bool x.async) hb2 (by go_simp)
    have HB2 := Lib.hid (bnext (below1 _ _) hb2)
    clear hb2 S
    go_wp2_with fail
    go_at_call 6
    refine (HT.out _ (HA.out.below HB2.out)).mono ?_
    rintro e w3 ⟨R3, c3, A3, B3, ca3, cb3, rfl, ha3, hb3⟩
    replace k0 := keepCell hb3 k0
    replace k1 := keepCell hb3 k1
    replace k2 := keepCell hb3 k2
    replace k3 := keepCell hb3 k3
    replace k4 := keepCell hb3 k4
    replace k5 := keepCell hb3 k5
    have HB3 := Lib.hid (bnext HB2.out hb3)
    have HA3 := Lib.hid ha3
    clear hb3 ha3
    go_wp2_with fail
    go_at_call 5
    refine (HS.out _ _ _ _ _ _ _ _ HA3.out).mono ?_
    rintro e w4 ⟨v, rfl, hv, hb4⟩
    replace k0 := keepCell hb4 k0
    replace k1 := keepCell hb4 k1
    replace k2 := keepCell hb4 k2
    replace k3 := keepCell hb4 k3
    replace k4 := keepCell hb4 k4
    replace k5 := keepCell hb4 k5
    have HB4 := Lib.hid (bnext HB3.out hb4)
    have HV := Lib.hid hv
    clear hv
    clear hb4
    go_wp2_with fail
    go_at_call 6
    refine (HT.out _ (HA.out.below HB4.out)).mono ?_
    rintro e w5 ⟨R5, c5, A5, B5, ca5, cb5, rfl, ha5, hb5⟩
    replace k0 := keepCell hb5 k0
    replace k1 := keepCell hb5 k1
    replace k2 := keepCell hb5 k2
    replace k3 := keepCell hb5 k3
    replace k4 := keepCell hb5 k4
    replace k5 := keepCell hb5 k5
    have HB5 := Lib.hid (bnext HB4.out hb5)
    have HA5 := Lib.hid ha5
    clear hb5 ha5
    go_wp2_with fail
    go_at_call 7
    refine (HI.out _ _ _ _ _ _ _ _ (HA5.out.below (below1 _ _)) (HM.out.keep (bnext HB5.out (below1 _ _)))).mono ?_
    rintro e w6 ⟨u, rfl, hu, hb6⟩
    have j0 := keepCell (a := ⟨w5.heap.size, 0, none⟩) (v := .slice R5 x.params.length c5) hb6 (by go_simp)
    have j1 := keepCell (a := ⟨w5.heap.size, 1, none⟩) (v := .int .i64 x.res.kind) hb6 (by go_simp)
    have j2 := keepCell (a := ⟨w5.heap.size, 2, none⟩) (v := .string x.res.name) hb6 (by go_simp)
    have j3 := keepCell (a := ⟨w5.heap.size, 3, none⟩) (v := .slice A5 x.res.labels.length ca5) hb6 (by go_simp)
    have j4 := keepCell (a := ⟨w5.heap.size, 4, none⟩) (v := .slice B5 x.res.kids.length cb5) hb6 (by go_simp)
    have j5 := keepCell (a := ⟨w5.heap.size, 5, none⟩) (v := .bool x.async) hb6 (by go_simp)
    replace k0 := keepCell hb6 (keepCell (below1 w5 _) k0)
    replace k1 := keepCell hb6 (keepCell (below1 w5 _) k1)
    replace k2 := keepCell hb6 (keepCell (below1 w5 _) k2)
    replace k3 := keepCell hb6 (keepCell (below1 w5 _) k3)
    replace k4 := keepCell hb6 (keepCell (below1 w5 _) k4)
    replace k5 := keepCell hb6 (keepCell (below1 w5 _) k5)
    have HB6 := Lib.hid (bnext (bnext HB5.out (below1 _ _)) hb6)
    have HN6 := Lib.hid (bnext (below1 _ _) hb6)
    obtain rfl : v = u := Bool.eq_iff_iff.mpr (HV.out.trans hu.symm)
    clear hu
    clear hb6
    go_wp2_with fail
    go_region_held3 (fun w' => w'.cell? ⟨w5.heap.size, 0, none⟩ = some (.slice R5 x.params.length c5) ∧ w'.cell? ⟨w5.heap.size, 1, none⟩ = some (.int .i64 x.res.kind) ∧ w'.cell? ⟨w5.heap.size, 2, none⟩ = some (.string x.res.name) ∧ w'.cell? ⟨w5.heap.size, 3, none⟩ = some (.slice A5 x.res.labels.length ca5) ∧ w'.cell? ⟨w5.heap.size, 4, none⟩ = some (.slice B5 x.res.kids.length cb5) ∧ w'.cell? ⟨w5.heap.size, 5, none⟩ = some (.bool x.async) ∧ w'.cell? ⟨w.heap.size, 0, none⟩ = some (.slice R x.params.length c) ∧ w'.cell? ⟨w.heap.size, 1, none⟩ = some (.int .i64 x.res.kind) ∧ w'.cell? ⟨w.heap.size, 2, none⟩ = some (.string x.res.name) ∧ w'.cell? ⟨w.heap.size, 3, none⟩ = some (.slice A x.res.labels.length ca) ∧ w'.cell? ⟨w.heap.size, 4, none⟩ = some (.slice B x.res.kids.length cb) ∧ w'.cell? ⟨w.heap.size, 5, none⟩ = some (.bool x.async) ∧ Below w6.heap.size w6 w')
      (first | assumption | (exact (Below.refl _ _).drew) | (exact ⟨j0, j1, j2, j3, j4, j5, k0, k1, k2, k3, k4, k5, (Below.refl _ _).drew⟩) | (refine ⟨?_, ?_, ?_, ?_, ?_, ?_, ?_, ?_, ?_, ?_, ?_, ?_, ?_⟩ <;> assumption))
      (first
        | (go_at_call 6; refine (HT.out _ (HA.out.below HB6.out.drew)).mono ?_; rintro e w7 ⟨R7, c7, A7, B7, ca7, cb7, rfl, ha7, hb7⟩; have hbw : Below w6.heap.size w6 w7 := (Below.refl w6.heap.size w6).drew.trans hb7; have pj0 := keepCell hbw j0; have pj1 := keepCell hbw j1; have pj2 := keepCell hbw j2; have pj3 := keepCell hbw j3; have pj4 := keepCell hbw j4; have pj5 := keepCell hbw j5; have pk0 := keepCell hbw k0; have pk1 := keepCell hbw k1; have pk2 := keepCell hbw k2; have pk3 := keepCell hbw k3; have pk4 := keepCell hbw k4; have pk5 := keepCell hbw k5)
        | (go_at_call 8; refine (HE.out _ _ _ _ _ _ _ _ _ _ _ _ _ _ _ ((HA5.out.below HN6.out).below hbw) ha7).mono ?_; rintro e w8 ⟨rfl, hb8⟩; have hbw8 : Below w6.heap.size w6 w8 := hbw.trans (hb8.mono hbw.size); have rj0 := keepCell hbw8 j0; have rj1 := keepCell hbw8 j1; have rj2 := keepCell hbw8 j2; have rj3 := keepCell hbw8 j3; have rj4 := keepCell hbw8 j4; have rj5 := keepCell hbw8 j5; have rk0 := keepCell hbw8 k0; have rk1 := keepCell hbw8 k1; have rk2 := keepCell hbw8 k2; have rk3 := keepCell hbw8 k3; have rk4 := keepCell hbw8 k4; have rk5 := keepCell hbw8 k5))
    go_wp2_with fail
    go_ret
    exact ⟨rfl, bnext HB6.out (by assumption)⟩
end Go.Proofs.YtlmmbheamicdaaaDoor
