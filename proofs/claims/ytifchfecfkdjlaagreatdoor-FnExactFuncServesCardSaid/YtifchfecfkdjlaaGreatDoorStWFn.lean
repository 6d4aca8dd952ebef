/-
  Walks of measuring, copying and comparing FuncType by value and in slices.
-/
import Derived.Test.YtifchfecfkdjlaaGreatDoorMH
import Derived.Test.YtifchfecfkdjlaaGreatDoorME
import Derived.Test.YtifchfecfkdjlaaGreatDoorStWSPm
namespace Go.Proofs.YtifchfecfkdjlaaGreatDoor
open Go.ChangeShapes Go.WideShapes Go.ChangeAt Go.RowKit Go.Deep

theorem Fn.parts_le {x : Fn} (h : x.wt ≤ 1048576) : ((x.params.length : Int) + Pm.wts x.params) ≤ 1048576 ∧ x.res.wt ≤ 1048576 ∧ True := by
  have := Pm.wts_nonneg x.params
  have := x.res.wt_nonneg
  unfold Fn.wt at h
  refine ⟨by omega, by omega, trivial⟩

theorem szFuncType_any (x : Fn) (hf : x.Fin) (left : Int) (h0 : 0 ≤ left) (h1 : left ≤ 1048576) (Rparams : Option Addr) (cparams : Nat) (Ares : Option Addr) (Bres : Option Addr) (cres : Nat) (dres : Nat) (lo : Nat) (w : World) (h : Fn.At w lo x Rparams Ares Bres) :
    Calls Tryz.prog 15 #[.agg #[.slice Rparams x.params.length cparams, .int .i64 x.res.kind, .string x.res.name, .slice Ares x.res.labels.length cres, .slice Bres x.res.kids.length dres, .bool x.async], .int .i64 left] w fun e w' => e = .returned (.int .i64 (leftOr (left - x.wt))) ∧ Below w.heap.size w w' := by
  obtain ⟨f0, f1⟩ := hf
  have hw : x.wt = ((x.params.length : Int) + Pm.wts x.params) + x.res.wt := rfl
  have n_params := Pm.wts_nonneg x.params
  have n_res := x.res.wt_nonneg
  obtain ⟨p_params, p_res⟩ := h
  have HP_params := Lib.hid p_params
  have HP_res := Lib.hid p_res
  have C_params : Hid (∀ (l : Int), 0 ≤ l → l ≤ 1048576 → ∀ W : World, Pms W lo x.params Rparams → Calls Tryz.prog 33 #[.slice Rparams x.params.length cparams, .int .i64 l] W fun e w' => e = .returned (.int .i64 (leftOr (l - ((x.params.length : Int) + Pm.wts x.params)))) ∧ Below W.heap.size W w') := Lib.hid (fun l l0 l1 W hW => szParamS_any x.params f0.1 f0.2 l l0 l1 Rparams cparams lo W hW)
  have C_res : Hid (∀ (l : Int), 0 ≤ l → l ≤ 1048576 → ∀ W : World, Ty.Ao W lo x.res Ares Bres → Calls Tryz.prog 7 #[.agg #[.int .i64 x.res.kind, .string x.res.name, .slice Ares x.res.labels.length cres, .slice Bres x.res.kids.length dres], .int .i64 l] W fun e w' => e = .returned (.int .i64 (leftOr (l - x.res.wt))) ∧ Below W.heap.size W w') := Lib.hid (fun l l0 l1 W hW => szType_any x.res f1 l l0 l1 Ares Bres cres dres lo W hW.1)
  obtain ⟨R, hR⟩ : ∃ R, leftOr (left - x.wt) = R := ⟨_, rfl⟩
  rw [hR]
  have HRR := Lib.hid hR
  have HW := Lib.hid hw
  clear hR hw p_params p_res
  generalize Pm.wts x.params = w_params at *
  generalize x.params.length = l_params at *
  generalize x.res.wt = w_res at *
  generalize x.wt = W0 at *
  go_enter Tryz.func15, Tryz.ntmps15
  go_wp2_with fail
  go_at_call 33
  refine (C_params.out _ h0 h1 _ (HP_params.out.below (below1 _ _))).mono ?_
  rintro e v1 ⟨rfl, hb1⟩
  have k_1_res_0 := keepCell (a := ⟨w.heap.size, 1, none⟩) (v := .int .i64 x.res.kind) hb1 (by go_simp)
  have k_1_res_1 := keepCell (a := ⟨w.heap.size, 2, none⟩) (v := .string x.res.name) hb1 (by go_simp)
  have k_1_res_2 := keepCell (a := ⟨w.heap.size, 3, none⟩) (v := .slice Ares x.res.labels.length cres) hb1 (by go_simp)
  have k_1_res_3 := keepCell (a := ⟨w.heap.size, 4, none⟩) (v := .slice Bres x.res.kids.length dres) hb1 (by go_simp)
  have HB1 := Lib.hid (bnext (below1 _ _) hb1)
  clear hb1
  by_cases e1 : left - ((l_params : Int) + w_params) < 0
  · rw [leftOr_neg e1]
    go_wp2_with fail
    go_ret
    refine ⟨ret_int ?_, HB1.out⟩
    have := HW.out
    rw [← HRR.out, leftOr_neg (by omega)]
  · rw [leftOr_pos (by omega)]
    obtain ⟨M1, hm1⟩ : ∃ M, left - ((l_params : Int) + w_params) = M := ⟨_, rfl⟩
    rw [hm1]
    have hx1 : 0 ≤ M1 := by omega
    have hy1 : M1 ≤ 1048576 := by omega
    have Hm1 := Lib.hid hm1
    clear e1 hm1
    go_wp2_with fail
    go_at_call 7
    refine (C_res.out _ hx1 hy1 _ (HP_res.out.below (HB1.out))).mono ?_
    rintro e v2 ⟨rfl, hb2⟩
    have HB2 := Lib.hid (bnext (HB1.out) hb2)
    clear hb2
    by_cases e2 : M1 - w_res < 0
    · rw [leftOr_neg e2]
      go_wp2_with fail
      go_ret
      refine ⟨ret_int ?_, HB2.out⟩
      have := HW.out
      have := Hm1.out
      rw [← HRR.out, leftOr_neg (by omega)]
    · rw [leftOr_pos (by omega)]
      obtain ⟨M2, hm2⟩ : ∃ M, M1 - w_res = M := ⟨_, rfl⟩
      rw [hm2]
      have hx2 : 0 ≤ M2 := by omega
      have hy2 : M2 ≤ 1048576 := by omega
      have Hm2 := Lib.hid hm2
      clear e2 hm2
      go_wp2_with fail
      go_ret
      refine ⟨ret_int ?_, HB2.out⟩
      have := HW.out
      have := Hm1.out
      have := Hm2.out
      rw [← HRR.out, leftOr_pos (by omega)]
      omega

/-- What copying leaves: the same in new memory. -/
def ToFuncTypePost (x : Fn) (w : World) (e : Ending) (w' : World) : Prop := ∃ (Rparams : Option Addr), ∃ (cparams : Nat), ∃ (Ares : Option Addr), ∃ (Bres : Option Addr), ∃ (cres : Nat), ∃ (dres : Nat), e = .returned (.agg #[.slice Rparams x.params.length cparams, .int .i64 x.res.kind, .string x.res.name, .slice Ares x.res.labels.length cres, .slice Bres x.res.kids.length dres, .bool x.async]) ∧ Fn.At w' w.heap.size x Rparams Ares Bres ∧ Below w.heap.size w w'
set_option maxRecDepth 100000 in
theorem toFuncType_any (x : Fn) (hT : x.wt ≤ 1048576) (Rparams : Option Addr) (cparams : Nat) (Ares : Option Addr) (Bres : Option Addr) (cres : Nat) (dres : Nat) (lo : Nat) (w : World) (h : Fn.At w lo x Rparams Ares Bres) :
    Calls Tryz.prog 17 #[.agg #[.slice Rparams x.params.length cparams, .int .i64 x.res.kind, .string x.res.name, .slice Ares x.res.labels.length cres, .slice Bres x.res.kids.length dres, .bool x.async]] w (ToFuncTypePost x w) := by
  obtain ⟨q_params, q_res, _⟩ := Fn.parts_le hT
  obtain ⟨p_params, p_res⟩ := h
  have HP_params := Lib.hid p_params
  have HP_res := Lib.hid p_res
  have C_params : Hid (∀ W : World, Pms W lo x.params Rparams → Calls Tryz.prog 36 #[.slice Rparams x.params.length cparams] W fun e w' => ∃ (Rparams' : Option Addr), ∃ (cparams' : Nat), e = .returned (.slice Rparams' x.params.length cparams') ∧ Pms w' W.heap.size x.params Rparams' ∧ Below W.heap.size W w') := Lib.hid (fun W hW => toParamS_any x.params (by have := Pm.wts_nonneg x.params; omega) (fun i y hy => by have := Pm.wt_mem hy; omega) Rparams cparams lo W hW)
  have C_res : Hid (∀ W : World, Ty.Ao W lo x.res Ares Bres → Calls Tryz.prog 9 #[.agg #[.int .i64 x.res.kind, .string x.res.name, .slice Ares x.res.labels.length cres, .slice Bres x.res.kids.length dres]] W fun e w' => ∃ (Ares' : Option Addr), ∃ (Bres' : Option Addr), ∃ (cres' : Nat), ∃ (dres' : Nat), e = .returned (.agg #[.int .i64 x.res.kind, .string x.res.name, .slice Ares' x.res.labels.length cres', .slice Bres' x.res.kids.length dres']) ∧ Ty.Ao w' W.heap.size x.res Ares' Bres' ∧ Below W.heap.size W w') := Lib.hid (fun W hW => toType_ax x.res q_res Ares Bres cres dres lo W hW)
  clear hT p_params p_res q_params q_res
  go_enter Tryz.func17, Tryz.ntmps17
  go_wp2_with fail
  go_at_call 36
  refine (C_params.out _ (HP_params.out.below (by (repeat (with_reducible refine Below.setCell ?_ (by first | (simp; done) | (simp; omega)) _)); exact below3 _ _ _ _))).mono ?_
  rintro e v1 ⟨Rparamsz, cparamsz, rfl, hp1, hb1⟩
  obtain ⟨hc1, hf1⟩ := bcell hb1
  have d1_0 := keepCell (a := ⟨w.heap.size + 1 + 1, 0, none⟩) (v := .slice none 0 0) hb1 (by go_simp)
  have r1_0 := keepCell (a := ⟨w.heap.size + 1, 0, none⟩) (v := .slice none 0 0) hb1 (by go_simp)
  have d1_1 := keepCell (a := ⟨w.heap.size + 1 + 1, 1, none⟩) (v := .int .i64 0) hb1 (by go_simp)
  have r1_1 := keepCell (a := ⟨w.heap.size + 1, 1, none⟩) (v := .int .i64 0) hb1 (by go_simp)
  have d1_2 := keepCell (a := ⟨w.heap.size + 1 + 1, 2, none⟩) (v := .string ⟨#[]⟩) hb1 (by go_simp)
  have r1_2 := keepCell (a := ⟨w.heap.size + 1, 2, none⟩) (v := .string ⟨#[]⟩) hb1 (by go_simp)
  have d1_3 := keepCell (a := ⟨w.heap.size + 1 + 1, 3, none⟩) (v := .slice none 0 0) hb1 (by go_simp)
  have r1_3 := keepCell (a := ⟨w.heap.size + 1, 3, none⟩) (v := .slice none 0 0) hb1 (by go_simp)
  have d1_4 := keepCell (a := ⟨w.heap.size + 1 + 1, 4, none⟩) (v := .slice none 0 0) hb1 (by go_simp)
  have r1_4 := keepCell (a := ⟨w.heap.size + 1, 4, none⟩) (v := .slice none 0 0) hb1 (by go_simp)
  have d1_5 := keepCell (a := ⟨w.heap.size + 1 + 1, 5, none⟩) (v := .bool false) hb1 (by go_simp)
  have r1_5 := keepCell (a := ⟨w.heap.size + 1, 5, none⟩) (v := .bool false) hb1 (by go_simp)
  have a1_1 := keepCell (a := ⟨w.heap.size, 1, none⟩) (v := .int .i64 x.res.kind) hb1 (by go_simp)
  have a1_2 := keepCell (a := ⟨w.heap.size, 2, none⟩) (v := .string x.res.name) hb1 (by go_simp)
  have a1_3 := keepCell (a := ⟨w.heap.size, 3, none⟩) (v := .slice Ares x.res.labels.length cres) hb1 (by go_simp)
  have a1_4 := keepCell (a := ⟨w.heap.size, 4, none⟩) (v := .slice Bres x.res.kids.length dres) hb1 (by go_simp)
  have a1_5 := keepCell (a := ⟨w.heap.size, 5, none⟩) (v := .bool x.async) hb1 (by go_simp)
  have HB1 : Hid (Below w.heap.size w v1) := Lib.hid (bnext (by (repeat (with_reducible refine Below.setCell ?_ (by first | (simp; done) | (simp; omega)) _)); exact below3 _ _ _ _) hb1)
  have HS1 := Lib.hid hb1
  have hz1 : w.heap.size + 1 + 1 < v1.heap.size := (by have h9 := hb1.size; simp at h9; omega)
  have g1 : ∀ o, v1.frozen? ⟨w.heap.size + 1, o, none⟩ = false := (fun o => (hf1 _ _ (by first | (simp; done) | (simp; omega))).trans (by go_simp))
  have h1 : ∀ o, v1.frozen? ⟨w.heap.size + 1 + 1, o, none⟩ = false := (fun o => (hf1 _ _ (by first | (simp; done) | (simp; omega))).trans (by go_simp))
  have P1 := Lib.hid (hp1.low (lo' := w.heap.size + 1 + 1 + 1) (by first | (simp; done) | (simp; omega)))
  clear hp1 hb1 hc1 hf1
  go_wp2_with fail
  go_at_call 9
  refine (C_res.out _ (HP_res.out.below (by (repeat (with_reducible refine Below.setCell ?_ (by first | (simp; done) | (simp; omega)) _)); exact HB1.out))).mono ?_
  rintro e v2 ⟨Aresz, Bresz, cresz, dresz, rfl, hp2, hb2⟩
  obtain ⟨hc2, hf2⟩ := bcell hb2
  have d2_0 := keepCell (a := ⟨w.heap.size + 1 + 1, 0, none⟩) (v := .slice Rparamsz x.params.length cparamsz) hb2 (by go_simp)
  have r2_0 := keepCell (a := ⟨w.heap.size + 1, 0, none⟩) (v := .slice none 0 0) hb2 (by go_simp)
  have d2_1 := keepCell (a := ⟨w.heap.size + 1 + 1, 1, none⟩) (v := .int .i64 0) hb2 (by go_simp)
  have r2_1 := keepCell (a := ⟨w.heap.size + 1, 1, none⟩) (v := .int .i64 0) hb2 (by go_simp)
  have d2_2 := keepCell (a := ⟨w.heap.size + 1 + 1, 2, none⟩) (v := .string ⟨#[]⟩) hb2 (by go_simp)
  have r2_2 := keepCell (a := ⟨w.heap.size + 1, 2, none⟩) (v := .string ⟨#[]⟩) hb2 (by go_simp)
  have d2_3 := keepCell (a := ⟨w.heap.size + 1 + 1, 3, none⟩) (v := .slice none 0 0) hb2 (by go_simp)
  have r2_3 := keepCell (a := ⟨w.heap.size + 1, 3, none⟩) (v := .slice none 0 0) hb2 (by go_simp)
  have d2_4 := keepCell (a := ⟨w.heap.size + 1 + 1, 4, none⟩) (v := .slice none 0 0) hb2 (by go_simp)
  have r2_4 := keepCell (a := ⟨w.heap.size + 1, 4, none⟩) (v := .slice none 0 0) hb2 (by go_simp)
  have d2_5 := keepCell (a := ⟨w.heap.size + 1 + 1, 5, none⟩) (v := .bool false) hb2 (by go_simp)
  have r2_5 := keepCell (a := ⟨w.heap.size + 1, 5, none⟩) (v := .bool false) hb2 (by go_simp)
  have a2_5 := keepCell (a := ⟨w.heap.size, 5, none⟩) (v := .bool x.async) hb2 (by go_simp)
  have HB2 : Hid (Below w.heap.size w v2) := Lib.hid (bnext (by (repeat (with_reducible refine Below.setCell ?_ (by first | (simp; done) | (simp; omega)) _)); exact HB1.out) hb2)
  have HS2 := Lib.hid hb2
  have hz2 : w.heap.size + 1 + 1 < v2.heap.size := (by have h9 := hb2.size; simp at h9; omega)
  have g2 : ∀ o, v2.frozen? ⟨w.heap.size + 1, o, none⟩ = false := (fun o => (hf2 _ _ (by first | (simp; done) | (simp; omega))).trans (by go_simp))
  have h2 : ∀ o, v2.frozen? ⟨w.heap.size + 1 + 1, o, none⟩ = false := (fun o => (hf2 _ _ (by first | (simp; done) | (simp; omega))).trans (by go_simp))
  have P2 := Lib.hid (Ty.Ao.low (lo' := w.heap.size + 1 + 1 + 1) (by first | (simp; done) | (simp; omega)) hp2)
  clear hp2 hb2 hc2 hf2 d1_0 r1_0 d1_1 r1_1 d1_2 r1_2 d1_3 r1_3 d1_4 r1_4 d1_5 r1_5 a1_1 a1_2 a1_3 a1_4 a1_5 g1 h1
  go_wp2_with fail
  have kk := sets_in (((((v2.setCell ⟨w.heap.size + 1 + 1, 1, none⟩ (.int .i64 x.res.kind)).setCell ⟨w.heap.size + 1 + 1, 2, none⟩ (.string x.res.name)).setCell ⟨w.heap.size + 1 + 1, 3, none⟩ (.slice Aresz x.res.labels.length cresz)).setCell ⟨w.heap.size + 1 + 1, 4, none⟩ (.slice Bresz x.res.kids.length dresz)).setCell ⟨w.heap.size + 1 + 1, 5, none⟩ (.bool x.async)) (w.heap.size + 1) [.slice Rparamsz x.params.length cparamsz, .int .i64 x.res.kind, .string x.res.name, .slice Aresz x.res.labels.length cresz, .slice Bresz x.res.kids.length dresz, .bool x.async] (fun j hj => by
    have h4 : j = 0 ∨ j = 1 ∨ j = 2 ∨ j = 3 ∨ j = 4 ∨ j = 5 := by simp at hj; omega
    rcases h4 with rfl | rfl | rfl | rfl | rfl | rfl <;> simp [World.cell?_setCell_other, r2_0, r2_1, r2_2, r2_3, r2_4, r2_5])
  have k0 : (((((((((((v2.setCell ⟨w.heap.size + 1 + 1, 1, none⟩ (.int .i64 x.res.kind)).setCell ⟨w.heap.size + 1 + 1, 2, none⟩ (.string x.res.name)).setCell ⟨w.heap.size + 1 + 1, 3, none⟩ (.slice Aresz x.res.labels.length cresz)).setCell ⟨w.heap.size + 1 + 1, 4, none⟩ (.slice Bresz x.res.kids.length dresz)).setCell ⟨w.heap.size + 1 + 1, 5, none⟩ (.bool x.async)).setCell ⟨w.heap.size + 1, 0, none⟩ (.slice Rparamsz x.params.length cparamsz)).setCell ⟨w.heap.size + 1, 1, none⟩ (.int .i64 x.res.kind)).setCell ⟨w.heap.size + 1, 2, none⟩ (.string x.res.name)).setCell ⟨w.heap.size + 1, 3, none⟩ (.slice Aresz x.res.labels.length cresz)).setCell ⟨w.heap.size + 1, 4, none⟩ (.slice Bresz x.res.kids.length dresz)).setCell ⟨w.heap.size + 1, 5, none⟩ (.bool x.async)).cell? ⟨w.heap.size + 1, 0, none⟩ = some (.slice Rparamsz x.params.length cparamsz) := kk 0 (by simp)
  have k1 : (((((((((((v2.setCell ⟨w.heap.size + 1 + 1, 1, none⟩ (.int .i64 x.res.kind)).setCell ⟨w.heap.size + 1 + 1, 2, none⟩ (.string x.res.name)).setCell ⟨w.heap.size + 1 + 1, 3, none⟩ (.slice Aresz x.res.labels.length cresz)).setCell ⟨w.heap.size + 1 + 1, 4, none⟩ (.slice Bresz x.res.kids.length dresz)).setCell ⟨w.heap.size + 1 + 1, 5, none⟩ (.bool x.async)).setCell ⟨w.heap.size + 1, 0, none⟩ (.slice Rparamsz x.params.length cparamsz)).setCell ⟨w.heap.size + 1, 1, none⟩ (.int .i64 x.res.kind)).setCell ⟨w.heap.size + 1, 2, none⟩ (.string x.res.name)).setCell ⟨w.heap.size + 1, 3, none⟩ (.slice Aresz x.res.labels.length cresz)).setCell ⟨w.heap.size + 1, 4, none⟩ (.slice Bresz x.res.kids.length dresz)).setCell ⟨w.heap.size + 1, 5, none⟩ (.bool x.async)).cell? ⟨w.heap.size + 1, 1, none⟩ = some (.int .i64 x.res.kind) := kk 1 (by simp)
  have k2 : (((((((((((v2.setCell ⟨w.heap.size + 1 + 1, 1, none⟩ (.int .i64 x.res.kind)).setCell ⟨w.heap.size + 1 + 1, 2, none⟩ (.string x.res.name)).setCell ⟨w.heap.size + 1 + 1, 3, none⟩ (.slice Aresz x.res.labels.length cresz)).setCell ⟨w.heap.size + 1 + 1, 4, none⟩ (.slice Bresz x.res.kids.length dresz)).setCell ⟨w.heap.size + 1 + 1, 5, none⟩ (.bool x.async)).setCell ⟨w.heap.size + 1, 0, none⟩ (.slice Rparamsz x.params.length cparamsz)).setCell ⟨w.heap.size + 1, 1, none⟩ (.int .i64 x.res.kind)).setCell ⟨w.heap.size + 1, 2, none⟩ (.string x.res.name)).setCell ⟨w.heap.size + 1, 3, none⟩ (.slice Aresz x.res.labels.length cresz)).setCell ⟨w.heap.size + 1, 4, none⟩ (.slice Bresz x.res.kids.length dresz)).setCell ⟨w.heap.size + 1, 5, none⟩ (.bool x.async)).cell? ⟨w.heap.size + 1, 2, none⟩ = some (.string x.res.name) := kk 2 (by simp)
  have k3 : (((((((((((v2.setCell ⟨w.heap.size + 1 + 1, 1, none⟩ (.int .i64 x.res.kind)).setCell ⟨w.heap.size + 1 + 1, 2, none⟩ (.string x.res.name)).setCell ⟨w.heap.size + 1 + 1, 3, none⟩ (.slice Aresz x.res.labels.length cresz)).setCell ⟨w.heap.size + 1 + 1, 4, none⟩ (.slice Bresz x.res.kids.length dresz)).setCell ⟨w.heap.size + 1 + 1, 5, none⟩ (.bool x.async)).setCell ⟨w.heap.size + 1, 0, none⟩ (.slice Rparamsz x.params.length cparamsz)).setCell ⟨w.heap.size + 1, 1, none⟩ (.int .i64 x.res.kind)).setCell ⟨w.heap.size + 1, 2, none⟩ (.string x.res.name)).setCell ⟨w.heap.size + 1, 3, none⟩ (.slice Aresz x.res.labels.length cresz)).setCell ⟨w.heap.size + 1, 4, none⟩ (.slice Bresz x.res.kids.length dresz)).setCell ⟨w.heap.size + 1, 5, none⟩ (.bool x.async)).cell? ⟨w.heap.size + 1, 3, none⟩ = some (.slice Aresz x.res.labels.length cresz) := kk 3 (by simp)
  have k4 : (((((((((((v2.setCell ⟨w.heap.size + 1 + 1, 1, none⟩ (.int .i64 x.res.kind)).setCell ⟨w.heap.size + 1 + 1, 2, none⟩ (.string x.res.name)).setCell ⟨w.heap.size + 1 + 1, 3, none⟩ (.slice Aresz x.res.labels.length cresz)).setCell ⟨w.heap.size + 1 + 1, 4, none⟩ (.slice Bresz x.res.kids.length dresz)).setCell ⟨w.heap.size + 1 + 1, 5, none⟩ (.bool x.async)).setCell ⟨w.heap.size + 1, 0, none⟩ (.slice Rparamsz x.params.length cparamsz)).setCell ⟨w.heap.size + 1, 1, none⟩ (.int .i64 x.res.kind)).setCell ⟨w.heap.size + 1, 2, none⟩ (.string x.res.name)).setCell ⟨w.heap.size + 1, 3, none⟩ (.slice Aresz x.res.labels.length cresz)).setCell ⟨w.heap.size + 1, 4, none⟩ (.slice Bresz x.res.kids.length dresz)).setCell ⟨w.heap.size + 1, 5, none⟩ (.bool x.async)).cell? ⟨w.heap.size + 1, 4, none⟩ = some (.slice Bresz x.res.kids.length dresz) := kk 4 (by simp)
  have k5 : (((((((((((v2.setCell ⟨w.heap.size + 1 + 1, 1, none⟩ (.int .i64 x.res.kind)).setCell ⟨w.heap.size + 1 + 1, 2, none⟩ (.string x.res.name)).setCell ⟨w.heap.size + 1 + 1, 3, none⟩ (.slice Aresz x.res.labels.length cresz)).setCell ⟨w.heap.size + 1 + 1, 4, none⟩ (.slice Bresz x.res.kids.length dresz)).setCell ⟨w.heap.size + 1 + 1, 5, none⟩ (.bool x.async)).setCell ⟨w.heap.size + 1, 0, none⟩ (.slice Rparamsz x.params.length cparamsz)).setCell ⟨w.heap.size + 1, 1, none⟩ (.int .i64 x.res.kind)).setCell ⟨w.heap.size + 1, 2, none⟩ (.string x.res.name)).setCell ⟨w.heap.size + 1, 3, none⟩ (.slice Aresz x.res.labels.length cresz)).setCell ⟨w.heap.size + 1, 4, none⟩ (.slice Bresz x.res.kids.length dresz)).setCell ⟨w.heap.size + 1, 5, none⟩ (.bool x.async)).cell? ⟨w.heap.size + 1, 5, none⟩ = some (.bool x.async) := kk 5 (by simp)
  clear kk
  refine bodyPost_ret (v := .agg #[.slice Rparamsz x.params.length cparamsz, .int .i64 x.res.kind, .string x.res.name, .slice Aresz x.res.labels.length cresz, .slice Bresz x.res.kids.length dresz, .bool x.async]) (by simp [results, Tryz.results17, go_sem, k0, k1, k2, k3, k4, k5]) rfl ?_
  refine ⟨_, _, _, _, _, _, rfl, ?_, ?_⟩
  · refine ⟨?_, ?_⟩
    · refine Pms.low (lo := w.heap.size + 1 + 1 + 1) ?_ (by omega)
      (repeat (with_reducible refine Pms.keep ?_ (KeptFrom.setCell (by first | (simp; done) | (simp; omega)) _)))
      refine Pms.below ?_ HS2.out
      (repeat (with_reducible refine Pms.keep ?_ (KeptFrom.setCell (by first | (simp; done) | (simp; omega)) _)))
      exact P1.out
    · refine Ty.Ao.low (lo := w.heap.size + 1 + 1 + 1) (by omega) ?_
      (repeat (with_reducible refine Ty.Ao.keep (KeptFrom.setCell (by first | (simp; done) | (simp; omega)) _) ?_))
      exact P2.out
  · (repeat (with_reducible refine Below.setCell ?_ (by first | (simp; done) | (simp; omega)) _))
    exact HB2.out

theorem eqFuncType_any (x : Fn) (hT : x.wt ≤ 1048576) (Rparams : Option Addr) (cparams : Nat) (Ares : Option Addr) (Bres : Option Addr) (cres : Nat) (dres : Nat) (Rparams' : Option Addr) (cparams' : Nat) (Ares' : Option Addr) (Bres' : Option Addr) (cres' : Nat) (dres' : Nat) (lo lo' : Nat) (w : World) (h : Fn.At w lo x Rparams Ares Bres) (h' : Fn.At w lo' x Rparams' Ares' Bres') :
    Calls Tryz.prog 19 #[.agg #[.slice Rparams x.params.length cparams, .int .i64 x.res.kind, .string x.res.name, .slice Ares x.res.labels.length cres, .slice Bres x.res.kids.length dres, .bool x.async], .agg #[.slice Rparams' x.params.length cparams', .int .i64 x.res.kind, .string x.res.name, .slice Ares' x.res.labels.length cres', .slice Bres' x.res.kids.length dres', .bool x.async]] w fun e w' => e = .returned (.bool true) ∧ Below w.heap.size w w' := by
  obtain ⟨q_params, q_res, _⟩ := Fn.parts_le hT
  obtain ⟨p_params, p_res⟩ := h
  obtain ⟨pp_params, pp_res⟩ := h'
  have HP_params := Lib.hid p_params
  have HQ_params := Lib.hid pp_params
  have HP_res := Lib.hid p_res
  have HQ_res := Lib.hid pp_res
  have C_params : Hid (∀ W : World, Pms W lo x.params Rparams → Pms W lo' x.params Rparams' → Calls Tryz.prog 38 #[.slice Rparams x.params.length cparams, .slice Rparams' x.params.length cparams'] W fun e w' => e = .returned (.bool true) ∧ Below W.heap.size W w') := Lib.hid (fun W h1 h2 => eqParamS_any x.params (by have := Pm.wts_nonneg x.params; omega) (fun i y hy => by have := Pm.wt_mem hy; omega) Rparams Rparams' cparams cparams' lo lo' W h1 h2)
  have C_res : Hid (∀ W : World, Ty.Ao W lo x.res Ares Bres → Ty.Ao W lo' x.res Ares' Bres' → Calls Tryz.prog 11 #[.agg #[.int .i64 x.res.kind, .string x.res.name, .slice Ares x.res.labels.length cres, .slice Bres x.res.kids.length dres], .agg #[.int .i64 x.res.kind, .string x.res.name, .slice Ares' x.res.labels.length cres', .slice Bres' x.res.kids.length dres']] W fun e w' => e = .returned (.bool true) ∧ Below W.heap.size W w') := Lib.hid (fun W h1 h2 => eqType_any x.res q_res Ares Bres Ares' Bres' cres dres cres' dres' lo lo' W h1.1 h2.1)
  clear hT p_params pp_params p_res pp_res q_params q_res
  go_enter Tryz.func19, Tryz.ntmps19
  go_wp2_with fail
  go_at_call 38
  refine (C_params.out _ (HP_params.out.below (below2 _ _ _)) (HQ_params.out.below (below2 _ _ _))).mono ?_
  rintro e v1 ⟨rfl, hb1⟩
  have a1_1 := keepCell (a := ⟨w.heap.size, 1, none⟩) (v := .int .i64 x.res.kind) hb1 (by go_simp)
  have b1_1 := keepCell (a := ⟨w.heap.size + 1, 1, none⟩) (v := .int .i64 x.res.kind) hb1 (by go_simp)
  have a1_2 := keepCell (a := ⟨w.heap.size, 2, none⟩) (v := .string x.res.name) hb1 (by go_simp)
  have b1_2 := keepCell (a := ⟨w.heap.size + 1, 2, none⟩) (v := .string x.res.name) hb1 (by go_simp)
  have a1_3 := keepCell (a := ⟨w.heap.size, 3, none⟩) (v := .slice Ares x.res.labels.length cres) hb1 (by go_simp)
  have b1_3 := keepCell (a := ⟨w.heap.size + 1, 3, none⟩) (v := .slice Ares' x.res.labels.length cres') hb1 (by go_simp)
  have a1_4 := keepCell (a := ⟨w.heap.size, 4, none⟩) (v := .slice Bres x.res.kids.length dres) hb1 (by go_simp)
  have b1_4 := keepCell (a := ⟨w.heap.size + 1, 4, none⟩) (v := .slice Bres' x.res.kids.length dres') hb1 (by go_simp)
  have a1_5 := keepCell (a := ⟨w.heap.size, 5, none⟩) (v := .bool x.async) hb1 (by go_simp)
  have b1_5 := keepCell (a := ⟨w.heap.size + 1, 5, none⟩) (v := .bool x.async) hb1 (by go_simp)
  have HB1 := Lib.hid (bnext (below2 _ _ _) hb1)
  clear hb1
  go_wp2_with fail
  go_at_call 11
  refine (C_res.out _ (HP_res.out.below (HB1.out)) (HQ_res.out.below (HB1.out))).mono ?_
  rintro e v2 ⟨rfl, hb2⟩
  have a2_5 := keepCell (a := ⟨w.heap.size, 5, none⟩) (v := .bool x.async) hb2 (by go_simp)
  have b2_5 := keepCell (a := ⟨w.heap.size + 1, 5, none⟩) (v := .bool x.async) hb2 (by go_simp)
  have HB2 := Lib.hid (bnext (HB1.out) hb2)
  clear hb2
  go_wp2_with fail
  go_ret
  exact ⟨rfl, HB2.out⟩
end Go.Proofs.YtifchfecfkdjlaaGreatDoor
