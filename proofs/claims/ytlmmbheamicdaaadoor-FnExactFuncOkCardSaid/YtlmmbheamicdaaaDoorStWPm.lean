/-
  Walks of measuring, copying and comparing Param by value and in slices.
-/
import Derived.Test.YtlmmbheamicdaaaDoorStPm
import Derived.Test.YtlmmbheamicdaaaDoorRowGen
import Derived.Test.YtlmmbheamicdaaaDoorStEx
namespace Go.Proofs.YtlmmbheamicdaaaDoor
open Go.ChangeShapes Go.WideShapes Go.ChangeAt Go.RowKit Go.Deep

theorem Pm.parts_le {x : Pm} (h : x.wt ≤ 1048576) : (x.name.size : Int) ≤ 1048576 ∧ x.ty.wt ≤ 1048576 ∧ True := by
  have := x.ty.wt_nonneg
  unfold Pm.wt at h
  refine ⟨by omega, by omega, trivial⟩

theorem szParam_any (x : Pm) (hf : x.Fin) (left : Int) (h0 : 0 ≤ left) (h1 : left ≤ 1048576) (Aty : Option Addr) (Bty : Option Addr) (cty : Nat) (dty : Nat) (lo : Nat) (w : World) (h : Pm.At w lo x Aty Bty) :
    Calls Tryd.prog 20 #[.agg #[.string x.name, .int .i64 x.ty.kind, .string x.ty.name, .slice Aty x.ty.labels.length cty, .slice Bty x.ty.kids.length dty], .int .i64 left] w fun e w' => e = .returned (.int .i64 (leftOr (left - x.wt))) ∧ Below w.heap.size w w' := by
  obtain ⟨f0, f1⟩ := hf
  have hw : x.wt = (x.name.size : Int) + x.ty.wt := rfl
  have n_ty := x.ty.wt_nonneg
  have p_ty := h
  have HP_ty := Lib.hid p_ty
  have C_ty : Hid (∀ (l : Int), 0 ≤ l → l ≤ 1048576 → ∀ W : World, Ty.At W lo x.ty Aty Bty → Calls Tryd.prog 10 #[.agg #[.int .i64 x.ty.kind, .string x.ty.name, .slice Aty x.ty.labels.length cty, .slice Bty x.ty.kids.length dty], .int .i64 l] W fun e w' => e = .returned (.int .i64 (leftOr (l - x.ty.wt))) ∧ Below W.heap.size W w') := Lib.hid (fun l l0 l1 W hW => szType_any x.ty f1 l l0 l1 Aty Bty cty dty lo W hW)
  unfold maxLen at f0
  obtain ⟨R, hR⟩ : ∃ R, leftOr (left - x.wt) = R := ⟨_, rfl⟩
  rw [hR]
  have HRR := Lib.hid hR
  have HW := Lib.hid hw
  clear hR hw p_ty
  generalize x.ty.wt = w_ty at *
  generalize x.wt = W0 at *
  by_cases e1 : left - (x.name.size : Int) < 0
  · go_enter Tryd.func20, Tryd.ntmps20
    go_wp2_with fail
    go_ret
    refine ⟨ret_int ?_, below1 _ _⟩
    have := HW.out
    rw [← HRR.out, leftOr_neg (by omega)]
  · obtain ⟨M1, hm1⟩ : ∃ M, left - (x.name.size : Int) = M := ⟨_, rfl⟩
    have hx1 : 0 ≤ M1 := by omega
    have hy1 : M1 ≤ 1048576 := by omega
    have Hm1 := Lib.hid hm1
    have e1' : (x.name.size : Int) ≤ left := by omega
    clear e1
    go_enter Tryd.func20, Tryd.ntmps20
    go_wp2_with fail
    (try rw [hm1])
    go_at_call 10
    refine (C_ty.out _ hx1 hy1 _ (HP_ty.out.below (below1 _ _))).mono ?_
    rintro e v2 ⟨rfl, hb2⟩
    have HB2 := Lib.hid (bnext (below1 _ _) hb2)
    clear hb2
    by_cases e2 : M1 - w_ty < 0
    · rw [leftOr_neg e2]
      go_wp2_with fail
      go_ret
      refine ⟨ret_int ?_, HB2.out⟩
      have := HW.out
      have := Hm1.out
      rw [← HRR.out, leftOr_neg (by omega)]
    · rw [leftOr_pos (by omega)]
      obtain ⟨M2, hm2⟩ : ∃ M, M1 - w_ty = M := ⟨_, rfl⟩
      rw [hm2]
      have hx2 : 0 ≤ M2 := by omega
      have hy2 : M2 ≤ 1048576 := by omega
      have Hm2 := Lib.hid hm2
      clear e2 hm2
      go_wp2_with fail
      go_ret
      refine ⟨ret_int ?_, HB2.out⟩
      have := HW.out
      have := Hm1.out
      have := Hm2.out
      rw [← HRR.out, leftOr_pos (by omega)]
      omega

/-- What copying leaves: the same in new memory. -/
def ToParamPost (x : Pm) (w : World) (e : Ending) (w' : World) : Prop := ∃ (Aty : Option Addr), ∃ (Bty : Option Addr), ∃ (cty : Nat), ∃ (dty : Nat), e = .returned (.agg #[.string x.name, .int .i64 x.ty.kind, .string x.ty.name, .slice Aty x.ty.labels.length cty, .slice Bty x.ty.kids.length dty]) ∧ Pm.At w' w.heap.size x Aty Bty ∧ Below w.heap.size w w'
set_option maxRecDepth 100000 in
theorem toParam_any (x : Pm) (hT : x.wt ≤ 1048576) (Aty : Option Addr) (Bty : Option Addr) (cty : Nat) (dty : Nat) (lo : Nat) (w : World) (h : Pm.At w lo x Aty Bty) :
    Calls Tryd.prog 26 #[.agg #[.string x.name, .int .i64 x.ty.kind, .string x.ty.name, .slice Aty x.ty.labels.length cty, .slice Bty x.ty.kids.length dty]] w (ToParamPost x w) := by
  obtain ⟨q_name, q_ty, _⟩ := Pm.parts_le hT
  have p_ty := h
  have HP_ty := Lib.hid p_ty
  have C_ty : Hid (∀ W : World, Ty.At W lo x.ty Aty Bty → Calls Tryd.prog 13 #[.agg #[.int .i64 x.ty.kind, .string x.ty.name, .slice Aty x.ty.labels.length cty, .slice Bty x.ty.kids.length dty]] W fun e w' => ∃ (Aty' : Option Addr), ∃ (Bty' : Option Addr), ∃ (cty' : Nat), ∃ (dty' : Nat), e = .returned (.agg #[.int .i64 x.ty.kind, .string x.ty.name, .slice Aty' x.ty.labels.length cty', .slice Bty' x.ty.kids.length dty']) ∧ Ty.At w' W.heap.size x.ty Aty' Bty' ∧ Below W.heap.size W w') := Lib.hid (fun W hW => toType_ex x.ty q_ty Aty Bty cty dty lo W hW)
  clear hT p_ty q_name q_ty
  go_enter Tryd.func26, Tryd.ntmps26
  go_wp2_with fail
  go_at_call 13
  refine (C_ty.out _ (HP_ty.out.below (by (repeat (with_reducible refine Below.setCell ?_ (by first | (simp; done) | (simp; omega)) _)); exact below3 _ _ _ _))).mono ?_
  rintro e v1 ⟨Atyz, Btyz, ctyz, dtyz, rfl, hp1, hb1⟩
  obtain ⟨hc1, hf1⟩ := bcell hb1
  have d1_0 := keepCell (a := ⟨w.heap.size + 1 + 1, 0, none⟩) (v := .string x.name) hb1 (by go_simp)
  have r1_0 := keepCell (a := ⟨w.heap.size + 1, 0, none⟩) (v := .string ⟨#[]⟩) hb1 (by go_simp)
  have d1_1 := keepCell (a := ⟨w.heap.size + 1 + 1, 1, none⟩) (v := .int .i64 0) hb1 (by go_simp)
  have r1_1 := keepCell (a := ⟨w.heap.size + 1, 1, none⟩) (v := .int .i64 0) hb1 (by go_simp)
  have d1_2 := keepCell (a := ⟨w.heap.size + 1 + 1, 2, none⟩) (v := .string ⟨#[]⟩) hb1 (by go_simp)
  have r1_2 := keepCell (a := ⟨w.heap.size + 1, 2, none⟩) (v := .string ⟨#[]⟩) hb1 (by go_simp)
  have d1_3 := keepCell (a := ⟨w.heap.size + 1 + 1, 3, none⟩) (v := .slice none 0 0) hb1 (by go_simp)
  have r1_3 := keepCell (a := ⟨w.heap.size + 1, 3, none⟩) (v := .slice none 0 0) hb1 (by go_simp)
  have d1_4 := keepCell (a := ⟨w.heap.size + 1 + 1, 4, none⟩) (v := .slice none 0 0) hb1 (by go_simp)
  have r1_4 := keepCell (a := ⟨w.heap.size + 1, 4, none⟩) (v := .slice none 0 0) hb1 (by go_simp)
  have HB1 : Hid (Below w.heap.size w v1) := Lib.hid (bnext (by (repeat (with_reducible refine Below.setCell ?_ (by first | (simp; done) | (simp; omega)) _)); exact below3 _ _ _ _) hb1)
  have HS1 := Lib.hid hb1
  have hz1 : w.heap.size + 1 + 1 < v1.heap.size := (by have h9 := hb1.size; simp at h9; omega)
  have g1 : ∀ o, v1.frozen? ⟨w.heap.size + 1, o, none⟩ = false := (fun o => (hf1 _ _ (by first | (simp; done) | (simp; omega))).trans (by go_simp))
  have h1 : ∀ o, v1.frozen? ⟨w.heap.size + 1 + 1, o, none⟩ = false := (fun o => (hf1 _ _ (by first | (simp; done) | (simp; omega))).trans (by go_simp))
  have P1 := Lib.hid (Ty.At.low (lo' := w.heap.size + 1 + 1 + 1) (by first | (simp; done) | (simp; omega)) hp1)
  clear hp1 hb1 hc1 hf1
  go_wp2_with fail
  have kk := sets_in ((((v1.setCell ⟨w.heap.size + 1 + 1, 1, none⟩ (.int .i64 x.ty.kind)).setCell ⟨w.heap.size + 1 + 1, 2, none⟩ (.string x.ty.name)).setCell ⟨w.heap.size + 1 + 1, 3, none⟩ (.slice Atyz x.ty.labels.length ctyz)).setCell ⟨w.heap.size + 1 + 1, 4, none⟩ (.slice Btyz x.ty.kids.length dtyz)) (w.heap.size + 1) [.string x.name, .int .i64 x.ty.kind, .string x.ty.name, .slice Atyz x.ty.labels.length ctyz, .slice Btyz x.ty.kids.length dtyz] (fun j hj => by
    have h4 : j = 0 ∨ j = 1 ∨ j = 2 ∨ j = 3 ∨ j = 4 := by simp at hj; omega
    rcases h4 with rfl | rfl | rfl | rfl | rfl <;> simp [World.cell?_setCell_other, r1_0, r1_1, r1_2, r1_3, r1_4])
  have k0 : (((((((((v1.setCell ⟨w.heap.size + 1 + 1, 1, none⟩ (.int .i64 x.ty.kind)).setCell ⟨w.heap.size + 1 + 1, 2, none⟩ (.string x.ty.name)).setCell ⟨w.heap.size + 1 + 1, 3, none⟩ (.slice Atyz x.ty.labels.length ctyz)).setCell ⟨w.heap.size + 1 + 1, 4, none⟩ (.slice Btyz x.ty.kids.length dtyz)).setCell ⟨w.heap.size + 1, 0, none⟩ (.string x.name)).setCell ⟨w.heap.size + 1, 1, none⟩ (.int .i64 x.ty.kind)).setCell ⟨w.heap.size + 1, 2, none⟩ (.string x.ty.name)).setCell ⟨w.heap.size + 1, 3, none⟩ (.slice Atyz x.ty.labels.length ctyz)).setCell ⟨w.heap.size + 1, 4, none⟩ (.slice Btyz x.ty.kids.length dtyz)).cell? ⟨w.heap.size + 1, 0, none⟩ = some (.string x.name) := kk 0 (by simp)
  have k1 : (((((((((v1.setCell ⟨w.heap.size + 1 + 1, 1, none⟩ (.int .i64 x.ty.kind)).setCell ⟨w.heap.size + 1 + 1, 2, none⟩ (.string x.ty.name)).setCell ⟨w.heap.size + 1 + 1, 3, none⟩ (.slice Atyz x.ty.labels.length ctyz)).setCell ⟨w.heap.size + 1 + 1, 4, none⟩ (.slice Btyz x.ty.kids.length dtyz)).setCell ⟨w.heap.size + 1, 0, none⟩ (.string x.name)).setCell ⟨w.heap.size + 1, 1, none⟩ (.int .i64 x.ty.kind)).setCell ⟨w.heap.size + 1, 2, none⟩ (.string x.ty.name)).setCell ⟨w.heap.size + 1, 3, none⟩ (.slice Atyz x.ty.labels.length ctyz)).setCell ⟨w.heap.size + 1, 4, none⟩ (.slice Btyz x.ty.kids.length dtyz)).cell? ⟨w.heap.size + 1, 1, none⟩ = some (.int .i64 x.ty.kind) := kk 1 (by simp)
  have k2 : (((((((((v1.setCell ⟨w.heap.size + 1 + 1, 1, none⟩ (.int .i64 x.ty.kind)).setCell ⟨w.heap.size + 1 + 1, 2, none⟩ (.string x.ty.name)).setCell ⟨w.heap.size + 1 + 1, 3, none⟩ (.slice Atyz x.ty.labels.length ctyz)).setCell ⟨w.heap.size + 1 + 1, 4, none⟩ (.slice Btyz x.ty.kids.length dtyz)).setCell ⟨w.heap.size + 1, 0, none⟩ (.string x.name)).setCell ⟨w.heap.size + 1, 1, none⟩ (.int .i64 x.ty.kind)).setCell ⟨w.heap.size + 1, 2, none⟩ (.string x.ty.name)).setCell ⟨w.heap.size + 1, 3, none⟩ (.slice Atyz x.ty.labels.length ctyz)).setCell ⟨w.heap.size + 1, 4, none⟩ (.slice Btyz x.ty.kids.length dtyz)).cell? ⟨w.heap.size + 1, 2, none⟩ = some (.string x.ty.name) := kk 2 (by simp)
  have k3 : (((((((((v1.setCell ⟨w.heap.size + 1 + 1, 1, none⟩ (.int .i64 x.ty.kind)).setCell ⟨w.heap.size + 1 + 1, 2, none⟩ (.string x.ty.name)).setCell ⟨w.heap.size + 1 + 1, 3, none⟩ (.slice Atyz x.ty.labels.length ctyz)).setCell ⟨w.heap.size + 1 + 1, 4, none⟩ (.slice Btyz x.ty.kids.length dtyz)).setCell ⟨w.heap.size + 1, 0, none⟩ (.string x.name)).setCell ⟨w.heap.size + 1, 1, none⟩ (.int .i64 x.ty.kind)).setCell ⟨w.heap.size + 1, 2, none⟩ (.string x.ty.name)).setCell ⟨w.heap.size + 1, 3, none⟩ (.slice Atyz x.ty.labels.length ctyz)).setCell ⟨w.heap.size + 1, 4, none⟩ (.slice Btyz x.ty.kids.length dtyz)).cell? ⟨w.heap.size + 1, 3, none⟩ = some (.slice Atyz x.ty.labels.length ctyz) := kk 3 (by simp)
  have k4 : (((((((((v1.setCell ⟨w.heap.size + 1 + 1, 1, none⟩ (.int .i64 x.ty.kind)).setCell ⟨w.heap.size + 1 + 1, 2, none⟩ (.string x.ty.name)).setCell ⟨w.heap.size + 1 + 1, 3, none⟩ (.slice Atyz x.ty.labels.length ctyz)).setCell ⟨w.heap.size + 1 + 1, 4, none⟩ (.slice Btyz x.ty.kids.length dtyz)).setCell ⟨w.heap.size + 1, 0, none⟩ (.string x.name)).setCell ⟨w.heap.size + 1, 1, none⟩ (.int .i64 x.ty.kind)).setCell ⟨w.heap.size + 1, 2, none⟩ (.string x.ty.name)).setCell ⟨w.heap.size + 1, 3, none⟩ (.slice Atyz x.ty.labels.length ctyz)).setCell ⟨w.heap.size + 1, 4, none⟩ (.slice Btyz x.ty.kids.length dtyz)).cell? ⟨w.heap.size + 1, 4, none⟩ = some (.slice Btyz x.ty.kids.length dtyz) := kk 4 (by simp)
  clear kk
  refine bodyPost_ret (v := .agg #[.string x.name, .int .i64 x.ty.kind, .string x.ty.name, .slice Atyz x.ty.labels.length ctyz, .slice Btyz x.ty.kids.length dtyz]) (by simp [results, Tryd.results26, go_sem, k0, k1, k2, k3, k4]) rfl ?_
  refine ⟨_, _, _, _, rfl, ?_, ?_⟩
  · refine Ty.At.low (lo := w.heap.size + 1 + 1 + 1) (by omega) ?_
    (repeat (with_reducible refine Ty.At.keep (KeptFrom.setCell (by first | (simp; done) | (simp; omega)) _) ?_))
    exact P1.out
  · (repeat (with_reducible refine Below.setCell ?_ (by first | (simp; done) | (simp; omega)) _))
    exact HB1.out

theorem eqParam_any (x : Pm) (hT : x.wt ≤ 1048576) (Aty : Option Addr) (Bty : Option Addr) (cty : Nat) (dty : Nat) (Aty' : Option Addr) (Bty' : Option Addr) (cty' : Nat) (dty' : Nat) (lo lo' : Nat) (w : World) (h : Pm.At w lo x Aty Bty) (h' : Pm.At w lo' x Aty' Bty') :
    Calls Tryd.prog 34 #[.agg #[.string x.name, .int .i64 x.ty.kind, .string x.ty.name, .slice Aty x.ty.labels.length cty, .slice Bty x.ty.kids.length dty], .agg #[.string x.name, .int .i64 x.ty.kind, .string x.ty.name, .slice Aty' x.ty.labels.length cty', .slice Bty' x.ty.kids.length dty']] w fun e w' => e = .returned (.bool true) ∧ Below w.heap.size w w' := by
  obtain ⟨q_name, q_ty, _⟩ := Pm.parts_le hT
  have p_ty := h
  have pp_ty := h'
  have HP_ty := Lib.hid p_ty
  have HQ_ty := Lib.hid pp_ty
  have C_ty : Hid (∀ W : World, Ty.At W lo x.ty Aty Bty → Ty.At W lo' x.ty Aty' Bty' → Calls Tryd.prog 19 #[.agg #[.int .i64 x.ty.kind, .string x.ty.name, .slice Aty x.ty.labels.length cty, .slice Bty x.ty.kids.length dty], .agg #[.int .i64 x.ty.kind, .string x.ty.name, .slice Aty' x.ty.labels.length cty', .slice Bty' x.ty.kids.length dty']] W fun e w' => e = .returned (.bool true) ∧ Below W.heap.size W w') := Lib.hid (fun W h1 h2 => eqType_any x.ty q_ty Aty Bty Aty' Bty' cty dty cty' dty' lo lo' W h1 h2)
  clear hT p_ty pp_ty q_name q_ty
  go_enter Tryd.func34, Tryd.ntmps34
  go_wp2_with fail
  go_at_call 19
  refine (C_ty.out _ (HP_ty.out.below (below2 _ _ _)) (HQ_ty.out.below (below2 _ _ _))).mono ?_
  rintro e v1 ⟨rfl, hb1⟩
  have HB1 := Lib.hid (bnext (below2 _ _ _) hb1)
  clear hb1
  go_wp2_with fail
  go_ret
  exact ⟨rfl, HB1.out⟩
end Go.Proofs.YtlmmbheamicdaaaDoor
