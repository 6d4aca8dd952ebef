/-
  Walks of measuring, copying and comparing Func by value and in slices.
-/
import Derived.Test.YtfadodmkppeodaaStFc
import Derived.Test.YtfadodmkppeodaaRowGen
import Derived.Test.YtfadodmkppeodaaStEx
import Derived.Test.YtfadodmkppeodaaStWFn
namespace Go.Proofs.Ytfadodmkppeodaa
open Go.ChangeShapes Go.WideShapes Go.ChangeAt Go.RowKit Go.Deep

theorem Fc.parts_le {x : Fc} (h : x.wt ≤ 1048576) : (x.name.size : Int) ≤ 1048576 ∧ Fn.wt x.type ≤ 1048576 ∧ True := by
  have := Fn.wt_nonneg x.type
  unfold Fc.wt at h
  refine ⟨by omega, by omega, trivial⟩

theorem szFunc_any (x : Fc) (hf : x.Fin) (left : Int) (h0 : 0 ≤ left) (h1 : left ≤ 1048576) (Rtypeparams : Option Addr) (ctypeparams : Nat) (Atyperes : Option Addr) (Btyperes : Option Addr) (ctyperes : Nat) (dtyperes : Nat) (lo : Nat) (w : World) (h : Fc.At w lo x Rtypeparams Atyperes Btyperes) :
    Calls Try.prog 93 #[.agg #[.string x.name, .slice Rtypeparams x.type.params.length ctypeparams, .int .i64 x.type.res.kind, .string x.type.res.name, .slice Atyperes x.type.res.labels.length ctyperes, .slice Btyperes x.type.res.kids.length dtyperes, .bool x.type.async], .int .i64 left] w fun e w' => e = .returned (.int .i64 (leftOr (left - x.wt))) ∧ Below w.heap.size w w' := by
  obtain ⟨f0, f1⟩ := hf
  have hw : x.wt = (x.name.size : Int) + Fn.wt x.type := rfl
  have n_type := Fn.wt_nonneg x.type
  have p_type := h
  have HP_type := Lib.hid p_type
  have C_type : Hid (∀ (l : Int), 0 ≤ l → l ≤ 1048576 → ∀ W : World, Fn.At W lo x.type Rtypeparams Atyperes Btyperes → Calls Try.prog 28 #[.agg #[.slice Rtypeparams x.type.params.length ctypeparams, .int .i64 x.type.res.kind, .string x.type.res.name, .slice Atyperes x.type.res.labels.length ctyperes, .slice Btyperes x.type.res.kids.length dtyperes, .bool x.type.async], .int .i64 l] W fun e w' => e = .returned (.int .i64 (leftOr (l - Fn.wt x.type))) ∧ Below W.heap.size W w') := Lib.hid (fun l l0 l1 W hW => szFuncType_any x.type f1 l l0 l1 Rtypeparams ctypeparams Atyperes Btyperes ctyperes dtyperes lo W hW)
  unfold maxLen at f0
  obtain ⟨R, hR⟩ : ∃ R, leftOr (left - x.wt) = R := ⟨_, rfl⟩
  rw [hR]
  have HRR := Lib.hid hR
  have HW := Lib.hid hw
  clear hR hw p_type
  generalize Fn.wt x.type = w_type at *
  generalize x.wt = W0 at *
  by_cases e1 : left - (x.name.size : Int) < 0
  · go_enter Try.func93, Try.ntmps93
    go_wp2_with fail
    go_ret
    refine ⟨ret_int ?_, below1 _ _⟩
    have := HW.out
    rw [← HRR.out, leftOr_neg (by omega)]
  · obtain ⟨M1, hm1⟩ : ∃ M, left - (x.name.size : Int) = M := ⟨_, rfl⟩
    have hx1 : 0 ≤ M1 := by omega
    have hy1 : M1 ≤ 1048576 := by omega
    have Hm1 := Lib.hid hm1
    have e1' : (x.name.size : Int) ≤ left := by omega
    clear e1
    go_enter Try.func93, Try.ntmps93
    go_wp2_with fail
    (try rw [hm1])
    go_at_call 28
    refine (C_type.out _ hx1 hy1 _ (HP_type.out.below (below1 _ _))).mono ?_
    rintro e v2 ⟨rfl, hb2⟩
    have HB2 := Lib.hid (bnext (below1 _ _) hb2)
    clear hb2
    by_cases e2 : M1 - w_type < 0
    · rw [leftOr_neg e2]
      go_wp2_with fail
      go_ret
      refine ⟨ret_int ?_, HB2.out⟩
      have := HW.out
      have := Hm1.out
      rw [← HRR.out, leftOr_neg (by omega)]
    · rw [leftOr_pos (by omega)]
      obtain ⟨M2, hm2⟩ : ∃ M, M1 - w_type = M := ⟨_, rfl⟩
      rw [hm2]
      have hx2 : 0 ≤ M2 := by omega
      have hy2 : M2 ≤ 1048576 := by omega
      have Hm2 := Lib.hid hm2
      clear e2 hm2
      go_wp2_with fail
      go_ret
      refine ⟨ret_int ?_, HB2.out⟩
      have := HW.out
      have := Hm1.out
      have := Hm2.out
      rw [← HRR.out, leftOr_pos (by omega)]
      omega

/-- What copying leaves: the same in new memory. -/
def ToFuncPost (x : Fc) (w : World) (e : Ending) (w' : World) : Prop := ∃ (Rtypeparams : Option Addr), ∃ (ctypeparams : Nat), ∃ (Atyperes : Option Addr), ∃ (Btyperes : Option Addr), ∃ (ctyperes : Nat), ∃ (dtyperes : Nat), e = .returned (.agg #[.string x.name, .slice Rtypeparams x.type.params.length ctypeparams, .int .i64 x.type.res.kind, .string x.type.res.name, .slice Atyperes x.type.res.labels.length ctyperes, .slice Btyperes x.type.res.kids.length dtyperes, .bool x.type.async]) ∧ Fc.At w' w.heap.size x Rtypeparams Atyperes Btyperes ∧ Below w.heap.size w w'
set_option maxRecDepth 100000 in
theorem toFunc_any (x : Fc) (hT : x.wt ≤ 1048576) (Rtypeparams : Option Addr) (ctypeparams : Nat) (Atyperes : Option Addr) (Btyperes : Option Addr) (ctyperes : Nat) (dtyperes : Nat) (lo : Nat) (w : World) (h : Fc.At w lo x Rtypeparams Atyperes Btyperes) :
    Calls Try.prog 94 #[.agg #[.string x.name, .slice Rtypeparams x.type.params.length ctypeparams, .int .i64 x.type.res.kind, .string x.type.res.name, .slice Atyperes x.type.res.labels.length ctyperes, .slice Btyperes x.type.res.kids.length dtyperes, .bool x.type.async]] w (ToFuncPost x w) := by
  obtain ⟨q_name, q_type, _⟩ := Fc.parts_le hT
  have p_type := h
  have HP_type := Lib.hid p_type
  have C_type : Hid (∀ W : World, Fn.At W lo x.type Rtypeparams Atyperes Btyperes → Calls Try.prog 30 #[.agg #[.slice Rtypeparams x.type.params.length ctypeparams, .int .i64 x.type.res.kind, .string x.type.res.name, .slice Atyperes x.type.res.labels.length ctyperes, .slice Btyperes x.type.res.kids.length dtyperes, .bool x.type.async]] W fun e w' => ∃ (Rtypeparams' : Option Addr), ∃ (ctypeparams' : Nat), ∃ (Atyperes' : Option Addr), ∃ (Btyperes' : Option Addr), ∃ (ctyperes' : Nat), ∃ (dtyperes' : Nat), e = .returned (.agg #[.slice Rtypeparams' x.type.params.length ctypeparams', .int .i64 x.type.res.kind, .string x.type.res.name, .slice Atyperes' x.type.res.labels.length ctyperes', .slice Btyperes' x.type.res.kids.length dtyperes', .bool x.type.async]) ∧ Fn.At w' W.heap.size x.type Rtypeparams' Atyperes' Btyperes' ∧ Below W.heap.size W w') := Lib.hid (fun W hW => toFuncType_any x.type q_type Rtypeparams ctypeparams Atyperes Btyperes ctyperes dtyperes lo W hW)
  clear hT p_type q_name q_type
  go_enter Try.func94, Try.ntmps94
  go_wp2_with fail
  go_at_call 30
  refine (C_type.out _ (HP_type.out.below (by (repeat (with_reducible refine Below.setCell ?_ (by first | (simp; done) | (simp; omega)) _)); exact below3 _ _ _ _))).mono ?_
  rintro e v1 ⟨Rtypeparamsz, ctypeparamsz, Atyperesz, Btyperesz, ctyperesz, dtyperesz, rfl, hp1, hb1⟩
  obtain ⟨hc1, hf1⟩ := bcell hb1
  have d1_0 := keepCell (a := ⟨w.heap.size + 1 + 1, 0, none⟩) (v := .string x.name) hb1 (by go_simp)
  have r1_0 := keepCell (a := ⟨w.heap.size + 1, 0, none⟩) (v := .string ⟨#[]⟩) hb1 (by go_simp)
  have d1_1 := keepCell (a := ⟨w.heap.size + 1 + 1, 1, none⟩) (v := .slice none 0 0) hb1 (by go_simp)
  have r1_1 := keepCell (a := ⟨w.heap.size + 1, 1, none⟩) (v := .slice none 0 0) hb1 (by go_simp)
  have d1_2 := keepCell (a := ⟨w.heap.size + 1 + 1, 2, none⟩) (v := .int .i64 0) hb1 (by go_simp)
  have r1_2 := keepCell (a := ⟨w.heap.size + 1, 2, none⟩) (v := .int .i64 0) hb1 (by go_simp)
  have d1_3 := keepCell (a := ⟨w.heap.size + 1 + 1, 3, none⟩) (v := .string ⟨#[]⟩) hb1 (by go_simp)
  have r1_3 := keepCell (a := ⟨w.heap.size + 1, 3, none⟩) (v := .string ⟨#[]⟩) hb1 (by go_simp)
  have d1_4 := keepCell (a := ⟨w.heap.size + 1 + 1, 4, none⟩) (v := .slice none 0 0) hb1 (by go_simp)
  have r1_4 := keepCell (a := ⟨w.heap.size + 1, 4, none⟩) (v := .slice none 0 0) hb1 (by go_simp)
  have d1_5 := keepCell (a := ⟨w.heap.size + 1 + 1, 5, none⟩) (v := .slice none 0 0) hb1 (by go_simp)
  have r1_5 := keepCell (a := ⟨w.heap.size + 1, 5, none⟩) (v := .slice none 0 0) hb1 (by go_simp)
  have d1_6 := keepCell (a := ⟨w.heap.size + 1 + 1, 6, none⟩) (v := .bool false) hb1 (by go_simp)
  have r1_6 := keepCell (a := ⟨w.heap.size + 1, 6, none⟩) (v := .bool false) hb1 (by go_simp)
  have HB1 : Hid (Below w.heap.size w v1) := Lib.hid (bnext (by (repeat (with_reducible refine Below.setCell ?_ (by first | (simp; done) | (simp; omega)) _)); exact below3 _ _ _ _) hb1)
  have HS1 := Lib.hid hb1
  have hz1 : w.heap.size + 1 + 1 < v1.heap.size := (by have h9 := hb1.size; simp at h9; omega)
  have g1 : ∀ o, v1.frozen? ⟨w.heap.size + 1, o, none⟩ = false := (fun o => (hf1 _ _ (by first | (simp; done) | (simp; omega))).trans (by go_simp))
  have h1 : ∀ o, v1.frozen? ⟨w.heap.size + 1 + 1, o, none⟩ = false := (fun o => (hf1 _ _ (by first | (simp; done) | (simp; omega))).trans (by go_simp))
  have P1 := Lib.hid (hp1.low (lo' := w.heap.size + 1 + 1 + 1) (by first | (simp; done) | (simp; omega)))
  clear hp1 hb1 hc1 hf1
  go_wp2_with fail
  have kk := sets_in ((((((v1.setCell ⟨w.heap.size + 1 + 1, 1, none⟩ (.slice Rtypeparamsz x.type.params.length ctypeparamsz)).setCell ⟨w.heap.size + 1 + 1, 2, none⟩ (.int .i64 x.type.res.kind)).setCell ⟨w.heap.size + 1 + 1, 3, none⟩ (.string x.type.res.name)).setCell ⟨w.heap.size + 1 + 1, 4, none⟩ (.slice Atyperesz x.type.res.labels.length ctyperesz)).setCell ⟨w.heap.size + 1 + 1, 5, none⟩ (.slice Btyperesz x.type.res.kids.length dtyperesz)).setCell ⟨w.heap.size + 1 + 1, 6, none⟩ (.bool x.type.async)) (w.heap.size + 1) [.string x.name, .slice Rtypeparamsz x.type.params.length ctypeparamsz, .int .i64 x.type.res.kind, .string x.type.res.name, .slice Atyperesz x.type.res.labels.length ctyperesz, .slice Btyperesz x.type.res.kids.length dtyperesz, .bool x.type.async] (fun j hj => by
    have h4 : j = 0 ∨ j = 1 ∨ j = 2 ∨ j = 3 ∨ j = 4 ∨ j = 5 ∨ j = 6 := by simp at hj; omega
    rcases h4 with rfl | rfl | rfl | rfl | rfl | rfl | rfl <;> simp [World.cell?_setCell_other, r1_0, r1_1, r1_2, r1_3, r1_4, r1_5, r1_6])
  have k0 : (((((((((((((v1.setCell ⟨w.heap.size + 1 + 1, 1, none⟩ (.slice Rtypeparamsz x.type.params.length ctypeparamsz)).setCell ⟨w.heap.size + 1 + 1, 2, none⟩ (.int .i64 x.type.res.kind)).setCell ⟨w.heap.size + 1 + 1, 3, none⟩ (.string x.type.res.name)).setCell ⟨w.heap.size + 1 + 1, 4, none⟩ (.slice Atyperesz x.type.res.labels.length ctyperesz)).setCell ⟨w.heap.size + 1 + 1, 5, none⟩ (.slice Btyperesz x.type.res.kids.length dtyperesz)).setCell ⟨w.heap.size + 1 + 1, 6, none⟩ (.bool x.type.async)).setCell ⟨w.heap.size + 1, 0, none⟩ (.string x.name)).setCell ⟨w.heap.size + 1, 1, none⟩ (.slice Rtypeparamsz x.type.params.length ctypeparamsz)).setCell ⟨w.heap.size + 1, 2, none⟩ (.int .i64 x.type.res.kind)).setCell ⟨w.heap.size + 1, 3, none⟩ (.string x.type.res.name)).setCell ⟨w.heap.size + 1, 4, none⟩ (.slice Atyperesz x.type.res.labels.length ctyperesz)).setCell ⟨w.heap.size + 1, 5, none⟩ (.slice Btyperesz x.type.res.kids.length dtyperesz)).setCell ⟨w.heap.size + 1, 6, none⟩ (.bool x.type.async)).cell? ⟨w.heap.size + 1, 0, none⟩ = some (.string x.name) := kk 0 (by simp)
  have k1 : (((((((((((((v1.setCell ⟨w.heap.size + 1 + 1, 1, none⟩ (.slice Rtypeparamsz x.type.params.length ctypeparamsz)).setCell ⟨w.heap.size + 1 + 1, 2, none⟩ (.int .i64 x.type.res.kind)).setCell ⟨w.heap.size + 1 + 1, 3, none⟩ (.string x.type.res.name)).setCell ⟨w.heap.size + 1 + 1, 4, none⟩ (.slice Atyperesz x.type.res.labels.length ctyperesz)).setCell ⟨w.heap.size + 1 + 1, 5, none⟩ (.slice Btyperesz x.type.res.kids.length dtyperesz)).setCell ⟨w.heap.size + 1 + 1, 6, none⟩ (.bool x.type.async)).setCell ⟨w.heap.size + 1, 0, none⟩ (.string x.name)).setCell ⟨w.heap.size + 1, 1, none⟩ (.slice Rtypeparamsz x.type.params.length ctypeparamsz)).setCell ⟨w.heap.size + 1, 2, none⟩ (.int .i64 x.type.res.kind)).setCell ⟨w.heap.size + 1, 3, none⟩ (.string x.type.res.name)).setCell ⟨w.heap.size + 1, 4, none⟩ (.slice Atyperesz x.type.res.labels.length ctyperesz)).setCell ⟨w.heap.size + 1, 5, none⟩ (.slice Btyperesz x.type.res.kids.length dtyperesz)).setCell ⟨w.heap.size + 1, 6, none⟩ (.bool x.type.async)).cell? ⟨w.heap.size + 1, 1, none⟩ = some (.slice Rtypeparamsz x.type.params.length ctypeparamsz) := kk 1 (by simp)
  have k2 : (((((((((((((v1.setCell ⟨w.heap.size + 1 + 1, 1, none⟩ (.slice Rtypeparamsz x.type.params.length ctypeparamsz)).setCell ⟨w.heap.size + 1 + 1, 2, none⟩ (.int .i64 x.type.res.kind)).setCell ⟨w.heap.size + 1 + 1, 3, none⟩ (.string x.type.res.name)).setCell ⟨w.heap.size + 1 + 1, 4, none⟩ (.slice Atyperesz x.type.res.labels.length ctyperesz)).setCell ⟨w.heap.size + 1 + 1, 5, none⟩ (.slice Btyperesz x.type.res.kids.length dtyperesz)).setCell ⟨w.heap.size + 1 + 1, 6, none⟩ (.bool x.type.async)).setCell ⟨w.heap.size + 1, 0, none⟩ (.string x.name)).setCell ⟨w.heap.size + 1, 1, none⟩ (.slice Rtypeparamsz x.type.params.length ctypeparamsz)).setCell ⟨w.heap.size + 1, 2, none⟩ (.int .i64 x.type.res.kind)).setCell ⟨w.heap.size + 1, 3, none⟩ (.string x.type.res.name)).setCell ⟨w.heap.size + 1, 4, none⟩ (.slice Atyperesz x.type.res.labels.length ctyperesz)).setCell ⟨w.heap.size + 1, 5, none⟩ (.slice Btyperesz x.type.res.kids.length dtyperesz)).setCell ⟨w.heap.size + 1, 6, none⟩ (.bool x.type.async)).cell? ⟨w.heap.size + 1, 2, none⟩ = some (.int .i64 x.type.res.kind) := kk 2 (by simp)
  have k3 : (((((((((((((v1.setCell ⟨w.heap.size + 1 + 1, 1, none⟩ (.slice Rtypeparamsz x.type.params.length ctypeparamsz)).setCell ⟨w.heap.size + 1 + 1, 2, none⟩ (.int .i64 x.type.res.kind)).setCell ⟨w.heap.size + 1 + 1, 3, none⟩ (.string x.type.res.name)).setCell ⟨w.heap.size + 1 + 1, 4, none⟩ (.slice Atyperesz x.type.res.labels.length ctyperesz)).setCell ⟨w.heap.size + 1 + 1, 5, none⟩ (.slice Btyperesz x.type.res.kids.length dtyperesz)).setCell ⟨w.heap.size + 1 + 1, 6, none⟩ (.bool x.type.async)).setCell ⟨w.heap.size + 1, 0, none⟩ (.string x.name)).setCell ⟨w.heap.size + 1, 1, none⟩ (.slice Rtypeparamsz x.type.params.length ctypeparamsz)).setCell ⟨w.heap.size + 1, 2, none⟩ (.int .i64 x.type.res.kind)).setCell ⟨w.heap.size + 1, 3, none⟩ (.string x.type.res.name)).setCell ⟨w.heap.size + 1, 4, none⟩ (.slice Atyperesz x.type.res.labels.length ctyperesz)).setCell ⟨w.heap.size + 1, 5, none⟩ (.slice Btyperesz x.type.res.kids.length dtyperesz)).setCell ⟨w.heap.size + 1, 6, none⟩ (.bool x.type.async)).cell? ⟨w.heap.size + 1, 3, none⟩ = some (.string x.type.res.name) := kk 3 (by simp)
  have k4 : (((((((((((((v1.setCell ⟨w.heap.size + 1 + 1, 1, none⟩ (.slice Rtypeparamsz x.type.params.length ctypeparamsz)).setCell ⟨w.heap.size + 1 + 1, 2, none⟩ (.int .i64 x.type.res.kind)).setCell ⟨w.heap.size + 1 + 1, 3, none⟩ (.string x.type.res.name)).setCell ⟨w.heap.size + 1 + 1, 4, none⟩ (.slice Atyperesz x.type.res.labels.length ctyperesz)).setCell ⟨w.heap.size + 1 + 1, 5, none⟩ (.slice Btyperesz x.type.res.kids.length dtyperesz)).setCell ⟨w.heap.size + 1 + 1, 6, none⟩ (.bool x.type.async)).setCell ⟨w.heap.size + 1, 0, none⟩ (.string x.name)).setCell ⟨w.heap.size + 1, 1, none⟩ (.slice Rtypeparamsz x.type.params.length ctypeparamsz)).setCell ⟨w.heap.size + 1, 2, none⟩ (.int .i64 x.type.res.kind)).setCell ⟨w.heap.size + 1, 3, none⟩ (.string x.type.res.name)).setCell ⟨w.heap.size + 1, 4, none⟩ (.slice Atyperesz x.type.res.labels.length ctyperesz)).setCell ⟨w.heap.size + 1, 5, none⟩ (.slice Btyperesz x.type.res.kids.length dtyperesz)).setCell ⟨w.heap.size + 1, 6, none⟩ (.bool x.type.async)).cell? ⟨w.heap.size + 1, 4, none⟩ = some (.slice Atyperesz x.type.res.labels.length ctyperesz) := kk 4 (by simp)
  have k5 : (((((((((((((v1.setCell ⟨w.heap.size + 1 + 1, 1, none⟩ (.slice Rtypeparamsz x.type.params.length ctypeparamsz)).setCell ⟨w.heap.size + 1 + 1, 2, none⟩ (.int .i64 x.type.res.kind)).setCell ⟨w.heap.size + 1 + 1, 3, none⟩ (.string x.type.res.name)).setCell ⟨w.heap.size + 1 + 1, 4, none⟩ (.slice Atyperesz x.type.res.labels.length ctyperesz)).setCell ⟨w.heap.size + 1 + 1, 5, none⟩ (.slice Btyperesz x.type.res.kids.length dtyperesz)).setCell ⟨w.heap.size + 1 + 1, 6, none⟩ (.bool x.type.async)).setCell ⟨w.heap.size + 1, 0, none⟩ (.string x.name)).setCell ⟨w.heap.size + 1, 1, none⟩ (.slice Rtypeparamsz x.type.params.length ctypeparamsz)).setCell ⟨w.heap.size + 1, 2, none⟩ (.int .i64 x.type.res.kind)).setCell ⟨w.heap.size + 1, 3, none⟩ (.string x.type.res.name)).setCell ⟨w.heap.size + 1, 4, none⟩ (.slice Atyperesz x.type.res.labels.length ctyperesz)).setCell ⟨w.heap.size + 1, 5, none⟩ (.slice Btyperesz x.type.res.kids.length dtyperesz)).setCell ⟨w.heap.size + 1, 6, none⟩ (.bool x.type.async)).cell? ⟨w.heap.size + 1, 5, none⟩ = some (.slice Btyperesz x.type.res.kids.length dtyperesz) := kk 5 (by simp)
  have k6 : (((((((((((((v1.setCell ⟨w.heap.size + 1 + 1, 1, none⟩ (.slice Rtypeparamsz x.type.params.length ctypeparamsz)).setCell ⟨w.heap.size + 1 + 1, 2, none⟩ (.int .i64 x.type.res.kind)).setCell ⟨w.heap.size + 1 + 1, 3, none⟩ (.string x.type.res.name)).setCell ⟨w.heap.size + 1 + 1, 4, none⟩ (.slice Atyperesz x.type.res.labels.length ctyperesz)).setCell ⟨w.heap.size + 1 + 1, 5, none⟩ (.slice Btyperesz x.type.res.kids.length dtyperesz)).setCell ⟨w.heap.size + 1 + 1, 6, none⟩ (.bool x.type.async)).setCell ⟨w.heap.size + 1, 0, none⟩ (.string x.name)).setCell ⟨w.heap.size + 1, 1, none⟩ (.slice Rtypeparamsz x.type.params.length ctypeparamsz)).setCell ⟨w.heap.size + 1, 2, none⟩ (.int .i64 x.type.res.kind)).setCell ⟨w.heap.size + 1, 3, none⟩ (.string x.type.res.name)).setCell ⟨w.heap.size + 1, 4, none⟩ (.slice Atyperesz x.type.res.labels.length ctyperesz)).setCell ⟨w.heap.size + 1, 5, none⟩ (.slice Btyperesz x.type.res.kids.length dtyperesz)).setCell ⟨w.heap.size + 1, 6, none⟩ (.bool x.type.async)).cell? ⟨w.heap.size + 1, 6, none⟩ = some (.bool x.type.async) := kk 6 (by simp)
  clear kk
  refine bodyPost_ret (v := .agg #[.string x.name, .slice Rtypeparamsz x.type.params.length ctypeparamsz, .int .i64 x.type.res.kind, .string x.type.res.name, .slice Atyperesz x.type.res.labels.length ctyperesz, .slice Btyperesz x.type.res.kids.length dtyperesz, .bool x.type.async]) (by simp [results, Try.results94, go_sem, k0, k1, k2, k3, k4, k5, k6]) rfl ?_
  refine ⟨_, _, _, _, _, _, rfl, ?_, ?_⟩
  · refine Fn.At.low (lo := w.heap.size + 1 + 1 + 1) ?_ (by omega)
    (repeat (with_reducible refine Fn.At.keep ?_ (KeptFrom.setCell (by first | (simp; done) | (simp; omega)) _)))
    exact P1.out
  · (repeat (with_reducible refine Below.setCell ?_ (by first | (simp; done) | (simp; omega)) _))
    exact HB1.out

theorem eqFunc_any (x : Fc) (hT : x.wt ≤ 1048576) (Rtypeparams : Option Addr) (ctypeparams : Nat) (Atyperes : Option Addr) (Btyperes : Option Addr) (ctyperes : Nat) (dtyperes : Nat) (Rtypeparams' : Option Addr) (ctypeparams' : Nat) (Atyperes' : Option Addr) (Btyperes' : Option Addr) (ctyperes' : Nat) (dtyperes' : Nat) (lo lo' : Nat) (w : World) (h : Fc.At w lo x Rtypeparams Atyperes Btyperes) (h' : Fc.At w lo' x Rtypeparams' Atyperes' Btyperes') :
    Calls Try.prog 95 #[.agg #[.string x.name, .slice Rtypeparams x.type.params.length ctypeparams, .int .i64 x.type.res.kind, .string x.type.res.name, .slice Atyperes x.type.res.labels.length ctyperes, .slice Btyperes x.type.res.kids.length dtyperes, .bool x.type.async], .agg #[.string x.name, .slice Rtypeparams' x.type.params.length ctypeparams', .int .i64 x.type.res.kind, .string x.type.res.name, .slice Atyperes' x.type.res.labels.length ctyperes', .slice Btyperes' x.type.res.kids.length dtyperes', .bool x.type.async]] w fun e w' => e = .returned (.bool true) ∧ Below w.heap.size w w' := by
  obtain ⟨q_name, q_type, _⟩ := Fc.parts_le hT
  have p_type := h
  have pp_type := h'
  have HP_type := Lib.hid p_type
  have HQ_type := Lib.hid pp_type
  have C_type : Hid (∀ W : World, Fn.At W lo x.type Rtypeparams Atyperes Btyperes → Fn.At W lo' x.type Rtypeparams' Atyperes' Btyperes' → Calls Try.prog 32 #[.agg #[.slice Rtypeparams x.type.params.length ctypeparams, .int .i64 x.type.res.kind, .string x.type.res.name, .slice Atyperes x.type.res.labels.length ctyperes, .slice Btyperes x.type.res.kids.length dtyperes, .bool x.type.async], .agg #[.slice Rtypeparams' x.type.params.length ctypeparams', .int .i64 x.type.res.kind, .string x.type.res.name, .slice Atyperes' x.type.res.labels.length ctyperes', .slice Btyperes' x.type.res.kids.length dtyperes', .bool x.type.async]] W fun e w' => e = .returned (.bool true) ∧ Below W.heap.size W w') := Lib.hid (fun W h1 h2 => eqFuncType_any x.type q_type Rtypeparams ctypeparams Atyperes Btyperes ctyperes dtyperes Rtypeparams' ctypeparams' Atyperes' Btyperes' ctyperes' dtyperes' lo lo' W h1 h2)
  clear hT p_type pp_type q_name q_type
  go_enter Try.func95, Try.ntmps95
  go_wp2_with fail
  go_at_call 32
  refine (C_type.out _ (HP_type.out.below (below2 _ _ _)) (HQ_type.out.below (below2 _ _ _))).mono ?_
  rintro e v1 ⟨rfl, hb1⟩
  have HB1 := Lib.hid (bnext (below2 _ _ _) hb1)
  clear hb1
  go_wp2_with fail
  go_ret
  exact ⟨rfl, HB1.out⟩
end Go.Proofs.Ytfadodmkppeodaa
