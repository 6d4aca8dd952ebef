/-
  Walks of measuring, copying and comparing Face by value and in slices.
-/
import Derived.Test.YtfadodmkppeodaaStFa
import Derived.Test.YtfadodmkppeodaaRowGen
import Derived.Test.YtfadodmkppeodaaStEx
import Derived.Test.YtfadodmkppeodaaStWSFc
namespace Go.Proofs.Ytfadodmkppeodaa
open Go.ChangeShapes Go.WideShapes Go.ChangeAt Go.RowKit Go.Deep

theorem Fa.parts_le {x : Fa} (h : x.wt ≤ 1048576) : (x.pack.size : Int) ≤ 1048576 ∧ (x.name.size : Int) ≤ 1048576 ∧ (x.version.size : Int) ≤ 1048576 ∧ ((x.ress.length : Int) + sumSz x.ress) ≤ 1048576 ∧ ((x.funcs.length : Int) + Fc.wts x.funcs) ≤ 1048576 ∧ True := by
  have := sumSz_nonneg x.ress
  have := Fc.wts_nonneg x.funcs
  unfold Fa.wt at h
  refine ⟨by omega, by omega, by omega, by omega, by omega, trivial⟩

theorem szFace_any (x : Fa) (hf : x.Fin) (left : Int) (h0 : 0 ≤ left) (h1 : left ≤ 1048576) (Aress : Option Addr) (cress : Nat) (Rfuncs : Option Addr) (cfuncs : Nat) (lo : Nat) (w : World) (h : Fa.At w lo x Aress Rfuncs) :
    Calls Try.prog 33 #[.agg #[.string x.pack, .string x.name, .string x.version, .slice Aress x.ress.length cress, .slice Rfuncs x.funcs.length cfuncs], .int .i64 left] w fun e w' => e = .returned (.int .i64 (leftOr (left - x.wt))) ∧ Below w.heap.size w w' := by
  obtain ⟨f0, f1, f2, f3, f4⟩ := hf
  have hw : x.wt = (x.pack.size : Int) + (x.name.size : Int) + (x.version.size : Int) + ((x.ress.length : Int) + sumSz x.ress) + ((x.funcs.length : Int) + Fc.wts x.funcs) := rfl
  have n_ress := sumSz_nonneg x.ress
  have n_funcs := Fc.wts_nonneg x.funcs
  obtain ⟨p_ress, p_funcs⟩ := h
  have HP_ress := Lib.hid p_ress
  have HP_funcs := Lib.hid p_funcs
  have C_ress : Hid (∀ (l : Int), 0 ≤ l → l ≤ 1048576 → ∀ W : World, Strs W lo x.ress Aress → Calls Try.prog 49 #[.slice Aress x.ress.length cress, .int .i64 l] W fun e w' => e = .returned (.int .i64 (leftOr (l - ((x.ress.length : Int) + sumSz x.ress)))) ∧ Below W.heap.size W w') := Lib.hid (fun l l0 l1 W hW => szStrs_ex x.ress Aress cress l l0 l1 f3.1 f3.2 lo W hW)
  have C_funcs : Hid (∀ (l : Int), 0 ≤ l → l ≤ 1048576 → ∀ W : World, Fcs W lo x.funcs Rfuncs → Calls Try.prog 68 #[.slice Rfuncs x.funcs.length cfuncs, .int .i64 l] W fun e w' => e = .returned (.int .i64 (leftOr (l - ((x.funcs.length : Int) + Fc.wts x.funcs)))) ∧ Below W.heap.size W w') := Lib.hid (fun l l0 l1 W hW => szFuncS_any x.funcs f4.1 f4.2 l l0 l1 Rfuncs cfuncs lo W hW)
  unfold maxLen at f0
  unfold maxLen at f1
  unfold maxLen at f2
  obtain ⟨R, hR⟩ : ∃ R, leftOr (left - x.wt) = R := ⟨_, rfl⟩
  rw [hR]
  have HRR := Lib.hid hR
  have HW := Lib.hid hw
  clear hR hw p_ress p_funcs
  generalize sumSz x.ress = w_ress at *
  generalize x.ress.length = l_ress at *
  generalize Fc.wts x.funcs = w_funcs at *
  generalize x.funcs.length = l_funcs at *
  generalize x.wt = W0 at *
  by_cases e1 : left - (x.pack.size : Int) < 0
  · go_enter Try.func33, Try.ntmps33
    go_wp2_with fail
    go_ret
    refine ⟨ret_int ?_, below1 _ _⟩
    have := HW.out
    rw [← HRR.out, leftOr_neg (by omega)]
  · obtain ⟨M1, hm1⟩ : ∃ M, left - (x.pack.size : Int) = M := ⟨_, rfl⟩
    have hx1 : 0 ≤ M1 := by omega
    have hy1 : M1 ≤ 1048576 := by omega
    have Hm1 := Lib.hid hm1
    have e1' : (x.pack.size : Int) ≤ left := by omega
    clear e1
    by_cases e2 : M1 - (x.name.size : Int) < 0
    · go_enter Try.func33, Try.ntmps33
      go_wp2_with fail
      go_ret
      refine ⟨ret_int ?_, below1 _ _⟩
      have := HW.out
      have := Hm1.out
      rw [← HRR.out, leftOr_neg (by omega)]
    · obtain ⟨M2, hm2⟩ : ∃ M, M1 - (x.name.size : Int) = M := ⟨_, rfl⟩
      have hx2 : 0 ≤ M2 := by omega
      have hy2 : M2 ≤ 1048576 := by omega
      have Hm2 := Lib.hid hm2
      have e2' : (x.name.size : Int) ≤ M1 := by omega
      clear e2
      by_cases e3 : M2 - (x.version.size : Int) < 0
      · go_enter Try.func33, Try.ntmps33
        go_wp2_with fail
        go_ret
        refine ⟨ret_int ?_, below1 _ _⟩
        have := HW.out
        have := Hm1.out
        have := Hm2.out
        rw [← HRR.out, leftOr_neg (by omega)]
      · obtain ⟨M3, hm3⟩ : ∃ M, M2 - (x.version.size : Int) = M := ⟨_, rfl⟩
        have hx3 : 0 ≤ M3 := by omega
        have hy3 : M3 ≤ 1048576 := by omega
        have Hm3 := Lib.hid hm3
        have e3' : (x.version.size : Int) ≤ M2 := by omega
        clear e3
        go_enter Try.func33, Try.ntmps33
        go_wp2_with fail
        (try rw [hm3])
        go_at_call 49
        refine (C_ress.out _ hx3 hy3 _ (HP_ress.out.below (below1 _ _))).mono ?_
        rintro e v4 ⟨rfl, hb4⟩
        have k_4_funcs_0 := keepCell (a := ⟨w.heap.size, 4, none⟩) (v := .slice Rfuncs l_funcs cfuncs) hb4 (by go_simp)
        have HB4 := Lib.hid (bnext (below1 _ _) hb4)
        clear hb4
        by_cases e4 : M3 - ((l_ress : Int) + w_ress) < 0
        · rw [leftOr_neg e4]
          go_wp2_with fail
          go_ret
          refine ⟨ret_int ?_, HB4.out⟩
          have := HW.out
          have := Hm1.out
          have := Hm2.out
          have := Hm3.out
          rw [← HRR.out, leftOr_neg (by omega)]
        · rw [leftOr_pos (by omega)]
          obtain ⟨M4, hm4⟩ : ∃ M, M3 - ((l_ress : Int) + w_ress) = M := ⟨_, rfl⟩
          rw [hm4]
          have hx4 : 0 ≤ M4 := by omega
          have hy4 : M4 ≤ 1048576 := by omega
          have Hm4 := Lib.hid hm4
          clear e4 hm4
          go_wp2_with fail
          go_at_call 68
          refine (C_funcs.out _ hx4 hy4 _ (HP_funcs.out.below (HB4.out))).mono ?_
          rintro e v5 ⟨rfl, hb5⟩
          have HB5 := Lib.hid (bnext (HB4.out) hb5)
          clear hb5
          by_cases e5 : M4 - ((l_funcs : Int) + w_funcs) < 0
          · rw [leftOr_neg e5]
            go_wp2_with fail
            go_ret
            refine ⟨ret_int ?_, HB5.out⟩
            have := HW.out
            have := Hm1.out
            have := Hm2.out
            have := Hm3.out
            have := Hm4.out
            rw [← HRR.out, leftOr_neg (by omega)]
          · rw [leftOr_pos (by omega)]
            obtain ⟨M5, hm5⟩ : ∃ M, M4 - ((l_funcs : Int) + w_funcs) = M := ⟨_, rfl⟩
            rw [hm5]
            have hx5 : 0 ≤ M5 := by omega
            have hy5 : M5 ≤ 1048576 := by omega
            have Hm5 := Lib.hid hm5
            clear e5 hm5
            go_wp2_with fail
            go_ret
            refine ⟨ret_int ?_, HB5.out⟩
            have := HW.out
            have := Hm1.out
            have := Hm2.out
            have := Hm3.out
            have := Hm4.out
            have := Hm5.out
            rw [← HRR.out, leftOr_pos (by omega)]
            omega

/-- What copying leaves: the same in new memory. -/
def ToFacePost (x : Fa) (w : World) (e : Ending) (w' : World) : Prop := ∃ (Aress : Option Addr), ∃ (cress : Nat), ∃ (Rfuncs : Option Addr), ∃ (cfuncs : Nat), e = .returned (.agg #[.string x.pack, .string x.name, .string x.version, .slice Aress x.ress.length cress, .slice Rfuncs x.funcs.length cfuncs]) ∧ Fa.At w' w.heap.size x Aress Rfuncs ∧ Below w.heap.size w w'
set_option maxRecDepth 100000 in
theorem toFace_any (x : Fa) (hT : x.wt ≤ 1048576) (Aress : Option Addr) (cress : Nat) (Rfuncs : Option Addr) (cfuncs : Nat) (lo : Nat) (w : World) (h : Fa.At w lo x Aress Rfuncs) :
    Calls Try.prog 35 #[.agg #[.string x.pack, .string x.name, .string x.version, .slice Aress x.ress.length cress, .slice Rfuncs x.funcs.length cfuncs]] w (ToFacePost x w) := by
  obtain ⟨q_pack, q_name, q_version, q_ress, q_funcs, _⟩ := Fa.parts_le hT
  obtain ⟨p_ress, p_funcs⟩ := h
  have HP_ress := Lib.hid p_ress
  have HP_funcs := Lib.hid p_funcs
  have C_ress : Hid (∀ W : World, Strs W lo x.ress Aress → Calls Try.prog 52 #[.slice Aress x.ress.length cress] W fun e w' => ∃ (Aress' : Option Addr), ∃ (cress' : Nat), e = .returned (.slice Aress' x.ress.length cress') ∧ Strs w' W.heap.size x.ress Aress' ∧ Below W.heap.size W w') := Lib.hid (fun W hW => toStrs_ex x.ress Aress cress (by have := sumSz_nonneg x.ress; omega) lo W hW)
  have C_funcs : Hid (∀ W : World, Fcs W lo x.funcs Rfuncs → Calls Try.prog 70 #[.slice Rfuncs x.funcs.length cfuncs] W fun e w' => ∃ (Rfuncs' : Option Addr), ∃ (cfuncs' : Nat), e = .returned (.slice Rfuncs' x.funcs.length cfuncs') ∧ Fcs w' W.heap.size x.funcs Rfuncs' ∧ Below W.heap.size W w') := Lib.hid (fun W hW => toFuncS_any x.funcs (by have := Fc.wts_nonneg x.funcs; omega) (fun i y hy => by have := Fc.wt_mem hy; omega) Rfuncs cfuncs lo W hW)
  clear hT p_ress p_funcs q_pack q_name q_version q_ress q_funcs
  go_enter Try.func35, Try.ntmps35
  go_wp2_with fail
  go_at_call 52
  refine (C_ress.out _ (HP_ress.out.below (by (repeat (with_reducible refine Below.setCell ?_ (by first | (simp; done) | (simp; omega)) _)); exact below3 _ _ _ _))).mono ?_
  rintro e v1 ⟨Aressz, cressz, rfl, hp1, hb1⟩
  obtain ⟨hc1, hf1⟩ := bcell hb1
  have d1_0 := keepCell (a := ⟨w.heap.size + 1 + 1, 0, none⟩) (v := .string x.pack) hb1 (by go_simp)
  have r1_0 := keepCell (a := ⟨w.heap.size + 1, 0, none⟩) (v := .string ⟨#[]⟩) hb1 (by go_simp)
  have d1_1 := keepCell (a := ⟨w.heap.size + 1 + 1, 1, none⟩) (v := .string x.name) hb1 (by go_simp)
  have r1_1 := keepCell (a := ⟨w.heap.size + 1, 1, none⟩) (v := .string ⟨#[]⟩) hb1 (by go_simp)
  have d1_2 := keepCell (a := ⟨w.heap.size + 1 + 1, 2, none⟩) (v := .string x.version) hb1 (by go_simp)
  have r1_2 := keepCell (a := ⟨w.heap.size + 1, 2, none⟩) (v := .string ⟨#[]⟩) hb1 (by go_simp)
  have d1_3 := keepCell (a := ⟨w.heap.size + 1 + 1, 3, none⟩) (v := .slice none 0 0) hb1 (by go_simp)
  have r1_3 := keepCell (a := ⟨w.heap.size + 1, 3, none⟩) (v := .slice none 0 0) hb1 (by go_simp)
  have d1_4 := keepCell (a := ⟨w.heap.size + 1 + 1, 4, none⟩) (v := .slice none 0 0) hb1 (by go_simp)
  have r1_4 := keepCell (a := ⟨w.heap.size + 1, 4, none⟩) (v := .slice none 0 0) hb1 (by go_simp)
  have a1_4 := keepCell (a := ⟨w.heap.size, 4, none⟩) (v := .slice Rfuncs x.funcs.length cfuncs) hb1 (by go_simp)
  have HB1 : Hid (Below w.heap.size w v1) := Lib.hid (bnext (by (repeat (with_reducible refine Below.setCell ?_ (by first | (simp; done) | (simp; omega)) _)); exact below3 _ _ _ _) hb1)
  have HS1 := Lib.hid hb1
  have hz1 : w.heap.size + 1 + 1 < v1.heap.size := (by have h9 := hb1.size; simp at h9; omega)
  have g1 : ∀ o, v1.frozen? ⟨w.heap.size + 1, o, none⟩ = false := (fun o => (hf1 _ _ (by first | (simp; done) | (simp; omega))).trans (by go_simp))
  have h1 : ∀ o, v1.frozen? ⟨w.heap.size + 1 + 1, o, none⟩ = false := (fun o => (hf1 _ _ (by first | (simp; done) | (simp; omega))).trans (by go_simp))
  have P1 := Lib.hid (hp1.low (lo' := w.heap.size + 1 + 1 + 1) (by first | (simp; done) | (simp; omega)))
  clear hp1 hb1 hc1 hf1
  go_wp2_with fail
  go_at_call 70
  refine (C_funcs.out _ (HP_funcs.out.below (by (repeat (with_reducible refine Below.setCell ?_ (by first | (simp; done) | (simp; omega)) _)); exact HB1.out))).mono ?_
  rintro e v2 ⟨Rfuncsz, cfuncsz, rfl, hp2, hb2⟩
  obtain ⟨hc2, hf2⟩ := bcell hb2
  have d2_0 := keepCell (a := ⟨w.heap.size + 1 + 1, 0, none⟩) (v := .string x.pack) hb2 (by go_simp)
  have r2_0 := keepCell (a := ⟨w.heap.size + 1, 0, none⟩) (v := .string ⟨#[]⟩) hb2 (by go_simp)
  have d2_1 := keepCell (a := ⟨w.heap.size + 1 + 1, 1, none⟩) (v := .string x.name) hb2 (by go_simp)
  have r2_1 := keepCell (a := ⟨w.heap.size + 1, 1, none⟩) (v := .string ⟨#[]⟩) hb2 (by go_simp)
  have d2_2 := keepCell (a := ⟨w.heap.size + 1 + 1, 2, none⟩) (v := .string x.version) hb2 (by go_simp)
  have r2_2 := keepCell (a := ⟨w.heap.size + 1, 2, none⟩) (v := .string ⟨#[]⟩) hb2 (by go_simp)
  have d2_3 := keepCell (a := ⟨w.heap.size + 1 + 1, 3, none⟩) (v := .slice Aressz x.ress.length cressz) hb2 (by go_simp)
  have r2_3 := keepCell (a := ⟨w.heap.size + 1, 3, none⟩) (v := .slice none 0 0) hb2 (by go_simp)
  have d2_4 := keepCell (a := ⟨w.heap.size + 1 + 1, 4, none⟩) (v := .slice none 0 0) hb2 (by go_simp)
  have r2_4 := keepCell (a := ⟨w.heap.size + 1, 4, none⟩) (v := .slice none 0 0) hb2 (by go_simp)
  have HB2 : Hid (Below w.heap.size w v2) := Lib.hid (bnext (by (repeat (with_reducible refine Below.setCell ?_ (by first | (simp; done) | (simp; omega)) _)); exact HB1.out) hb2)
  have HS2 := Lib.hid hb2
  have hz2 : w.heap.size + 1 + 1 < v2.heap.size := (by have h9 := hb2.size; simp at h9; omega)
  have g2 : ∀ o, v2.frozen? ⟨w.heap.size + 1, o, none⟩ = false := (fun o => (hf2 _ _ (by first | (simp; done) | (simp; omega))).trans (by go_simp))
  have h2 : ∀ o, v2.frozen? ⟨w.heap.size + 1 + 1, o, none⟩ = false := (fun o => (hf2 _ _ (by first | (simp; done) | (simp; omega))).trans (by go_simp))
  have P2 := Lib.hid (hp2.low (lo' := w.heap.size + 1 + 1 + 1) (by first | (simp; done) | (simp; omega)))
  clear hp2 hb2 hc2 hf2 d1_0 r1_0 d1_1 r1_1 d1_2 r1_2 d1_3 r1_3 d1_4 r1_4 a1_4 g1 h1
  go_wp2_with fail
  have kk := sets_in (v2.setCell ⟨w.heap.size + 1 + 1, 4, none⟩ (.slice Rfuncsz x.funcs.length cfuncsz)) (w.heap.size + 1) [.string x.pack, .string x.name, .string x.version, .slice Aressz x.ress.length cressz, .slice Rfuncsz x.funcs.length cfuncsz] (fun j hj => by
    have h4 : j = 0 ∨ j = 1 ∨ j = 2 ∨ j = 3 ∨ j = 4 := by simp at hj; omega
    rcases h4 with rfl | rfl | rfl | rfl | rfl <;> simp [World.cell?_setCell_other, r2_0, r2_1, r2_2, r2_3, r2_4])
  have k0 : ((((((v2.setCell ⟨w.heap.size + 1 + 1, 4, none⟩ (.slice Rfuncsz x.funcs.length cfuncsz)).setCell ⟨w.heap.size + 1, 0, none⟩ (.string x.pack)).setCell ⟨w.heap.size + 1, 1, none⟩ (.string x.name)).setCell ⟨w.heap.size + 1, 2, none⟩ (.string x.version)).setCell ⟨w.heap.size + 1, 3, none⟩ (.slice Aressz x.ress.length cressz)).setCell ⟨w.heap.size + 1, 4, none⟩ (.slice Rfuncsz x.funcs.length cfuncsz)).cell? ⟨w.heap.size + 1, 0, none⟩ = some (.string x.pack) := kk 0 (by simp)
  have k1 : ((((((v2.setCell ⟨w.heap.size + 1 + 1, 4, none⟩ (.slice Rfuncsz x.funcs.length cfuncsz)).setCell ⟨w.heap.size + 1, 0, none⟩ (.string x.pack)).setCell ⟨w.heap.size + 1, 1, none⟩ (.string x.name)).setCell ⟨w.heap.size + 1, 2, none⟩ (.string x.version)).setCell ⟨w.heap.size + 1, 3, none⟩ (.slice Aressz x.ress.length cressz)).setCell ⟨w.heap.size + 1, 4, none⟩ (.slice Rfuncsz x.funcs.length cfuncsz)).cell? ⟨w.heap.size + 1, 1, none⟩ = some (.string x.name) := kk 1 (by simp)
  have k2 : ((((((v2.setCell ⟨w.heap.size + 1 + 1, 4, none⟩ (.slice Rfuncsz x.funcs.length cfuncsz)).setCell ⟨w.heap.size + 1, 0, none⟩ (.string x.pack)).setCell ⟨w.heap.size + 1, 1, none⟩ (.string x.name)).setCell ⟨w.heap.size + 1, 2, none⟩ (.string x.version)).setCell ⟨w.heap.size + 1, 3, none⟩ (.slice Aressz x.ress.length cressz)).setCell ⟨w.heap.size + 1, 4, none⟩ (.slice Rfuncsz x.funcs.length cfuncsz)).cell? ⟨w.heap.size + 1, 2, none⟩ = some (.string x.version) := kk 2 (by simp)
  have k3 : ((((((v2.setCell ⟨w.heap.size + 1 + 1, 4, none⟩ (.slice Rfuncsz x.funcs.length cfuncsz)).setCell ⟨w.heap.size + 1, 0, none⟩ (.string x.pack)).setCell ⟨w.heap.size + 1, 1, none⟩ (.string x.name)).setCell ⟨w.heap.size + 1, 2, none⟩ (.string x.version)).setCell ⟨w.heap.size + 1, 3, none⟩ (.slice Aressz x.ress.length cressz)).setCell ⟨w.heap.size + 1, 4, none⟩ (.slice Rfuncsz x.funcs.length cfuncsz)).cell? ⟨w.heap.size + 1, 3, none⟩ = some (.slice Aressz x.ress.length cressz) := kk 3 (by simp)
  have k4 : ((((((v2.setCell ⟨w.heap.size + 1 + 1, 4, none⟩ (.slice Rfuncsz x.funcs.length cfuncsz)).setCell ⟨w.heap.size + 1, 0, none⟩ (.string x.pack)).setCell ⟨w.heap.size + 1, 1, none⟩ (.string x.name)).setCell ⟨w.heap.size + 1, 2, none⟩ (.string x.version)).setCell ⟨w.heap.size + 1, 3, none⟩ (.slice Aressz x.ress.length cressz)).setCell ⟨w.heap.size + 1, 4, none⟩ (.slice Rfuncsz x.funcs.length cfuncsz)).cell? ⟨w.heap.size + 1, 4, none⟩ = some (.slice Rfuncsz x.funcs.length cfuncsz) := kk 4 (by simp)
  clear kk
  refine bodyPost_ret (v := .agg #[.string x.pack, .string x.name, .string x.version, .slice Aressz x.ress.length cressz, .slice Rfuncsz x.funcs.length cfuncsz]) (by simp [results, Try.results35, go_sem, k0, k1, k2, k3, k4]) rfl ?_
  refine ⟨_, _, _, _, rfl, ?_, ?_⟩
  · refine ⟨?_, ?_⟩
    · refine Strs.low (lo := w.heap.size + 1 + 1 + 1) ?_ (by omega)
      (repeat (with_reducible refine Strs.keep ?_ (KeptFrom.setCell (by first | (simp; done) | (simp; omega)) _)))
      refine Strs.below ?_ HS2.out
      (repeat (with_reducible refine Strs.keep ?_ (KeptFrom.setCell (by first | (simp; done) | (simp; omega)) _)))
      exact P1.out
    · refine Fcs.low (lo := w.heap.size + 1 + 1 + 1) ?_ (by omega)
      (repeat (with_reducible refine Fcs.keep ?_ (KeptFrom.setCell (by first | (simp; done) | (simp; omega)) _)))
      exact P2.out
  · (repeat (with_reducible refine Below.setCell ?_ (by first | (simp; done) | (simp; omega)) _))
    exact HB2.out

theorem eqFace_any (x : Fa) (hT : x.wt ≤ 1048576) (Aress : Option Addr) (cress : Nat) (Rfuncs : Option Addr) (cfuncs : Nat) (Aress' : Option Addr) (cress' : Nat) (Rfuncs' : Option Addr) (cfuncs' : Nat) (lo lo' : Nat) (w : World) (h : Fa.At w lo x Aress Rfuncs) (h' : Fa.At w lo' x Aress' Rfuncs') :
    Calls Try.prog 37 #[.agg #[.string x.pack, .string x.name, .string x.version, .slice Aress x.ress.length cress, .slice Rfuncs x.funcs.length cfuncs], .agg #[.string x.pack, .string x.name, .string x.version, .slice Aress' x.ress.length cress', .slice Rfuncs' x.funcs.length cfuncs']] w fun e w' => e = .returned (.bool true) ∧ Below w.heap.size w w' := by
  obtain ⟨q_pack, q_name, q_version, q_ress, q_funcs, _⟩ := Fa.parts_le hT
  obtain ⟨p_ress, p_funcs⟩ := h
  obtain ⟨pp_ress, pp_funcs⟩ := h'
  have HP_ress := Lib.hid p_ress
  have HQ_ress := Lib.hid pp_ress
  have HP_funcs := Lib.hid p_funcs
  have HQ_funcs := Lib.hid pp_funcs
  have C_ress : Hid (∀ W : World, Strs W lo x.ress Aress → Strs W lo' x.ress Aress' → Calls Try.prog 40 #[.slice Aress x.ress.length cress, .slice Aress' x.ress.length cress'] W fun e w' => e = .returned (.bool true) ∧ Below W.heap.size W w') := Lib.hid (fun W h1 h2 => eqStrs_ex x.ress Aress Aress' cress cress' (by have := sumSz_nonneg x.ress; unfold maxLen; omega) lo lo' W h1 h2)
  have C_funcs : Hid (∀ W : World, Fcs W lo x.funcs Rfuncs → Fcs W lo' x.funcs Rfuncs' → Calls Try.prog 74 #[.slice Rfuncs x.funcs.length cfuncs, .slice Rfuncs' x.funcs.length cfuncs'] W fun e w' => e = .returned (.bool true) ∧ Below W.heap.size W w') := Lib.hid (fun W h1 h2 => eqFuncS_any x.funcs (by have := Fc.wts_nonneg x.funcs; omega) (fun i y hy => by have := Fc.wt_mem hy; omega) Rfuncs Rfuncs' cfuncs cfuncs' lo lo' W h1 h2)
  clear hT p_ress pp_ress p_funcs pp_funcs q_pack q_name q_version q_ress q_funcs
  go_enter Try.func37, Try.ntmps37
  go_wp2_with fail
  go_at_call 40
  refine (C_ress.out _ (HP_ress.out.below (below2 _ _ _)) (HQ_ress.out.below (below2 _ _ _))).mono ?_
  rintro e v1 ⟨rfl, hb1⟩
  have a1_4 := keepCell (a := ⟨w.heap.size, 4, none⟩) (v := .slice Rfuncs x.funcs.length cfuncs) hb1 (by go_simp)
  have b1_4 := keepCell (a := ⟨w.heap.size + 1, 4, none⟩) (v := .slice Rfuncs' x.funcs.length cfuncs') hb1 (by go_simp)
  have HB1 := Lib.hid (bnext (below2 _ _ _) hb1)
  clear hb1
  go_wp2_with fail
  go_at_call 74
  refine (C_funcs.out _ (HP_funcs.out.below (HB1.out)) (HQ_funcs.out.below (HB1.out))).mono ?_
  rintro e v2 ⟨rfl, hb2⟩
  have HB2 := Lib.hid (bnext (HB1.out) hb2)
  clear hb2
  go_wp2_with fail
  go_ret
  exact ⟨rfl, HB2.out⟩
end Go.Proofs.Ytfadodmkppeodaa
