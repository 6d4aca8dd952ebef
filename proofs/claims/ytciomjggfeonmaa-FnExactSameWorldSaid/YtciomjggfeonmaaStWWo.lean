/-
  Walks of measuring, copying and comparing World by value and in slices.
-/
import Derived.Test.YtciomjggfeonmaaStWo
import Derived.Test.YtciomjggfeonmaaRowGen
import Derived.Test.YtciomjggfeonmaaStEx
import Derived.Test.YtciomjggfeonmaaStWSFa
namespace Go.Proofs.Ytciomjggfeonmaa
open Go.ChangeShapes Go.WideShapes Go.ChangeAt Go.RowKit Go.Deep

theorem Wo.parts_le {x : Wo} (h : x.wt ≤ 1048576) : (x.pack.size : Int) ≤ 1048576 ∧ (x.name.size : Int) ≤ 1048576 ∧ (x.version.size : Int) ≤ 1048576 ∧ ((x.imps.length : Int) + Fa.wts x.imps) ≤ 1048576 ∧ ((x.exps.length : Int) + Fa.wts x.exps) ≤ 1048576 ∧ True := by
  have := Fa.wts_nonneg x.imps
  have := Fa.wts_nonneg x.exps
  unfold Wo.wt at h
  refine ⟨by omega, by omega, by omega, by omega, by omega, trivial⟩

theorem szWorld_any (x : Wo) (hf : x.Fin) (left : Int) (h0 : 0 ≤ left) (h1 : left ≤ 1048576) (Rimps : Option Addr) (cimps : Nat) (Rexps : Option Addr) (cexps : Nat) (lo : Nat) (w : World) (h : Wo.At w lo x Rimps Rexps) :
    Calls Try.prog 14 #[.agg #[.string x.pack, .string x.name, .string x.version, .slice Rimps x.imps.length cimps, .slice Rexps x.exps.length cexps], .int .i64 left] w fun e w' => e = .returned (.int .i64 (leftOr (left - x.wt))) ∧ Below w.heap.size w w' := by
  obtain ⟨f0, f1, f2, f3, f4⟩ := hf
  have hw : x.wt = (x.pack.size : Int) + (x.name.size : Int) + (x.version.size : Int) + ((x.imps.length : Int) + Fa.wts x.imps) + ((x.exps.length : Int) + Fa.wts x.exps) := rfl
  have n_imps := Fa.wts_nonneg x.imps
  have n_exps := Fa.wts_nonneg x.exps
  obtain ⟨p_imps, p_exps⟩ := h
  have HP_imps := Lib.hid p_imps
  have HP_exps := Lib.hid p_exps
  have C_imps : Hid (∀ (l : Int), 0 ≤ l → l ≤ 1048576 → ∀ W : World, Fas W lo x.imps Rimps → Calls Try.prog 34 #[.slice Rimps x.imps.length cimps, .int .i64 l] W fun e w' => e = .returned (.int .i64 (leftOr (l - ((x.imps.length : Int) + Fa.wts x.imps)))) ∧ Below W.heap.size W w') := Lib.hid (fun l l0 l1 W hW => szFaceS_any x.imps f3.1 f3.2 l l0 l1 Rimps cimps lo W hW)
  have C_exps : Hid (∀ (l : Int), 0 ≤ l → l ≤ 1048576 → ∀ W : World, Fas W lo x.exps Rexps → Calls Try.prog 34 #[.slice Rexps x.exps.length cexps, .int .i64 l] W fun e w' => e = .returned (.int .i64 (leftOr (l - ((x.exps.length : Int) + Fa.wts x.exps)))) ∧ Below W.heap.size W w') := Lib.hid (fun l l0 l1 W hW => szFaceS_any x.exps f4.1 f4.2 l l0 l1 Rexps cexps lo W hW)
  unfold maxLen at f0
  unfold maxLen at f1
  unfold maxLen at f2
  obtain ⟨R, hR⟩ : ∃ R, leftOr (left - x.wt) = R := ⟨_, rfl⟩
  rw [hR]
  have HRR := Lib.hid hR
  have HW := Lib.hid hw
  clear hR hw p_imps p_exps
  generalize Fa.wts x.imps = w_imps at *
  generalize x.imps.length = l_imps at *
  generalize Fa.wts x.exps = w_exps at *
  generalize x.exps.length = l_exps at *
  generalize x.wt = W0 at *
  by_cases e1 : left - (x.pack.size : Int) < 0
  · go_enter Try.func14, Try.ntmps14
    go_wp2_with fail
    go_ret
    refine ⟨ret_int ?_, below1 _ _⟩
    have := HW.out
    rw [← HRR.out, leftOr_neg (by omega)]
  · obtain ⟨M1, hm1⟩ : ∃ M, left - (x.pack.size : Int) = M := ⟨_, rfl⟩
    have hx1 : 0 ≤ M1 := by omega
    have hy1 : M1 ≤ 1048576 := by omega
    have Hm1 := Lib.hid hm1
    have e1' : (x.pack.size : Int) ≤ left := by omega
    clear e1
    by_cases e2 : M1 - (x.name.size : Int) < 0
    · go_enter Try.func14, Try.ntmps14
      go_wp2_with fail
      go_ret
      refine ⟨ret_int ?_, below1 _ _⟩
      have := HW.out
      have := Hm1.out
      rw [← HRR.out, leftOr_neg (by omega)]
    · obtain ⟨M2, hm2⟩ : ∃ M, M1 - (x.name.size : Int) = M := ⟨_, rfl⟩
      have hx2 : 0 ≤ M2 := by omega
      have hy2 : M2 ≤ 1048576 := by omega
      have Hm2 := Lib.hid hm2
      have e2' : (x.name.size : Int) ≤ M1 := by omega
      clear e2
      by_cases e3 : M2 - (x.version.size : Int) < 0
      · go_enter Try.func14, Try.ntmps14
        go_wp2_with fail
        go_ret
        refine ⟨ret_int ?_, below1 _ _⟩
        have := HW.out
        have := Hm1.out
        have := Hm2.out
        rw [← HRR.out, leftOr_neg (by omega)]
      · obtain ⟨M3, hm3⟩ : ∃ M, M2 - (x.version.size : Int) = M := ⟨_, rfl⟩
        have hx3 : 0 ≤ M3 := by omega
        have hy3 : M3 ≤ 1048576 := by omega
        have Hm3 := Lib.hid hm3
        have e3' : (x.version.size : Int) ≤ M2 := by omega
        clear e3
        go_enter Try.func14, Try.ntmps14
        go_wp2_with fail
        (try rw [hm3])
        go_at_call 34
        refine (C_imps.out _ hx3 hy3 _ (HP_imps.out.below (below1 _ _))).mono ?_
        rintro e v4 ⟨rfl, hb4⟩
        have k_4_exps_0 := keepCell (a := ⟨w.heap.size, 4, none⟩) (v := .slice Rexps l_exps cexps) hb4 (by go_simp)
        have HB4 := Lib.hid (bnext (below1 _ _) hb4)
        clear hb4
        by_cases e4 : M3 - ((l_imps : Int) + w_imps) < 0
        · rw [leftOr_neg e4]
          go_wp2_with fail
          go_ret
          refine ⟨ret_int ?_, HB4.out⟩
          have := HW.out
          have := Hm1.out
          have := Hm2.out
          have := Hm3.out
          rw [← HRR.out, leftOr_neg (by omega)]
        · rw [leftOr_pos (by omega)]
          obtain ⟨M4, hm4⟩ : ∃ M, M3 - ((l_imps : Int) + w_imps) = M := ⟨_, rfl⟩
          rw [hm4]
          have hx4 : 0 ≤ M4 := by omega
          have hy4 : M4 ≤ 1048576 := by omega
          have Hm4 := Lib.hid hm4
          clear e4 hm4
          go_wp2_with fail
          go_at_call 34
          refine (C_exps.out _ hx4 hy4 _ (HP_exps.out.below (HB4.out))).mono ?_
          rintro e v5 ⟨rfl, hb5⟩
          have HB5 := Lib.hid (bnext (HB4.out) hb5)
          clear hb5
          by_cases e5 : M4 - ((l_exps : Int) + w_exps) < 0
          · rw [leftOr_neg e5]
            go_wp2_with fail
            go_ret
            refine ⟨ret_int ?_, HB5.out⟩
            have := HW.out
            have := Hm1.out
            have := Hm2.out
            have := Hm3.out
            have := Hm4.out
            rw [← HRR.out, leftOr_neg (by omega)]
          · rw [leftOr_pos (by omega)]
            obtain ⟨M5, hm5⟩ : ∃ M, M4 - ((l_exps : Int) + w_exps) = M := ⟨_, rfl⟩
            rw [hm5]
            have hx5 : 0 ≤ M5 := by omega
            have hy5 : M5 ≤ 1048576 := by omega
            have Hm5 := Lib.hid hm5
            clear e5 hm5
            go_wp2_with fail
            go_ret
            refine ⟨ret_int ?_, HB5.out⟩
            have := HW.out
            have := Hm1.out
            have := Hm2.out
            have := Hm3.out
            have := Hm4.out
            have := Hm5.out
            rw [← HRR.out, leftOr_pos (by omega)]
            omega

/-- What copying leaves: the same in new memory. -/
def ToWorldPost (x : Wo) (w : World) (e : Ending) (w' : World) : Prop := ∃ (Rimps : Option Addr), ∃ (cimps : Nat), ∃ (Rexps : Option Addr), ∃ (cexps : Nat), e = .returned (.agg #[.string x.pack, .string x.name, .string x.version, .slice Rimps x.imps.length cimps, .slice Rexps x.exps.length cexps]) ∧ Wo.At w' w.heap.size x Rimps Rexps ∧ Below w.heap.size w w'
set_option maxRecDepth 100000 in
theorem toWorld_any (x : Wo) (hT : x.wt ≤ 1048576) (Rimps : Option Addr) (cimps : Nat) (Rexps : Option Addr) (cexps : Nat) (lo : Nat) (w : World) (h : Wo.At w lo x Rimps Rexps) :
    Calls Try.prog 16 #[.agg #[.string x.pack, .string x.name, .string x.version, .slice Rimps x.imps.length cimps, .slice Rexps x.exps.length cexps]] w (ToWorldPost x w) := by
  obtain ⟨q_pack, q_name, q_version, q_imps, q_exps, _⟩ := Wo.parts_le hT
  obtain ⟨p_imps, p_exps⟩ := h
  have HP_imps := Lib.hid p_imps
  have HP_exps := Lib.hid p_exps
  have C_imps : Hid (∀ W : World, Fas W lo x.imps Rimps → Calls Try.prog 36 #[.slice Rimps x.imps.length cimps] W fun e w' => ∃ (Rimps' : Option Addr), ∃ (cimps' : Nat), e = .returned (.slice Rimps' x.imps.length cimps') ∧ Fas w' W.heap.size x.imps Rimps' ∧ Below W.heap.size W w') := Lib.hid (fun W hW => toFaceS_any x.imps (by have := Fa.wts_nonneg x.imps; omega) (fun i y hy => by have := Fa.wt_mem hy; omega) Rimps cimps lo W hW)
  have C_exps : Hid (∀ W : World, Fas W lo x.exps Rexps → Calls Try.prog 36 #[.slice Rexps x.exps.length cexps] W fun e w' => ∃ (Rexps' : Option Addr), ∃ (cexps' : Nat), e = .returned (.slice Rexps' x.exps.length cexps') ∧ Fas w' W.heap.size x.exps Rexps' ∧ Below W.heap.size W w') := Lib.hid (fun W hW => toFaceS_any x.exps (by have := Fa.wts_nonneg x.exps; omega) (fun i y hy => by have := Fa.wt_mem hy; omega) Rexps cexps lo W hW)
  clear hT p_imps p_exps q_pack q_name q_version q_imps q_exps
  go_enter Try.func16, Try.ntmps16
  go_wp2_with fail
  go_at_call 36
  refine (C_imps.out _ (HP_imps.out.below (by (repeat (with_reducible refine Below.setCell ?_ (by first | (simp; done) | (simp; omega)) _)); exact below3 _ _ _ _))).mono ?_
  rintro e v1 ⟨Rimpsz, cimpsz, rfl, hp1, hb1⟩
  obtain ⟨hc1, hf1⟩ := bcell hb1
  have d1_0 := keepCell (a := ⟨w.heap.size + 1 + 1, 0, none⟩) (v := .string x.pack) hb1 (by go_simp)
  have r1_0 := keepCell (a := ⟨w.heap.size + 1, 0, none⟩) (v := .string ⟨#[]⟩) hb1 (by go_simp)
  have d1_1 := keepCell (a := ⟨w.heap.size + 1 + 1, 1, none⟩) (v := .string x.name) hb1 (by go_simp)
  have r1_1 := keepCell (a := ⟨w.heap.size + 1, 1, none⟩) (v := .string ⟨#[]⟩) hb1 (by go_simp)
  have d1_2 := keepCell (a := ⟨w.heap.size + 1 + 1, 2, none⟩) (v := .string x.version) hb1 (by go_simp)
  have r1_2 := keepCell (a := ⟨w.heap.size + 1, 2, none⟩) (v := .string ⟨#[]⟩) hb1 (by go_simp)
  have d1_3 := keepCell (a := ⟨w.heap.size + 1 + 1, 3, none⟩) (v := .slice none 0 0) hb1 (by go_simp)
  have r1_3 := keepCell (a := ⟨w.heap.size + 1, 3, none⟩) (v := .slice none 0 0) hb1 (by go_simp)
  have d1_4 := keepCell (a := ⟨w.heap.size + 1 + 1, 4, none⟩) (v := .slice none 0 0) hb1 (by go_simp)
  have r1_4 := keepCell (a := ⟨w.heap.size + 1, 4, none⟩) (v := .slice none 0 0) hb1 (by go_simp)
  have a1_4 := keepCell (a := ⟨w.heap.size, 4, none⟩) (v := .slice Rexps x.exps.length cexps) hb1 (by go_simp)
  have HB1 : Hid (Below w.heap.size w v1) := Lib.hid (bnext (by (repeat (with_reducible refine Below.setCell ?_ (by first | (simp; done) | (simp; omega)) _)); exact below3 _ _ _ _) hb1)
  have HS1 := Lib.hid hb1
  have hz1 : w.heap.size + 1 + 1 < v1.heap.size := (by have h9 := hb1.size; simp at h9; omega)
  have g1 : ∀ o, v1.frozen? ⟨w.heap.size + 1, o, none⟩ = false := (fun o => (hf1 _ _ (by first | (simp; done) | (simp; omega))).trans (by go_simp))
  have h1 : ∀ o, v1.frozen? ⟨w.heap.size + 1 + 1, o, none⟩ = false := (fun o => (hf1 _ _ (by first | (simp; done) | (simp; omega))).trans (by go_simp))
  have P1 := Lib.hid (hp1.low (lo' := w.heap.size + 1 + 1 + 1) (by first | (simp; done) | (simp; omega)))
  clear hp1 hb1 hc1 hf1
  go_wp2_with fail
  go_at_call 36
  refine (C_exps.out _ (HP_exps.out.below (by (repeat (with_reducible refine Below.setCell ?_ (by first | (simp; done) | (simp; omega)) _)); exact HB1.out))).mono ?_
  rintro e v2 ⟨Rexpsz, cexpsz, rfl, hp2, hb2⟩
  obtain ⟨hc2, hf2⟩ := bcell hb2
  have d2_0 := keepCell (a := ⟨w.heap.size + 1 + 1, 0, none⟩) (v := .string x.pack) hb2 (by go_simp)
  have r2_0 := keepCell (a := ⟨w.heap.size + 1, 0, none⟩) (v := .string ⟨#[]⟩) hb2 (by go_simp)
  have d2_1 := keepCell (a := ⟨w.heap.size + 1 + 1, 1, none⟩) (v := .string x.name) hb2 (by go_simp)
  have r2_1 := keepCell (a := ⟨w.heap.size + 1, 1, none⟩) (v := .string ⟨#[]⟩) hb2 (by go_simp)
  have d2_2 := keepCell (a := ⟨w.heap.size + 1 + 1, 2, none⟩) (v := .string x.version) hb2 (by go_simp)
  have r2_2 := keepCell (a := ⟨w.heap.size + 1, 2, none⟩) (v := .string ⟨#[]⟩) hb2 (by go_simp)
  have d2_3 := keepCell (a := ⟨w.heap.size + 1 + 1, 3, none⟩) (v := .slice Rimpsz x.imps.length cimpsz) hb2 (by go_simp)
  have r2_3 := keepCell (a := ⟨w.heap.size + 1, 3, none⟩) (v := .slice none 0 0) hb2 (by go_simp)
  have d2_4 := keepCell (a := ⟨w.heap.size + 1 + 1, 4, none⟩) (v := .slice none 0 0) hb2 (by go_simp)
  have r2_4 := keepCell (a := ⟨w.heap.size + 1, 4, none⟩) (v := .slice none 0 0) hb2 (by go_simp)
  have HB2 : Hid (Below w.heap.size w v2) := Lib.hid (bnext (by (repeat (with_reducible refine Below.setCell ?_ (by first | (simp; done) | (simp; omega)) _)); exact HB1.out) hb2)
  have HS2 := Lib.hid hb2
  have hz2 : w.heap.size + 1 + 1 < v2.heap.size := (by have h9 := hb2.size; simp at h9; omega)
  have g2 : ∀ o, v2.frozen? ⟨w.heap.size + 1, o, none⟩ = false := (fun o => (hf2 _ _ (by first | (simp; done) | (simp; omega))).trans (by go_simp))
  have h2 : ∀ o, v2.frozen? ⟨w.heap.size + 1 + 1, o, none⟩ = false := (fun o => (hf2 _ _ (by first | (simp; done) | (simp; omega))).trans (by go_simp))
  have P2 := Lib.hid (hp2.low (lo' := w.heap.size + 1 + 1 + 1) (by first | (simp; done) | (simp; omega)))
  clear hp2 hb2 hc2 hf2 d1_0 r1_0 d1_1 r1_1 d1_2 r1_2 d1_3 r1_3 d1_4 r1_4 a1_4 g1 h1
  go_wp2_with fail
  have kk := sets_in (v2.setCell ⟨w.heap.size + 1 + 1, 4, none⟩ (.slice Rexpsz x.exps.length cexpsz)) (w.heap.size + 1) [.string x.pack, .string x.name, .string x.version, .slice Rimpsz x.imps.length cimpsz, .slice Rexpsz x.exps.length cexpsz] (fun j hj => by
    have h4 : j = 0 ∨ j = 1 ∨ j = 2 ∨ j = 3 ∨ j = 4 := by simp at hj; omega
    rcases h4 with rfl | rfl | rfl | rfl | rfl <;> simp [World.cell?_setCell_other, r2_0, r2_1, r2_2, r2_3, r2_4])
  have k0 : ((((((v2.setCell ⟨w.heap.size + 1 + 1, 4, none⟩ (.slice Rexpsz x.exps.length cexpsz)).setCell ⟨w.heap.size + 1, 0, none⟩ (.string x.pack)).setCell ⟨w.heap.size + 1, 1, none⟩ (.string x.name)).setCell ⟨w.heap.size + 1, 2, none⟩ (.string x.version)).setCell ⟨w.heap.size + 1, 3, none⟩ (.slice Rimpsz x.imps.length cimpsz)).setCell ⟨w.heap.size + 1, 4, none⟩ (.slice Rexpsz x.exps.length cexpsz)).cell? ⟨w.heap.size + 1, 0, none⟩ = some (.string x.pack) := kk 0 (by simp)
  have k1 : ((((((v2.setCell ⟨w.heap.size + 1 + 1, 4, none⟩ (.slice Rexpsz x.exps.length cexpsz)).setCell ⟨w.heap.size + 1, 0, none⟩ (.string x.pack)).setCell ⟨w.heap.size + 1, 1, none⟩ (.string x.name)).setCell ⟨w.heap.size + 1, 2, none⟩ (.string x.version)).setCell ⟨w.heap.size + 1, 3, none⟩ (.slice Rimpsz x.imps.length cimpsz)).setCell ⟨w.heap.size + 1, 4, none⟩ (.slice Rexpsz x.exps.length cexpsz)).cell? ⟨w.heap.size + 1, 1, none⟩ = some (.string x.name) := kk 1 (by simp)
  have k2 : ((((((v2.setCell ⟨w.heap.size + 1 + 1, 4, none⟩ (.slice Rexpsz x.exps.length cexpsz)).setCell ⟨w.heap.size + 1, 0, none⟩ (.string x.pack)).setCell ⟨w.heap.size + 1, 1, none⟩ (.string x.name)).setCell ⟨w.heap.size + 1, 2, none⟩ (.string x.version)).setCell ⟨w.heap.size + 1, 3, none⟩ (.slice Rimpsz x.imps.length cimpsz)).setCell ⟨w.heap.size + 1, 4, none⟩ (.slice Rexpsz x.exps.length cexpsz)).cell? ⟨w.heap.size + 1, 2, none⟩ = some (.string x.version) := kk 2 (by simp)
  have k3 : ((((((v2.setCell ⟨w.heap.size + 1 + 1, 4, none⟩ (.slice Rexpsz x.exps.length cexpsz)).setCell ⟨w.heap.size + 1, 0, none⟩ (.string x.pack)).setCell ⟨w.heap.size + 1, 1, none⟩ (.string x.name)).setCell ⟨w.heap.size + 1, 2, none⟩ (.string x.version)).setCell ⟨w.heap.size + 1, 3, none⟩ (.slice Rimpsz x.imps.length cimpsz)).setCell ⟨w.heap.size + 1, 4, none⟩ (.slice Rexpsz x.exps.length cexpsz)).cell? ⟨w.heap.size + 1, 3, none⟩ = some (.slice Rimpsz x.imps.length cimpsz) := kk 3 (by simp)
  have k4 : ((((((v2.setCell ⟨w.heap.size + 1 + 1, 4, none⟩ (.slice Rexpsz x.exps.length cexpsz)).setCell ⟨w.heap.size + 1, 0, none⟩ (.string x.pack)).setCell ⟨w.heap.size + 1, 1, none⟩ (.string x.name)).setCell ⟨w.heap.size + 1, 2, none⟩ (.string x.version)).setCell ⟨w.heap.size + 1, 3, none⟩ (.slice Rimpsz x.imps.length cimpsz)).setCell ⟨w.heap.size + 1, 4, none⟩ (.slice Rexpsz x.exps.length cexpsz)).cell? ⟨w.heap.size + 1, 4, none⟩ = some (.slice Rexpsz x.exps.length cexpsz) := kk 4 (by simp)
  clear kk
  refine bodyPost_ret (v := .agg #[.string x.pack, .string x.name, .string x.version, .slice Rimpsz x.imps.length cimpsz, .slice Rexpsz x.exps.length cexpsz]) (by simp [results, Try.results16, go_sem, k0, k1, k2, k3, k4]) rfl ?_
  refine ⟨_, _, _, _, rfl, ?_, ?_⟩
  · refine ⟨?_, ?_⟩
    · refine Fas.low (lo := w.heap.size + 1 + 1 + 1) ?_ (by omega)
      (repeat (with_reducible refine Fas.keep ?_ (KeptFrom.setCell (by first | (simp; done) | (simp; omega)) _)))
      refine Fas.below ?_ HS2.out
      (repeat (with_reducible refine Fas.keep ?_ (KeptFrom.setCell (by first | (simp; done) | (simp; omega)) _)))
      exact P1.out
    · refine Fas.low (lo := w.heap.size + 1 + 1 + 1) ?_ (by omega)
      (repeat (with_reducible refine Fas.keep ?_ (KeptFrom.setCell (by first | (simp; done) | (simp; omega)) _)))
      exact P2.out
  · (repeat (with_reducible refine Below.setCell ?_ (by first | (simp; done) | (simp; omega)) _))
    exact HB2.out

theorem eqWorld_any (x : Wo) (hT : x.wt ≤ 1048576) (Rimps : Option Addr) (cimps : Nat) (Rexps : Option Addr) (cexps : Nat) (Rimps' : Option Addr) (cimps' : Nat) (Rexps' : Option Addr) (cexps' : Nat) (lo lo' : Nat) (w : World) (h : Wo.At w lo x Rimps Rexps) (h' : Wo.At w lo' x Rimps' Rexps') :
    Calls Try.prog 18 #[.agg #[.string x.pack, .string x.name, .string x.version, .slice Rimps x.imps.length cimps, .slice Rexps x.exps.length cexps], .agg #[.string x.pack, .string x.name, .string x.version, .slice Rimps' x.imps.length cimps', .slice Rexps' x.exps.length cexps']] w fun e w' => e = .returned (.bool true) ∧ Below w.heap.size w w' := by
  obtain ⟨q_pack, q_name, q_version, q_imps, q_exps, _⟩ := Wo.parts_le hT
  obtain ⟨p_imps, p_exps⟩ := h
  obtain ⟨pp_imps, pp_exps⟩ := h'
  have HP_imps := Lib.hid p_imps
  have HQ_imps := Lib.hid pp_imps
  have HP_exps := Lib.hid p_exps
  have HQ_exps := Lib.hid pp_exps
  have C_imps : Hid (∀ W : World, Fas W lo x.imps Rimps → Fas W lo' x.imps Rimps' → Calls Try.prog 39 #[.slice Rimps x.imps.length cimps, .slice Rimps' x.imps.length cimps'] W fun e w' => e = .returned (.bool true) ∧ Below W.heap.size W w') := Lib.hid (fun W h1 h2 => eqFaceS_any x.imps (by have := Fa.wts_nonneg x.imps; omega) (fun i y hy => by have := Fa.wt_mem hy; omega) Rimps Rimps' cimps cimps' lo lo' W h1 h2)
  have C_exps : Hid (∀ W : World, Fas W lo x.exps Rexps → Fas W lo' x.exps Rexps' → Calls Try.prog 39 #[.slice Rexps x.exps.length cexps, .slice Rexps' x.exps.length cexps'] W fun e w' => e = .returned (.bool true) ∧ Below W.heap.size W w') := Lib.hid (fun W h1 h2 => eqFaceS_any x.exps (by have := Fa.wts_nonneg x.exps; omega) (fun i y hy => by have := Fa.wt_mem hy; omega) Rexps Rexps' cexps cexps' lo lo' W h1 h2)
  clear hT p_imps pp_imps p_exps pp_exps q_pack q_name q_version q_imps q_exps
  go_enter Try.func18, Try.ntmps18
  go_wp2_with fail
  go_at_call 39
  refine (C_imps.out _ (HP_imps.out.below (below2 _ _ _)) (HQ_imps.out.below (below2 _ _ _))).mono ?_
  rintro e v1 ⟨rfl, hb1⟩
  have a1_4 := keepCell (a := ⟨w.heap.size, 4, none⟩) (v := .slice Rexps x.exps.length cexps) hb1 (by go_simp)
  have b1_4 := keepCell (a := ⟨w.heap.size + 1, 4, none⟩) (v := .slice Rexps' x.exps.length cexps') hb1 (by go_simp)
  have HB1 := Lib.hid (bnext (below2 _ _ _) hb1)
  clear hb1
  go_wp2_with fail
  go_at_call 39
  refine (C_exps.out _ (HP_exps.out.below (HB1.out)) (HQ_exps.out.below (HB1.out))).mono ?_
  rintro e v2 ⟨rfl, hb2⟩
  have HB2 := Lib.hid (bnext (HB1.out) hb2)
  clear hb2
  go_wp2_with fail
  go_ret
  exact ⟨rfl, HB2.out⟩
end Go.Proofs.Ytciomjggfeonmaa
