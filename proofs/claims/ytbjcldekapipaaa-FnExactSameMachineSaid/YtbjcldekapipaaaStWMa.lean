/-
  Walks of measuring, copying and comparing Machine by value and in slices.
-/
import Derived.Test.YtbjcldekapipaaaStMa
import Derived.Test.YtbjcldekapipaaaRowGen
import Derived.Test.YtbjcldekapipaaaStEx
import Derived.Test.YtbjcldekapipaaaStWSFr
import Derived.Test.YtbjcldekapipaaaStWSIv
import Derived.Test.YtbjcldekapipaaaStWSIv
namespace Go.Proofs.Ytbjcldekapipaaa
open Go.ChangeShapes Go.WideShapes Go.ChangeAt Go.RowKit Go.Deep

theorem Ma.parts_le {x : Ma} (h : x.wt ≤ 1048576) : ((x.frames.length : Int) + Fr.wts x.frames) ≤ 1048576 ∧ ((x.stack.length : Int) + Iv.wts x.stack) ≤ 1048576 ∧ ((x.args.length : Int) + Iv.wts x.args) ≤ 1048576 ∧ True := by
  have := Fr.wts_nonneg x.frames
  have := Iv.wts_nonneg x.stack
  have := Iv.wts_nonneg x.args
  unfold Ma.wt at h
  refine ⟨by omega, by omega, by omega, trivial⟩

theorem szMachine_any (x : Ma) (hf : x.Fin) (left : Int) (h0 : 0 ≤ left) (h1 : left ≤ 1048576) (Rframes : Option Addr) (cframes : Nat) (Rstack : Option Addr) (cstack : Nat) (Rargs : Option Addr) (cargs : Nat) (lo : Nat) (w : World) (h : Ma.At w lo x Rframes Rstack Rargs) :
    Calls Try.prog 6 #[.agg #[.int .i64 x.status, .slice Rframes x.frames.length cframes, .slice Rstack x.stack.length cstack, .int .i64 x.imp, .slice Rargs x.args.length cargs, .int .i64 x.result, .int .i64 x.trap], .int .i64 left] w fun e w' => e = .returned (.int .i64 (leftOr (left - x.wt))) ∧ Below w.heap.size w w' := by
  obtain ⟨f0, f1, f2, f3, f4, f5, f6⟩ := hf
  have hw : x.wt = ((x.frames.length : Int) + Fr.wts x.frames) + ((x.stack.length : Int) + Iv.wts x.stack) + ((x.args.length : Int) + Iv.wts x.args) := rfl
  have n_frames := Fr.wts_nonneg x.frames
  have n_stack := Iv.wts_nonneg x.stack
  have n_args := Iv.wts_nonneg x.args
  obtain ⟨p_frames, p_stack, p_args⟩ := h
  have HP_frames := Lib.hid p_frames
  have HP_stack := Lib.hid p_stack
  have HP_args := Lib.hid p_args
  have C_frames : Hid (∀ (l : Int), 0 ≤ l → l ≤ 1048576 → ∀ W : World, Frs W lo x.frames Rframes → Calls Try.prog 24 #[.slice Rframes x.frames.length cframes, .int .i64 l] W fun e w' => e = .returned (.int .i64 (leftOr (l - ((x.frames.length : Int) + Fr.wts x.frames)))) ∧ Below W.heap.size W w') := Lib.hid (fun l l0 l1 W hW => szCoreFrameS_any x.frames f1.1 f1.2 l l0 l1 Rframes cframes lo W hW)
  have C_stack : Hid (∀ (l : Int), 0 ≤ l → l ≤ 1048576 → ∀ W : World, Ivs W lo x.stack Rstack → Calls Try.prog 25 #[.slice Rstack x.stack.length cstack, .int .i64 l] W fun e w' => e = .returned (.int .i64 (leftOr (l - ((x.stack.length : Int) + Iv.wts x.stack)))) ∧ Below W.heap.size W w') := Lib.hid (fun l l0 l1 W hW => szInt64S_any x.stack f2.1 f2.2 l l0 l1 Rstack cstack lo W hW)
  have C_args : Hid (∀ (l : Int), 0 ≤ l → l ≤ 1048576 → ∀ W : World, Ivs W lo x.args Rargs → Calls Try.prog 25 #[.slice Rargs x.args.length cargs, .int .i64 l] W fun e w' => e = .returned (.int .i64 (leftOr (l - ((x.args.length : Int) + Iv.wts x.args)))) ∧ Below W.heap.size W w') := Lib.hid (fun l l0 l1 W hW => szInt64S_any x.args f4.1 f4.2 l l0 l1 Rargs cargs lo W hW)
  obtain ⟨R, hR⟩ : ∃ R, leftOr (left - x.wt) = R := ⟨_, rfl⟩
  rw [hR]
  have HRR := Lib.hid hR
  have HW := Lib.hid hw
  clear hR hw p_frames p_stack p_args
  generalize Fr.wts x.frames = w_frames at *
  generalize x.frames.length = l_frames at *
  generalize Iv.wts x.stack = w_stack at *
  generalize x.stack.length = l_stack at *
  generalize Iv.wts x.args = w_args at *
  generalize x.args.length = l_args at *
  generalize x.wt = W0 at *
  go_enter Try.func6, Try.ntmps6
  go_wp2_with fail
  go_at_call 24
  refine (C_frames.out _ h0 h1 _ (HP_frames.out.below (below1 _ _))).mono ?_
  rintro e v1 ⟨rfl, hb1⟩
  have k_1_stack_0 := keepCell (a := ⟨w.heap.size, 2, none⟩) (v := .slice Rstack l_stack cstack) hb1 (by go_simp)
  have k_1_args_0 := keepCell (a := ⟨w.heap.size, 4, none⟩) (v := .slice Rargs l_args cargs) hb1 (by go_simp)
  have HB1 := Lib.hid (bnext (below1 _ _) hb1)
  clear hb1
  by_cases e1 : left - ((l_frames : Int) + w_frames) < 0
  · rw [leftOr_neg e1]
    go_wp2_with fail
    go_ret
    refine ⟨ret_int ?_, HB1.out⟩
    have := HW.out
    rw [← HRR.out, leftOr_neg (by omega)]
  · rw [leftOr_pos (by omega)]
    obtain ⟨M1, hm1⟩ : ∃ M, left - ((l_frames : Int) + w_frames) = M := ⟨_, rfl⟩
    rw [hm1]
    have hx1 : 0 ≤ M1 := by omega
    have hy1 : M1 ≤ 1048576 := by omega
    have Hm1 := Lib.hid hm1
    clear e1 hm1
    go_wp2_with fail
    go_at_call 25
    refine (C_stack.out _ hx1 hy1 _ (HP_stack.out.below (HB1.out))).mono ?_
    rintro e v2 ⟨rfl, hb2⟩
    have k_2_args_0 := keepCell (a := ⟨w.heap.size, 4, none⟩) (v := .slice Rargs l_args cargs) hb2 (by go_simp)
    have HB2 := Lib.hid (bnext (HB1.out) hb2)
    clear hb2
    by_cases e2 : M1 - ((l_stack : Int) + w_stack) < 0
    · rw [leftOr_neg e2]
      go_wp2_with fail
      go_ret
      refine ⟨ret_int ?_, HB2.out⟩
      have := HW.out
      have := Hm1.out
      rw [← HRR.out, leftOr_neg (by omega)]
    · rw [leftOr_pos (by omega)]
      obtain ⟨M2, hm2⟩ : ∃ M, M1 - ((l_stack : Int) + w_stack) = M := ⟨_, rfl⟩
      rw [hm2]
      have hx2 : 0 ≤ M2 := by omega
      have hy2 : M2 ≤ 1048576 := by omega
      have Hm2 := Lib.hid hm2
      clear e2 hm2
      go_wp2_with fail
      go_at_call 25
      refine (C_args.out _ hx2 hy2 _ (HP_args.out.below (HB2.out))).mono ?_
      rintro e v3 ⟨rfl, hb3⟩
      have HB3 := Lib.hid (bnext (HB2.out) hb3)
      clear hb3
      by_cases e3 : M2 - ((l_args : Int) + w_args) < 0
      · rw [leftOr_neg e3]
        go_wp2_with fail
        go_ret
        refine ⟨ret_int ?_, HB3.out⟩
        have := HW.out
        have := Hm1.out
        have := Hm2.out
        rw [← HRR.out, leftOr_neg (by omega)]
      · rw [leftOr_pos (by omega)]
        obtain ⟨M3, hm3⟩ : ∃ M, M2 - ((l_args : Int) + w_args) = M := ⟨_, rfl⟩
        rw [hm3]
        have hx3 : 0 ≤ M3 := by omega
        have hy3 : M3 ≤ 1048576 := by omega
        have Hm3 := Lib.hid hm3
        clear e3 hm3
        go_wp2_with fail
        go_ret
        refine ⟨ret_int ?_, HB3.out⟩
        have := HW.out
        have := Hm1.out
        have := Hm2.out
        have := Hm3.out
        rw [← HRR.out, leftOr_pos (by omega)]
        omega

/-- What copying leaves: the same in new memory. -/
def ToMachinePost (x : Ma) (w : World) (e : Ending) (w' : World) : Prop := ∃ (Rframes : Option Addr), ∃ (cframes : Nat), ∃ (Rstack : Option Addr), ∃ (cstack : Nat), ∃ (Rargs : Option Addr), ∃ (cargs : Nat), e = .returned (.agg #[.int .i64 x.status, .slice Rframes x.frames.length cframes, .slice Rstack x.stack.length cstack, .int .i64 x.imp, .slice Rargs x.args.length cargs, .int .i64 x.result, .int .i64 x.trap]) ∧ Ma.At w' w.heap.size x Rframes Rstack Rargs ∧ Below w.heap.size w w'
set_option maxRecDepth 100000 in
theorem toMachine_any (x : Ma) (hT : x.wt ≤ 1048576) (Rframes : Option Addr) (cframes : Nat) (Rstack : Option Addr) (cstack : Nat) (Rargs : Option Addr) (cargs : Nat) (lo : Nat) (w : World) (h : Ma.At w lo x Rframes Rstack Rargs) :
    Calls Try.prog 8 #[.agg #[.int .i64 x.status, .slice Rframes x.frames.length cframes, .slice Rstack x.stack.length cstack, .int .i64 x.imp, .slice Rargs x.args.length cargs, .int .i64 x.result, .int .i64 x.trap]] w (ToMachinePost x w) := by
  obtain ⟨q_frames, q_stack, q_args, _⟩ := Ma.parts_le hT
  obtain ⟨p_frames, p_stack, p_args⟩ := h
  have HP_frames := Lib.hid p_frames
  have HP_stack := Lib.hid p_stack
  have HP_args := Lib.hid p_args
  have C_frames : Hid (∀ W : World, Frs W lo x.frames Rframes → Calls Try.prog 27 #[.slice Rframes x.frames.length cframes] W fun e w' => ∃ (Rframes' : Option Addr), ∃ (cframes' : Nat), e = .returned (.slice Rframes' x.frames.length cframes') ∧ Frs w' W.heap.size x.frames Rframes' ∧ Below W.heap.size W w') := Lib.hid (fun W hW => toCoreFrameS_any x.frames (by have := Fr.wts_nonneg x.frames; omega) (fun i y hy => by have := Fr.wt_mem hy; omega) Rframes cframes lo W hW)
  have C_stack : Hid (∀ W : World, Ivs W lo x.stack Rstack → Calls Try.prog 28 #[.slice Rstack x.stack.length cstack] W fun e w' => ∃ (Rstack' : Option Addr), ∃ (cstack' : Nat), e = .returned (.slice Rstack' x.stack.length cstack') ∧ Ivs w' W.heap.size x.stack Rstack' ∧ Below W.heap.size W w') := Lib.hid (fun W hW => toInt64S_any x.stack (by have := Iv.wts_nonneg x.stack; omega) (fun i y hy => by have := Iv.wt_mem hy; omega) Rstack cstack lo W hW)
  have C_args : Hid (∀ W : World, Ivs W lo x.args Rargs → Calls Try.prog 28 #[.slice Rargs x.args.length cargs] W fun e w' => ∃ (Rargs' : Option Addr), ∃ (cargs' : Nat), e = .returned (.slice Rargs' x.args.length cargs') ∧ Ivs w' W.heap.size x.args Rargs' ∧ Below W.heap.size W w') := Lib.hid (fun W hW => toInt64S_any x.args (by have := Iv.wts_nonneg x.args; omega) (fun i y hy => by have := Iv.wt_mem hy; omega) Rargs cargs lo W hW)
  clear hT p_frames p_stack p_args q_frames q_stack q_args
  go_enter Try.func8, Try.ntmps8
  go_wp2_with fail
  go_at_call 27
  refine (C_frames.out _ (HP_frames.out.below (by (repeat (with_reducible refine Below.setCell ?_ (by first | (simp; done) | (simp; omega)) _)); exact below3 _ _ _ _))).mono ?_
  rintro e v1 ⟨Rframesz, cframesz, rfl, hp1, hb1⟩
  obtain ⟨hc1, hf1⟩ := bcell hb1
  have d1_0 := keepCell (a := ⟨w.heap.size + 1 + 1, 0, none⟩) (v := .int .i64 x.status) hb1 (by go_simp)
  have r1_0 := keepCell (a := ⟨w.heap.size + 1, 0, none⟩) (v := .int .i64 0) hb1 (by go_simp)
  have d1_1 := keepCell (a := ⟨w.heap.size + 1 + 1, 1, none⟩) (v := .slice none 0 0) hb1 (by go_simp)
  have r1_1 := keepCell (a := ⟨w.heap.size + 1, 1, none⟩) (v := .slice none 0 0) hb1 (by go_simp)
  have d1_2 := keepCell (a := ⟨w.heap.size + 1 + 1, 2, none⟩) (v := .slice none 0 0) hb1 (by go_simp)
  have r1_2 := keepCell (a := ⟨w.heap.size + 1, 2, none⟩) (v := .slice none 0 0) hb1 (by go_simp)
  have d1_3 := keepCell (a := ⟨w.heap.size + 1 + 1, 3, none⟩) (v := .int .i64 0) hb1 (by go_simp)
  have r1_3 := keepCell (a := ⟨w.heap.size + 1, 3, none⟩) (v := .int .i64 0) hb1 (by go_simp)
  have d1_4 := keepCell (a := ⟨w.heap.size + 1 + 1, 4, none⟩) (v := .slice none 0 0) hb1 (by go_simp)
  have r1_4 := keepCell (a := ⟨w.heap.size + 1, 4, none⟩) (v := .slice none 0 0) hb1 (by go_simp)
  have d1_5 := keepCell (a := ⟨w.heap.size + 1 + 1, 5, none⟩) (v := .int .i64 0) hb1 (by go_simp)
  have r1_5 := keepCell (a := ⟨w.heap.size + 1, 5, none⟩) (v := .int .i64 0) hb1 (by go_simp)
  have d1_6 := keepCell (a := ⟨w.heap.size + 1 + 1, 6, none⟩) (v := .int .i64 0) hb1 (by go_simp)
  have r1_6 := keepCell (a := ⟨w.heap.size + 1, 6, none⟩) (v := .int .i64 0) hb1 (by go_simp)
  have a1_2 := keepCell (a := ⟨w.heap.size, 2, none⟩) (v := .slice Rstack x.stack.length cstack) hb1 (by go_simp)
  have a1_3 := keepCell (a := ⟨w.heap.size, 3, none⟩) (v := .int .i64 x.imp) hb1 (by go_simp)
  have a1_4 := keepCell (a := ⟨w.heap.size, 4, none⟩) (v := .slice Rargs x.args.length cargs) hb1 (by go_simp)
  have a1_5 := keepCell (a := ⟨w.heap.size, 5, none⟩) (v := .int .i64 x.result) hb1 (by go_simp)
  have a1_6 := keepCell (a := ⟨w.heap.size, 6, none⟩) (v := .int .i64 x.trap) hb1 (by go_simp)
  have HB1 : Hid (Below w.heap.size w v1) := Lib.hid (bnext (by (repeat (with_reducible refine Below.setCell ?_ (by first | (simp; done) | (simp; omega)) _)); exact below3 _ _ _ _) hb1)
  have HS1 := Lib.hid hb1
  have hz1 : w.heap.size + 1 + 1 < v1.heap.size := (by have h9 := hb1.size; simp at h9; omega)
  have g1 : ∀ o, v1.frozen? ⟨w.heap.size + 1, o, none⟩ = false := (fun o => (hf1 _ _ (by first | (simp; done) | (simp; omega))).trans (by go_simp))
  have h1 : ∀ o, v1.frozen? ⟨w.heap.size + 1 + 1, o, none⟩ = false := (fun o => (hf1 _ _ (by first | (simp; done) | (simp; omega))).trans (by go_simp))
  have P1 := Lib.hid (hp1.low (lo' := w.heap.size + 1 + 1 + 1) (by first | (simp; done) | (simp; omega)))
  clear hp1 hb1 hc1 hf1
  go_wp2_with fail
  go_at_call 28
  refine (C_stack.out _ (HP_stack.out.below (by (repeat (with_reducible refine Below.setCell ?_ (by first | (simp; done) | (simp; omega)) _)); exact HB1.out))).mono ?_
  rintro e v2 ⟨Rstackz, cstackz, rfl, hp2, hb2⟩
  obtain ⟨hc2, hf2⟩ := bcell hb2
  have d2_0 := keepCell (a := ⟨w.heap.size + 1 + 1, 0, none⟩) (v := .int .i64 x.status) hb2 (by go_simp)
  have r2_0 := keepCell (a := ⟨w.heap.size + 1, 0, none⟩) (v := .int .i64 0) hb2 (by go_simp)
  have d2_1 := keepCell (a := ⟨w.heap.size + 1 + 1, 1, none⟩) (v := .slice Rframesz x.frames.length cframesz) hb2 (by go_simp)
  have r2_1 := keepCell (a := ⟨w.heap.size + 1, 1, none⟩) (v := .slice none 0 0) hb2 (by go_simp)
  have d2_2 := keepCell (a := ⟨w.heap.size + 1 + 1, 2, none⟩) (v := .slice none 0 0) hb2 (by go_simp)
  have r2_2 := keepCell (a := ⟨w.heap.size + 1, 2, none⟩) (v := .slice none 0 0) hb2 (by go_simp)
  have d2_3 := keepCell (a := ⟨w.heap.size + 1 + 1, 3, none⟩) (v := .int .i64 0) hb2 (by go_simp)
  have r2_3 := keepCell (a := ⟨w.heap.size + 1, 3, none⟩) (v := .int .i64 0) hb2 (by go_simp)
  have d2_4 := keepCell (a := ⟨w.heap.size + 1 + 1, 4, none⟩) (v := .slice none 0 0) hb2 (by go_simp)
  have r2_4 := keepCell (a := ⟨w.heap.size + 1, 4, none⟩) (v := .slice none 0 0) hb2 (by go_simp)
  have d2_5 := keepCell (a := ⟨w.heap.size + 1 + 1, 5, none⟩) (v := .int .i64 0) hb2 (by go_simp)
  have r2_5 := keepCell (a := ⟨w.heap.size + 1, 5, none⟩) (v := .int .i64 0) hb2 (by go_simp)
  have d2_6 := keepCell (a := ⟨w.heap.size + 1 + 1, 6, none⟩) (v := .int .i64 0) hb2 (by go_simp)
  have r2_6 := keepCell (a := ⟨w.heap.size + 1, 6, none⟩) (v := .int .i64 0) hb2 (by go_simp)
  have a2_3 := keepCell (a := ⟨w.heap.size, 3, none⟩) (v := .int .i64 x.imp) hb2 (by go_simp)
  have a2_4 := keepCell (a := ⟨w.heap.size, 4, none⟩) (v := .slice Rargs x.args.length cargs) hb2 (by go_simp)
  have a2_5 := keepCell (a := ⟨w.heap.size, 5, none⟩) (v := .int .i64 x.result) hb2 (by go_simp)
  have a2_6 := keepCell (a := ⟨w.heap.size, 6, none⟩) (v := .int .i64 x.trap) hb2 (by go_simp)
  have HB2 : Hid (Below w.heap.size w v2) := Lib.hid (bnext (by (repeat (with_reducible refine Below.setCell ?_ (by first | (simp; done) | (simp; omega)) _)); exact HB1.out) hb2)
  have HS2 := Lib.hid hb2
  have hz2 : w.heap.size + 1 + 1 < v2.heap.size := (by have h9 := hb2.size; simp at h9; omega)
  have g2 : ∀ o, v2.frozen? ⟨w.heap.size + 1, o, none⟩ = false := (fun o => (hf2 _ _ (by first | (simp; done) | (simp; omega))).trans (by go_simp))
  have h2 : ∀ o, v2.frozen? ⟨w.heap.size + 1 + 1, o, none⟩ = false := (fun o => (hf2 _ _ (by first | (simp; done) | (simp; omega))).trans (by go_simp))
  have P2 := Lib.hid (hp2.low (lo' := w.heap.size + 1 + 1 + 1) (by first | (simp; done) | (simp; omega)))
  clear hp2 hb2 hc2 hf2 d1_0 r1_0 d1_1 r1_1 d1_2 r1_2 d1_3 r1_3 d1_4 r1_4 d1_5 r1_5 d1_6 r1_6 a1_2 a1_3 a1_4 a1_5 a1_6 g1 h1
  go_wp2_with fail
  go_at_call 28
  refine (C_args.out _ (HP_args.out.below (by (repeat (with_reducible refine Below.setCell ?_ (by first | (simp; done) | (simp; omega)) _)); exact HB2.out))).mono ?_
  rintro e v3 ⟨Rargsz, cargsz, rfl, hp3, hb3⟩
  obtain ⟨hc3, hf3⟩ := bcell hb3
  have d3_0 := keepCell (a := ⟨w.heap.size + 1 + 1, 0, none⟩) (v := .int .i64 x.status) hb3 (by go_simp)
  have r3_0 := keepCell (a := ⟨w.heap.size + 1, 0, none⟩) (v := .int .i64 0) hb3 (by go_simp)
  have d3_1 := keepCell (a := ⟨w.heap.size + 1 + 1, 1, none⟩) (v := .slice Rframesz x.frames.length cframesz) hb3 (by go_simp)
  have r3_1 := keepCell (a := ⟨w.heap.size + 1, 1, none⟩) (v := .slice none 0 0) hb3 (by go_simp)
  have d3_2 := keepCell (a := ⟨w.heap.size + 1 + 1, 2, none⟩) (v := .slice Rstackz x.stack.length cstackz) hb3 (by go_simp)
  have r3_2 := keepCell (a := ⟨w.heap.size + 1, 2, none⟩) (v := .slice none 0 0) hb3 (by go_simp)
  have d3_3 := keepCell (a := ⟨w.heap.size + 1 + 1, 3, none⟩) (v := .int .i64 x.imp) hb3 (by go_simp)
  have r3_3 := keepCell (a := ⟨w.heap.size + 1, 3, none⟩) (v := .int .i64 0) hb3 (by go_simp)
  have d3_4 := keepCell (a := ⟨w.heap.size + 1 + 1, 4, none⟩) (v := .slice none 0 0) hb3 (by go_simp)
  have r3_4 := keepCell (a := ⟨w.heap.size + 1, 4, none⟩) (v := .slice none 0 0) hb3 (by go_simp)
  have d3_5 := keepCell (a := ⟨w.heap.size + 1 + 1, 5, none⟩) (v := .int .i64 0) hb3 (by go_simp)
  have r3_5 := keepCell (a := ⟨w.heap.size + 1, 5, none⟩) (v := .int .i64 0) hb3 (by go_simp)
  have d3_6 := keepCell (a := ⟨w.heap.size + 1 + 1, 6, none⟩) (v := .int .i64 0) hb3 (by go_simp)
  have r3_6 := keepCell (a := ⟨w.heap.size + 1, 6, none⟩) (v := .int .i64 0) hb3 (by go_simp)
  have a3_5 := keepCell (a := ⟨w.heap.size, 5, none⟩) (v := .int .i64 x.result) hb3 (by go_simp)
  have a3_6 := keepCell (a := ⟨w.heap.size, 6, none⟩) (v := .int .i64 x.trap) hb3 (by go_simp)
  have HB3 : Hid (Below w.heap.size w v3) := Lib.hid (bnext (by (repeat (with_reducible refine Below.setCell ?_ (by first | (simp; done) | (simp; omega)) _)); exact HB2.out) hb3)
  have HS3 := Lib.hid hb3
  have hz3 : w.heap.size + 1 + 1 < v3.heap.size := (by have h9 := hb3.size; simp at h9; omega)
  have g3 : ∀ o, v3.frozen? ⟨w.heap.size + 1, o, none⟩ = false := (fun o => (hf3 _ _ (by first | (simp; done) | (simp; omega))).trans (by go_simp))
  have h3 : ∀ o, v3.frozen? ⟨w.heap.size + 1 + 1, o, none⟩ = false := (fun o => (hf3 _ _ (by first | (simp; done) | (simp; omega))).trans (by go_simp))
  have P3 := Lib.hid (hp3.low (lo' := w.heap.size + 1 + 1 + 1) (by first | (simp; done) | (simp; omega)))
  clear hp3 hb3 hc3 hf3 d2_0 r2_0 d2_1 r2_1 d2_2 r2_2 d2_3 r2_3 d2_4 r2_4 d2_5 r2_5 d2_6 r2_6 a2_3 a2_4 a2_5 a2_6 g2 h2
  go_wp2_with fail
  have kk := sets_in (((v3.setCell ⟨w.heap.size + 1 + 1, 4, none⟩ (.slice Rargsz x.args.length cargsz)).setCell ⟨w.heap.size + 1 + 1, 5, none⟩ (.int .i64 x.result)).setCell ⟨w.heap.size + 1 + 1, 6, none⟩ (.int .i64 x.trap)) (w.heap.size + 1) [.int .i64 x.status, .slice Rframesz x.frames.length cframesz, .slice Rstackz x.stack.length cstackz, .int .i64 x.imp, .slice Rargsz x.args.length cargsz, .int .i64 x.result, .int .i64 x.trap] (fun j hj => by
    have h4 : j = 0 ∨ j = 1 ∨ j = 2 ∨ j = 3 ∨ j = 4 ∨ j = 5 ∨ j = 6 := by simp at hj; omega
    rcases h4 with rfl | rfl | rfl | rfl | rfl | rfl | rfl <;> simp [World.cell?_setCell_other, r3_0, r3_1, r3_2, r3_3, r3_4, r3_5, r3_6])
  have k0 : ((((((((((v3.setCell ⟨w.heap.size + 1 + 1, 4, none⟩ (.slice Rargsz x.args.length cargsz)).setCell ⟨w.heap.size + 1 + 1, 5, none⟩ (.int .i64 x.result)).setCell ⟨w.heap.size + 1 + 1, 6, none⟩ (.int .i64 x.trap)).setCell ⟨w.heap.size + 1, 0, none⟩ (.int .i64 x.status)).setCell ⟨w.heap.size + 1, 1, none⟩ (.slice Rframesz x.frames.length cframesz)).setCell ⟨w.heap.size + 1, 2, none⟩ (.slice Rstackz x.stack.length cstackz)).setCell ⟨w.heap.size + 1, 3, none⟩ (.int .i64 x.imp)).setCell ⟨w.heap.size + 1, 4, none⟩ (.slice Rargsz x.args.length cargsz)).setCell ⟨w.heap.size + 1, 5, none⟩ (.int .i64 x.result)).setCell ⟨w.heap.size + 1, 6, none⟩ (.int .i64 x.trap)).cell? ⟨w.heap.size + 1, 0, none⟩ = some (.int .i64 x.status) := kk 0 (by simp)
  have k1 : ((((((((((v3.setCell ⟨w.heap.size + 1 + 1, 4, none⟩ (.slice Rargsz x.args.length cargsz)).setCell ⟨w.heap.size + 1 + 1, 5, none⟩ (.int .i64 x.result)).setCell ⟨w.heap.size + 1 + 1, 6, none⟩ (.int .i64 x.trap)).setCell ⟨w.heap.size + 1, 0, none⟩ (.int .i64 x.status)).setCell ⟨w.heap.size + 1, 1, none⟩ (.slice Rframesz x.frames.length cframesz)).setCell ⟨w.heap.size + 1, 2, none⟩ (.slice Rstackz x.stack.length cstackz)).setCell ⟨w.heap.size + 1, 3, none⟩ (.int .i64 x.imp)).setCell ⟨w.heap.size + 1, 4, none⟩ (.slice Rargsz x.args.length cargsz)).setCell ⟨w.heap.size + 1, 5, none⟩ (.int .i64 x.result)).setCell ⟨w.heap.size + 1, 6, none⟩ (.int .i64 x.trap)).cell? ⟨w.heap.size + 1, 1, none⟩ = some (.slice Rframesz x.frames.length cframesz) := kk 1 (by simp)
  have k2 : ((((((((((v3.setCell ⟨w.heap.size + 1 + 1, 4, none⟩ (.slice Rargsz x.args.length cargsz)).setCell ⟨w.heap.size + 1 + 1, 5, none⟩ (.int .i64 x.result)).setCell ⟨w.heap.size + 1 + 1, 6, none⟩ (.int .i64 x.trap)).setCell ⟨w.heap.size + 1, 0, none⟩ (.int .i64 x.status)).setCell ⟨w.heap.size + 1, 1, none⟩ (.slice Rframesz x.frames.length cframesz)).setCell ⟨w.heap.size + 1, 2, none⟩ (.slice Rstackz x.stack.length cstackz)).setCell ⟨w.heap.size + 1, 3, none⟩ (.int .i64 x.imp)).setCell ⟨w.heap.size + 1, 4, none⟩ (.slice Rargsz x.args.length cargsz)).setCell ⟨w.heap.size + 1, 5, none⟩ (.int .i64 x.result)).setCell ⟨w.heap.size + 1, 6, none⟩ (.int .i64 x.trap)).cell? ⟨w.heap.size + 1, 2, none⟩ = some (.slice Rstackz x.stack.length cstackz) := kk 2 (by simp)
  have k3 : ((((((((((v3.setCell ⟨w.heap.size + 1 + 1, 4, none⟩ (.slice Rargsz x.args.length cargsz)).setCell ⟨w.heap.size + 1 + 1, 5, none⟩ (.int .i64 x.result)).setCell ⟨w.heap.size + 1 + 1, 6, none⟩ (.int .i64 x.trap)).setCell ⟨w.heap.size + 1, 0, none⟩ (.int .i64 x.status)).setCell ⟨w.heap.size + 1, 1, none⟩ (.slice Rframesz x.frames.length cframesz)).setCell ⟨w.heap.size + 1, 2, none⟩ (.slice Rstackz x.stack.length cstackz)).setCell ⟨w.heap.size + 1, 3, none⟩ (.int .i64 x.imp)).setCell ⟨w.heap.size + 1, 4, none⟩ (.slice Rargsz x.args.length cargsz)).setCell ⟨w.heap.size + 1, 5, none⟩ (.int .i64 x.result)).setCell ⟨w.heap.size + 1, 6, none⟩ (.int .i64 x.trap)).cell? ⟨w.heap.size + 1, 3, none⟩ = some (.int .i64 x.imp) := kk 3 (by simp)
  have k4 : ((((((((((v3.setCell ⟨w.heap.size + 1 + 1, 4, none⟩ (.slice Rargsz x.args.length cargsz)).setCell ⟨w.heap.size + 1 + 1, 5, none⟩ (.int .i64 x.result)).setCell ⟨w.heap.size + 1 + 1, 6, none⟩ (.int .i64 x.trap)).setCell ⟨w.heap.size + 1, 0, none⟩ (.int .i64 x.status)).setCell ⟨w.heap.size + 1, 1, none⟩ (.slice Rframesz x.frames.length cframesz)).setCell ⟨w.heap.size + 1, 2, none⟩ (.slice Rstackz x.stack.length cstackz)).setCell ⟨w.heap.size + 1, 3, none⟩ (.int .i64 x.imp)).setCell ⟨w.heap.size + 1, 4, none⟩ (.slice Rargsz x.args.length cargsz)).setCell ⟨w.heap.size + 1, 5, none⟩ (.int .i64 x.result)).setCell ⟨w.heap.size + 1, 6, none⟩ (.int .i64 x.trap)).cell? ⟨w.heap.size + 1, 4, none⟩ = some (.slice Rargsz x.args.length cargsz) := kk 4 (by simp)
  have k5 : ((((((((((v3.setCell ⟨w.heap.size + 1 + 1, 4, none⟩ (.slice Rargsz x.args.length cargsz)).setCell ⟨w.heap.size + 1 + 1, 5, none⟩ (.int .i64 x.result)).setCell ⟨w.heap.size + 1 + 1, 6, none⟩ (.int .i64 x.trap)).setCell ⟨w.heap.size + 1, 0, none⟩ (.int .i64 x.status)).setCell ⟨w.heap.size + 1, 1, none⟩ (.slice Rframesz x.frames.length cframesz)).setCell ⟨w.heap.size + 1, 2, none⟩ (.slice Rstackz x.stack.length cstackz)).setCell ⟨w.heap.size + 1, 3, none⟩ (.int .i64 x.imp)).setCell ⟨w.heap.size + 1, 4, none⟩ (.slice Rargsz x.args.length cargsz)).setCell ⟨w.heap.size + 1, 5, none⟩ (.int .i64 x.result)).setCell ⟨w.heap.size + 1, 6, none⟩ (.int .i64 x.trap)).cell? ⟨w.heap.size + 1, 5, none⟩ = some (.int .i64 x.result) := kk 5 (by simp)
  have k6 : ((((((((((v3.setCell ⟨w.heap.size + 1 + 1, 4, none⟩ (.slice Rargsz x.args.length cargsz)).setCell ⟨w.heap.size + 1 + 1, 5, none⟩ (.int .i64 x.result)).setCell ⟨w.heap.size + 1 + 1, 6, none⟩ (.int .i64 x.trap)).setCell ⟨w.heap.size + 1, 0, none⟩ (.int .i64 x.status)).setCell ⟨w.heap.size + 1, 1, none⟩ (.slice Rframesz x.frames.length cframesz)).setCell ⟨w.heap.size + 1, 2, none⟩ (.slice Rstackz x.stack.length cstackz)).setCell ⟨w.heap.size + 1, 3, none⟩ (.int .i64 x.imp)).setCell ⟨w.heap.size + 1, 4, none⟩ (.slice Rargsz x.args.length cargsz)).setCell ⟨w.heap.size + 1, 5, none⟩ (.int .i64 x.result)).setCell ⟨w.heap.size + 1, 6, none⟩ (.int .i64 x.trap)).cell? ⟨w.heap.size + 1, 6, none⟩ = some (.int .i64 x.trap) := kk 6 (by simp)
  clear kk
  refine bodyPost_ret (v := .agg #[.int .i64 x.status, .slice Rframesz x.frames.length cframesz, .slice Rstackz x.stack.length cstackz, .int .i64 x.imp, .slice Rargsz x.args.length cargsz, .int .i64 x.result, .int .i64 x.trap]) (by simp [results, Try.results8, go_sem, k0, k1, k2, k3, k4, k5, k6]) rfl ?_
  refine ⟨_, _, _, _, _, _, rfl, ?_, ?_⟩
  · refine ⟨?_, ?_, ?_⟩
    · refine Frs.low (lo := w.heap.size + 1 + 1 + 1) ?_ (by omega)
      (repeat (with_reducible refine Frs.keep ?_ (KeptFrom.setCell (by first | (simp; done) | (simp; omega)) _)))
      refine Frs.below ?_ HS3.out
      (repeat (with_reducible refine Frs.keep ?_ (KeptFrom.setCell (by first | (simp; done) | (simp; omega)) _)))
      refine Frs.below ?_ HS2.out
      (repeat (with_reducible refine Frs.keep ?_ (KeptFrom.setCell (by first | (simp; done) | (simp; omega)) _)))
      exact P1.out
    · refine Ivs.low (lo := w.heap.size + 1 + 1 + 1) ?_ (by omega)
      (repeat (with_reducible refine Ivs.keep ?_ (KeptFrom.setCell (by first | (simp; done) | (simp; omega)) _)))
      refine Ivs.below ?_ HS3.out
      (repeat (with_reducible refine Ivs.keep ?_ (KeptFrom.setCell (by first | (simp; done) | (simp; omega)) _)))
      exact P2.out
    · refine Ivs.low (lo := w.heap.size + 1 + 1 + 1) ?_ (by omega)
      (repeat (with_reducible refine Ivs.keep ?_ (KeptFrom.setCell (by first | (simp; done) | (simp; omega)) _)))
      exact P3.out
  · (repeat (with_reducible refine Below.setCell ?_ (by first | (simp; done) | (simp; omega)) _))
    exact HB3.out

theorem eqMachine_any (x : Ma) (hT : x.wt ≤ 1048576) (Rframes : Option Addr) (cframes : Nat) (Rstack : Option Addr) (cstack : Nat) (Rargs : Option Addr) (cargs : Nat) (Rframes' : Option Addr) (cframes' : Nat) (Rstack' : Option Addr) (cstack' : Nat) (Rargs' : Option Addr) (cargs' : Nat) (lo lo' : Nat) (w : World) (h : Ma.At w lo x Rframes Rstack Rargs) (h' : Ma.At w lo' x Rframes' Rstack' Rargs') :
    Calls Try.prog 10 #[.agg #[.int .i64 x.status, .slice Rframes x.frames.length cframes, .slice Rstack x.stack.length cstack, .int .i64 x.imp, .slice Rargs x.args.length cargs, .int .i64 x.result, .int .i64 x.trap], .agg #[.int .i64 x.status, .slice Rframes' x.frames.length cframes', .slice Rstack' x.stack.length cstack', .int .i64 x.imp, .slice Rargs' x.args.length cargs', .int .i64 x.result, .int .i64 x.trap]] w fun e w' => e = .returned (.bool true) ∧ Below w.heap.size w w' := by
  obtain ⟨q_frames, q_stack, q_args, _⟩ := Ma.parts_le hT
  obtain ⟨p_frames, p_stack, p_args⟩ := h
  obtain ⟨pp_frames, pp_stack, pp_args⟩ := h'
  have HP_frames := Lib.hid p_frames
  have HQ_frames := Lib.hid pp_frames
  have HP_stack := Lib.hid p_stack
  have HQ_stack := Lib.hid pp_stack
  have HP_args := Lib.hid p_args
  have HQ_args := Lib.hid pp_args
  have C_frames : Hid (∀ W : World, Frs W lo x.frames Rframes → Frs W lo' x.frames Rframes' → Calls Try.prog 32 #[.slice Rframes x.frames.length cframes, .slice Rframes' x.frames.length cframes'] W fun e w' => e = .returned (.bool true) ∧ Below W.heap.size W w') := Lib.hid (fun W h1 h2 => eqCoreFrameS_any x.frames (by have := Fr.wts_nonneg x.frames; omega) (fun i y hy => by have := Fr.wt_mem hy; omega) Rframes Rframes' cframes cframes' lo lo' W h1 h2)
  have C_stack : Hid (∀ W : World, Ivs W lo x.stack Rstack → Ivs W lo' x.stack Rstack' → Calls Try.prog 33 #[.slice Rstack x.stack.length cstack, .slice Rstack' x.stack.length cstack'] W fun e w' => e = .returned (.bool true) ∧ Below W.heap.size W w') := Lib.hid (fun W h1 h2 => eqInt64S_any x.stack (by have := Iv.wts_nonneg x.stack; omega) (fun i y hy => by have := Iv.wt_mem hy; omega) Rstack Rstack' cstack cstack' lo lo' W h1 h2)
  have C_args : Hid (∀ W : World, Ivs W lo x.args Rargs → Ivs W lo' x.args Rargs' → Calls Try.prog 33 #[.slice Rargs x.args.length cargs, .slice Rargs' x.args.length cargs'] W fun e w' => e = .returned (.bool true) ∧ Below W.heap.size W w') := Lib.hid (fun W h1 h2 => eqInt64S_any x.args (by have := Iv.wts_nonneg x.args; omega) (fun i y hy => by have := Iv.wt_mem hy; omega) Rargs Rargs' cargs cargs' lo lo' W h1 h2)
  clear hT p_frames pp_frames p_stack pp_stack p_args pp_args q_frames q_stack q_args
  go_enter Try.func10, Try.ntmps10
  go_wp2_with fail
  go_at_call 32
  refine (C_frames.out _ (HP_frames.out.below (below2 _ _ _)) (HQ_frames.out.below (below2 _ _ _))).mono ?_
  rintro e v1 ⟨rfl, hb1⟩
  have a1_2 := keepCell (a := ⟨w.heap.size, 2, none⟩) (v := .slice Rstack x.stack.length cstack) hb1 (by go_simp)
  have b1_2 := keepCell (a := ⟨w.heap.size + 1, 2, none⟩) (v := .slice Rstack' x.stack.length cstack') hb1 (by go_simp)
  have a1_3 := keepCell (a := ⟨w.heap.size, 3, none⟩) (v := .int .i64 x.imp) hb1 (by go_simp)
  have b1_3 := keepCell (a := ⟨w.heap.size + 1, 3, none⟩) (v := .int .i64 x.imp) hb1 (by go_simp)
  have a1_4 := keepCell (a := ⟨w.heap.size, 4, none⟩) (v := .slice Rargs x.args.length cargs) hb1 (by go_simp)
  have b1_4 := keepCell (a := ⟨w.heap.size + 1, 4, none⟩) (v := .slice Rargs' x.args.length cargs') hb1 (by go_simp)
  have a1_5 := keepCell (a := ⟨w.heap.size, 5, none⟩) (v := .int .i64 x.result) hb1 (by go_simp)
  have b1_5 := keepCell (a := ⟨w.heap.size + 1, 5, none⟩) (v := .int .i64 x.result) hb1 (by go_simp)
  have a1_6 := keepCell (a := ⟨w.heap.size, 6, none⟩) (v := .int .i64 x.trap) hb1 (by go_simp)
  have b1_6 := keepCell (a := ⟨w.heap.size + 1, 6, none⟩) (v := .int .i64 x.trap) hb1 (by go_simp)
  have HB1 := Lib.hid (bnext (below2 _ _ _) hb1)
  clear hb1
  go_wp2_with fail
  go_at_call 33
  refine (C_stack.out _ (HP_stack.out.below (HB1.out)) (HQ_stack.out.below (HB1.out))).mono ?_
  rintro e v2 ⟨rfl, hb2⟩
  have a2_3 := keepCell (a := ⟨w.heap.size, 3, none⟩) (v := .int .i64 x.imp) hb2 (by go_simp)
  have b2_3 := keepCell (a := ⟨w.heap.size + 1, 3, none⟩) (v := .int .i64 x.imp) hb2 (by go_simp)
  have a2_4 := keepCell (a := ⟨w.heap.size, 4, none⟩) (v := .slice Rargs x.args.length cargs) hb2 (by go_simp)
  have b2_4 := keepCell (a := ⟨w.heap.size + 1, 4, none⟩) (v := .slice Rargs' x.args.length cargs') hb2 (by go_simp)
  have a2_5 := keepCell (a := ⟨w.heap.size, 5, none⟩) (v := .int .i64 x.result) hb2 (by go_simp)
  have b2_5 := keepCell (a := ⟨w.heap.size + 1, 5, none⟩) (v := .int .i64 x.result) hb2 (by go_simp)
  have a2_6 := keepCell (a := ⟨w.heap.size, 6, none⟩) (v := .int .i64 x.trap) hb2 (by go_simp)
  have b2_6 := keepCell (a := ⟨w.heap.size + 1, 6, none⟩) (v := .int .i64 x.trap) hb2 (by go_simp)
  have HB2 := Lib.hid (bnext (HB1.out) hb2)
  clear hb2
  go_wp2_with fail
  go_at_call 33
  refine (C_args.out _ (HP_args.out.below (HB2.out)) (HQ_args.out.below (HB2.out))).mono ?_
  rintro e v3 ⟨rfl, hb3⟩
  have a3_5 := keepCell (a := ⟨w.heap.size, 5, none⟩) (v := .int .i64 x.result) hb3 (by go_simp)
  have b3_5 := keepCell (a := ⟨w.heap.size + 1, 5, none⟩) (v := .int .i64 x.result) hb3 (by go_simp)
  have a3_6 := keepCell (a := ⟨w.heap.size, 6, none⟩) (v := .int .i64 x.trap) hb3 (by go_simp)
  have b3_6 := keepCell (a := ⟨w.heap.size + 1, 6, none⟩) (v := .int .i64 x.trap) hb3 (by go_simp)
  have HB3 := Lib.hid (bnext (HB2.out) hb3)
  clear hb3
  go_wp2_with fail
  go_ret
  exact ⟨rfl, HB3.out⟩
end Go.Proofs.Ytbjcldekapipaaa
