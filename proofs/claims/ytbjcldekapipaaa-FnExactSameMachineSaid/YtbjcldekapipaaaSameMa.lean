/-
  The walk of the program's SameMachine.
-/
import Derived.Test.YtbjcldekapipaaaSameMaF
namespace Go.Proofs.Ytbjcldekapipaaa
open Go.ChangeShapes Go.WideShapes Go.ChangeAt Go.RowKit Go.Deep

theorem Ma.ext_iff' (x y : Ma) : x = y ↔ (x.status = y.status ∧ x.frames = y.frames ∧ x.stack = y.stack ∧ x.imp = y.imp ∧ x.args = y.args ∧ x.result = y.result ∧ x.trap = y.trap) := by
  cases x
  cases y
  simp
set_option maxHeartbeats 4000000 in
set_option maxRecDepth 100000 in
theorem implSameMachine_any (x y : Ma) (hx : x.wt ≤ 1048576) (Rframes : Option Addr) (cframes : Nat) (Rstack : Option Addr) (cstack : Nat) (Rargs : Option Addr) (cargs : Nat) (Rframes' : Option Addr) (cframes' : Nat) (Rstack' : Option Addr) (cstack' : Nat) (Rargs' : Option Addr) (cargs' : Nat) (lo lo' : Nat) (w : World) (h : Ma.At w lo x Rframes Rstack Rargs) (h' : Ma.At w lo' y Rframes' Rstack' Rargs') :
    Calls Try.prog 9 #[.agg #[.int .i64 x.status, .slice Rframes x.frames.length cframes, .slice Rstack x.stack.length cstack, .int .i64 x.imp, .slice Rargs x.args.length cargs, .int .i64 x.result, .int .i64 x.trap], .agg #[.int .i64 y.status, .slice Rframes' y.frames.length cframes', .slice Rstack' y.stack.length cstack', .int .i64 y.imp, .slice Rargs' y.args.length cargs', .int .i64 y.result, .int .i64 y.trap]] w (SaysA (x = y) w) := by
  obtain ⟨q_frames, q_stack, q_args, _⟩ := Ma.parts_le hx
  have := Fr.wts_nonneg x.frames
  have := Iv.wts_nonneg x.stack
  have := Iv.wts_nonneg x.args
  have C_frames := (fun W (a : Frs W lo x.frames Rframes) (b : Frs W lo' y.frames Rframes') => eqfFr_any x.frames y.frames (by omega) (fun i p hp => by have := Fr.wt_mem hp; omega) Rframes Rframes' cframes cframes' lo lo' W a b)
  have C_stack := (fun W (a : Ivs W lo x.stack Rstack) (b : Ivs W lo' y.stack Rstack') => equalIvs_any x.stack y.stack (by omega) Rstack Rstack' cstack cstack' lo lo' W a b)
  have C_args := (fun W (a : Ivs W lo x.args Rargs) (b : Ivs W lo' y.args Rargs') => equalIvs_any x.args y.args (by omega) Rargs Rargs' cargs cargs' lo lo' W a b)
  obtain ⟨h_frames, h_stack, h_args⟩ := h
  obtain ⟨h'_frames, h'_stack, h'_args⟩ := h'
  have H_frames := Lib.hid h_frames
  have H'_frames := Lib.hid h'_frames
  have H_stack := Lib.hid h_stack
  have H'_stack := Lib.hid h'_stack
  have H_args := Lib.hid h_args
  have H'_args := Lib.hid h'_args
  have HT := Lib.hid (Ma.ext_iff' x y)
  generalize hTT : (x = y) = T at *
  clear hTT h_frames h_stack h_args h'_frames h'_stack h'_args hx
  by_cases h0 : x.status = y.status
  · have e0 : (x.status == y.status) = true := by rw [beq_iff_eq, h0]
    have H0 := Lib.hid h0
    clear h0
    by_cases h1 : x.frames = y.frames
    · have D_frames := Lib.hid (fun W a b => (C_frames W a b).mono fun _ _ j => j.yes h1)
      have H1 := Lib.hid h1
      clear h1 C_frames
      by_cases h2 : x.stack = y.stack
      · have D_stack := Lib.hid (fun W a b => (C_stack W a b).mono fun _ _ j => j.yes h2)
        have H2 := Lib.hid h2
        clear h2 C_stack
        by_cases h3 : x.imp = y.imp
        · have e3 : (x.imp == y.imp) = true := by rw [beq_iff_eq, h3]
          have H3 := Lib.hid h3
          clear h3
          by_cases h4 : x.args = y.args
          · have D_args := Lib.hid (fun W a b => (C_args W a b).mono fun _ _ j => j.yes h4)
            have H4 := Lib.hid h4
            clear h4 C_args
            by_cases h5 : x.result = y.result
            · have e5 : (x.result == y.result) = true := by rw [beq_iff_eq, h5]
              have H5 := Lib.hid h5
              clear h5
              by_cases h6 : x.trap = y.trap
              · have e6 : (x.trap == y.trap) = true := by rw [beq_iff_eq, h6]
                have H6 := Lib.hid h6
                clear h6
                have HE : Hid T := Lib.hid (HT.out.mpr ⟨H0.out, H1.out, H2.out, H3.out, H4.out, H5.out, H6.out⟩)
                go_enter Try.func9, Try.ntmps9
                go_wp2_with fail
                go_at_call 29
                refine (D_frames.out _ (Frs.below H_frames.out (below2 _ _ _)) (Frs.below H'_frames.out (below2 _ _ _))).mono ?_
                rintro e w2 ⟨rfl, hb2⟩
                have k02 := keepCell (a := ⟨w.heap.size, 2, none⟩) (v := .slice Rstack x.stack.length cstack) hb2 (by go_simp)
                have k12 := keepCell (a := ⟨w.heap.size + 1, 2, none⟩) (v := .slice Rstack' y.stack.length cstack') hb2 (by go_simp)
                have k03 := keepCell (a := ⟨w.heap.size, 3, none⟩) (v := .int .i64 x.imp) hb2 (by go_simp)
                have k13 := keepCell (a := ⟨w.heap.size + 1, 3, none⟩) (v := .int .i64 y.imp) hb2 (by go_simp)
                have k04 := keepCell (a := ⟨w.heap.size, 4, none⟩) (v := .slice Rargs x.args.length cargs) hb2 (by go_simp)
                have k14 := keepCell (a := ⟨w.heap.size + 1, 4, none⟩) (v := .slice Rargs' y.args.length cargs') hb2 (by go_simp)
                have k05 := keepCell (a := ⟨w.heap.size, 5, none⟩) (v := .int .i64 x.result) hb2 (by go_simp)
                have k15 := keepCell (a := ⟨w.heap.size + 1, 5, none⟩) (v := .int .i64 y.result) hb2 (by go_simp)
                have k06 := keepCell (a := ⟨w.heap.size, 6, none⟩) (v := .int .i64 x.trap) hb2 (by go_simp)
                have k16 := keepCell (a := ⟨w.heap.size + 1, 6, none⟩) (v := .int .i64 y.trap) hb2 (by go_simp)
                have HB2 := Lib.hid (bnext (below2 _ _ _) hb2)
                clear hb2
                go_wp2_with fail
                go_at_call 31
                refine (D_stack.out _ (Ivs.below H_stack.out (HB2.out)) (Ivs.below H'_stack.out (HB2.out))).mono ?_
                rintro e w3 ⟨rfl, hb3⟩
                replace k03 := keepCell hb3 k03
                replace k13 := keepCell hb3 k13
                replace k04 := keepCell hb3 k04
                replace k14 := keepCell hb3 k14
                replace k05 := keepCell hb3 k05
                replace k15 := keepCell hb3 k15
                replace k06 := keepCell hb3 k06
                replace k16 := keepCell hb3 k16
                have HB3 := Lib.hid (bnext (HB2.out) hb3)
                clear hb3
                go_wp2_with fail
                go_at_call 31
                refine (D_args.out _ (Ivs.below H_args.out (HB3.out)) (Ivs.below H'_args.out (HB3.out))).mono ?_
                rintro e w4 ⟨rfl, hb4⟩
                replace k05 := keepCell hb4 k05
                replace k15 := keepCell hb4 k15
                replace k06 := keepCell hb4 k06
                replace k16 := keepCell hb4 k16
                have HB4 := Lib.hid (bnext (HB3.out) hb4)
                clear hb4
                go_wp2_with fail
                go_ret
                exact ⟨true, rfl, iffA_T HE.out, HB4.out⟩
              · have e6 : (x.trap == y.trap) = false := beq_eq_false_iff_ne.mpr h6
                have HF : Hid (¬ T) := Lib.hid (fun hh => h6 (HT.out.mp hh).2.2.2.2.2.2)
                clear h6
                go_enter Try.func9, Try.ntmps9
                go_wp2_with fail
                go_at_call 29
                refine (D_frames.out _ (Frs.below H_frames.out (below2 _ _ _)) (Frs.below H'_frames.out (below2 _ _ _))).mono ?_
                rintro e w2 ⟨rfl, hb2⟩
                have k02 := keepCell (a := ⟨w.heap.size, 2, none⟩) (v := .slice Rstack x.stack.length cstack) hb2 (by go_simp)
                have k12 := keepCell (a := ⟨w.heap.size + 1, 2, none⟩) (v := .slice Rstack' y.stack.length cstack') hb2 (by go_simp)
                have k03 := keepCell (a := ⟨w.heap.size, 3, none⟩) (v := .int .i64 x.imp) hb2 (by go_simp)
                have k13 := keepCell (a := ⟨w.heap.size + 1, 3, none⟩) (v := .int .i64 y.imp) hb2 (by go_simp)
                have k04 := keepCell (a := ⟨w.heap.size, 4, none⟩) (v := .slice Rargs x.args.length cargs) hb2 (by go_simp)
                have k14 := keepCell (a := ⟨w.heap.size + 1, 4, none⟩) (v := .slice Rargs' y.args.length cargs') hb2 (by go_simp)
                have k05 := keepCell (a := ⟨w.heap.size, 5, none⟩) (v := .int .i64 x.result) hb2 (by go_simp)
                have k15 := keepCell (a := ⟨w.heap.size + 1, 5, none⟩) (v := .int .i64 y.result) hb2 (by go_simp)
                have k06 := keepCell (a := ⟨w.heap.size, 6, none⟩) (v := .int .i64 x.trap) hb2 (by go_simp)
                have k16 := keepCell (a := ⟨w.heap.size + 1, 6, none⟩) (v := .int .i64 y.trap) hb2 (by go_simp)
                have HB2 := Lib.hid (bnext (below2 _ _ _) hb2)
                clear hb2
                go_wp2_with fail
                go_at_call 31
                refine (D_stack.out _ (Ivs.below H_stack.out (HB2.out)) (Ivs.below H'_stack.out (HB2.out))).mono ?_
                rintro e w3 ⟨rfl, hb3⟩
                replace k03 := keepCell hb3 k03
                replace k13 := keepCell hb3 k13
                replace k04 := keepCell hb3 k04
                replace k14 := keepCell hb3 k14
                replace k05 := keepCell hb3 k05
                replace k15 := keepCell hb3 k15
                replace k06 := keepCell hb3 k06
                replace k16 := keepCell hb3 k16
                have HB3 := Lib.hid (bnext (HB2.out) hb3)
                clear hb3
                go_wp2_with fail
                go_at_call 31
                refine (D_args.out _ (Ivs.below H_args.out (HB3.out)) (Ivs.below H'_args.out (HB3.out))).mono ?_
                rintro e w4 ⟨rfl, hb4⟩
                replace k05 := keepCell hb4 k05
                replace k15 := keepCell hb4 k15
                replace k06 := keepCell hb4 k06
                replace k16 := keepCell hb4 k16
                have HB4 := Lib.hid (bnext (HB3.out) hb4)
                clear hb4
                go_wp2_with fail
                go_ret
                exact ⟨false, rfl, iffA_F HF.out, HB4.out⟩
            · have e5 : (x.result == y.result) = false := beq_eq_false_iff_ne.mpr h5
              have HF : Hid (¬ T) := Lib.hid (fun hh => h5 (HT.out.mp hh).2.2.2.2.2.1)
              clear h5
              go_enter Try.func9, Try.ntmps9
              go_wp2_with fail
              go_at_call 29
              refine (D_frames.out _ (Frs.below H_frames.out (below2 _ _ _)) (Frs.below H'_frames.out (below2 _ _ _))).mono ?_
              rintro e w2 ⟨rfl, hb2⟩
              have k02 := keepCell (a := ⟨w.heap.size, 2, none⟩) (v := .slice Rstack x.stack.length cstack) hb2 (by go_simp)
              have k12 := keepCell (a := ⟨w.heap.size + 1, 2, none⟩) (v := .slice Rstack' y.stack.length cstack') hb2 (by go_simp)
              have k03 := keepCell (a := ⟨w.heap.size, 3, none⟩) (v := .int .i64 x.imp) hb2 (by go_simp)
              have k13 := keepCell (a := ⟨w.heap.size + 1, 3, none⟩) (v := .int .i64 y.imp) hb2 (by go_simp)
              have k04 := keepCell (a := ⟨w.heap.size, 4, none⟩) (v := .slice Rargs x.args.length cargs) hb2 (by go_simp)
              have k14 := keepCell (a := ⟨w.heap.size + 1, 4, none⟩) (v := .slice Rargs' y.args.length cargs') hb2 (by go_simp)
              have k05 := keepCell (a := ⟨w.heap.size, 5, none⟩) (v := .int .i64 x.result) hb2 (by go_simp)
              have k15 := keepCell (a := ⟨w.heap.size + 1, 5, none⟩) (v := .int .i64 y.result) hb2 (by go_simp)
              have k06 := keepCell (a := ⟨w.heap.size, 6, none⟩) (v := .int .i64 x.trap) hb2 (by go_simp)
              have k16 := keepCell (a := ⟨w.heap.size + 1, 6, none⟩) (v := .int .i64 y.trap) hb2 (by go_simp)
              have HB2 := Lib.hid (bnext (below2 _ _ _) hb2)
              clear hb2
              go_wp2_with fail
              go_at_call 31
              refine (D_stack.out _ (Ivs.below H_stack.out (HB2.out)) (Ivs.below H'_stack.out (HB2.out))).mono ?_
              rintro e w3 ⟨rfl, hb3⟩
              replace k03 := keepCell hb3 k03
              replace k13 := keepCell hb3 k13
              replace k04 := keepCell hb3 k04
              replace k14 := keepCell hb3 k14
              replace k05 := keepCell hb3 k05
              replace k15 := keepCell hb3 k15
              replace k06 := keepCell hb3 k06
              replace k16 := keepCell hb3 k16
              have HB3 := Lib.hid (bnext (HB2.out) hb3)
              clear hb3
              go_wp2_with fail
              go_at_call 31
              refine (D_args.out _ (Ivs.below H_args.out (HB3.out)) (Ivs.below H'_args.out (HB3.out))).mono ?_
              rintro e w4 ⟨rfl, hb4⟩
              replace k05 := keepCell hb4 k05
              replace k15 := keepCell hb4 k15
              replace k06 := keepCell hb4 k06
              replace k16 := keepCell hb4 k16
              have HB4 := Lib.hid (bnext (HB3.out) hb4)
              clear hb4
              go_wp2_with fail
              go_ret
              exact ⟨false, rfl, iffA_F HF.out, HB4.out⟩
          · have D_args := Lib.hid (fun W a b => (C_args W a b).mono fun _ _ j => j.no h4)
            have HF : Hid (¬ T) := Lib.hid (fun hh => h4 (HT.out.mp hh).2.2.2.2.1)
            clear h4 C_args
            go_enter Try.func9, Try.ntmps9
            go_wp2_with fail
            go_at_call 29
            refine (D_frames.out _ (Frs.below H_frames.out (below2 _ _ _)) (Frs.below H'_frames.out (below2 _ _ _))).mono ?_
            rintro e w2 ⟨rfl, hb2⟩
            have k02 := keepCell (a := ⟨w.heap.size, 2, none⟩) (v := .slice Rstack x.stack.length cstack) hb2 (by go_simp)
            have k12 := keepCell (a := ⟨w.heap.size + 1, 2, none⟩) (v := .slice Rstack' y.stack.length cstack') hb2 (by go_simp)
            have k03 := keepCell (a := ⟨w.heap.size, 3, none⟩) (v := .int .i64 x.imp) hb2 (by go_simp)
            have k13 := keepCell (a := ⟨w.heap.size + 1, 3, none⟩) (v := .int .i64 y.imp) hb2 (by go_simp)
            have k04 := keepCell (a := ⟨w.heap.size, 4, none⟩) (v := .slice Rargs x.args.length cargs) hb2 (by go_simp)
            have k14 := keepCell (a := ⟨w.heap.size + 1, 4, none⟩) (v := .slice Rargs' y.args.length cargs') hb2 (by go_simp)
            have k05 := keepCell (a := ⟨w.heap.size, 5, none⟩) (v := .int .i64 x.result) hb2 (by go_simp)
            have k15 := keepCell (a := ⟨w.heap.size + 1, 5, none⟩) (v := .int .i64 y.result) hb2 (by go_simp)
            have k06 := keepCell (a := ⟨w.heap.size, 6, none⟩) (v := .int .i64 x.trap) hb2 (by go_simp)
            have k16 := keepCell (a := ⟨w.heap.size + 1, 6, none⟩) (v := .int .i64 y.trap) hb2 (by go_simp)
            have HB2 := Lib.hid (bnext (below2 _ _ _) hb2)
            clear hb2
            go_wp2_with fail
            go_at_call 31
            refine (D_stack.out _ (Ivs.below H_stack.out (HB2.out)) (Ivs.below H'_stack.out (HB2.out))).mono ?_
            rintro e w3 ⟨rfl, hb3⟩
            replace k03 := keepCell hb3 k03
            replace k13 := keepCell hb3 k13
            replace k04 := keepCell hb3 k04
            replace k14 := keepCell hb3 k14
            replace k05 := keepCell hb3 k05
            replace k15 := keepCell hb3 k15
            replace k06 := keepCell hb3 k06
            replace k16 := keepCell hb3 k16
            have HB3 := Lib.hid (bnext (HB2.out) hb3)
            clear hb3
            go_wp2_with fail
            go_at_call 31
            refine (D_args.out _ (Ivs.below H_args.out (HB3.out)) (Ivs.below H'_args.out (HB3.out))).mono ?_
            rintro e w4 ⟨rfl, hb4⟩
            replace k05 := keepCell hb4 k05
            replace k15 := keepCell hb4 k15
            replace k06 := keepCell hb4 k06
            replace k16 := keepCell hb4 k16
            have HB4 := Lib.hid (bnext (HB3.out) hb4)
            clear hb4
            go_wp2_with fail
            go_ret
            exact ⟨false, rfl, iffA_F HF.out, HB4.out⟩
        · have e3 : (x.imp == y.imp) = false := beq_eq_false_iff_ne.mpr h3
          have HF : Hid (¬ T) := Lib.hid (fun hh => h3 (HT.out.mp hh).2.2.2.1)
          clear h3 C_args
          go_enter Try.func9, Try.ntmps9
          go_wp2_with fail
          go_at_call 29
          refine (D_frames.out _ (Frs.below H_frames.out (below2 _ _ _)) (Frs.below H'_frames.out (below2 _ _ _))).mono ?_
          rintro e w2 ⟨rfl, hb2⟩
          have k02 := keepCell (a := ⟨w.heap.size, 2, none⟩) (v := .slice Rstack x.stack.length cstack) hb2 (by go_simp)
          have k12 := keepCell (a := ⟨w.heap.size + 1, 2, none⟩) (v := .slice Rstack' y.stack.length cstack') hb2 (by go_simp)
          have k03 := keepCell (a := ⟨w.heap.size, 3, none⟩) (v := .int .i64 x.imp) hb2 (by go_simp)
          have k13 := keepCell (a := ⟨w.heap.size + 1, 3, none⟩) (v := .int .i64 y.imp) hb2 (by go_simp)
          have k04 := keepCell (a := ⟨w.heap.size, 4, none⟩) (v := .slice Rargs x.args.length cargs) hb2 (by go_simp)
          have k14 := keepCell (a := ⟨w.heap.size + 1, 4, none⟩) (v := .slice Rargs' y.args.length cargs') hb2 (by go_simp)
          have k05 := keepCell (a := ⟨w.heap.size, 5, none⟩) (v := .int .i64 x.result) hb2 (by go_simp)
          have k15 := keepCell (a := ⟨w.heap.size + 1, 5, none⟩) (v := .int .i64 y.result) hb2 (by go_simp)
          have k06 := keepCell (a := ⟨w.heap.size, 6, none⟩) (v := .int .i64 x.trap) hb2 (by go_simp)
          have k16 := keepCell (a := ⟨w.heap.size + 1, 6, none⟩) (v := .int .i64 y.trap) hb2 (by go_simp)
          have HB2 := Lib.hid (bnext (below2 _ _ _) hb2)
          clear hb2
          go_wp2_with fail
          go_at_call 31
          refine (D_stack.out _ (Ivs.below H_stack.out (HB2.out)) (Ivs.below H'_stack.out (HB2.out))).mono ?_
          rintro e w3 ⟨rfl, hb3⟩
          replace k03 := keepCell hb3 k03
          replace k13 := keepCell hb3 k13
          replace k04 := keepCell hb3 k04
          replace k14 := keepCell hb3 k14
          replace k05 := keepCell hb3 k05
          replace k15 := keepCell hb3 k15
          replace k06 := keepCell hb3 k06
          replace k16 := keepCell hb3 k16
          have HB3 := Lib.hid (bnext (HB2.out) hb3)
          clear hb3
          go_wp2_with fail
          go_ret
          exact ⟨false, rfl, iffA_F HF.out, HB3.out⟩
      · have D_stack := Lib.hid (fun W a b => (C_stack W a b).mono fun _ _ j => j.no h2)
        have HF : Hid (¬ T) := Lib.hid (fun hh => h2 (HT.out.mp hh).2.2.1)
        clear h2 C_stack C_args
        go_enter Try.func9, Try.ntmps9
        go_wp2_with fail
        go_at_call 29
        refine (D_frames.out _ (Frs.below H_frames.out (below2 _ _ _)) (Frs.below H'_frames.out (below2 _ _ _))).mono ?_
        rintro e w2 ⟨rfl, hb2⟩
        have k02 := keepCell (a := ⟨w.heap.size, 2, none⟩) (v := .slice Rstack x.stack.length cstack) hb2 (by go_simp)
        have k12 := keepCell (a := ⟨w.heap.size + 1, 2, none⟩) (v := .slice Rstack' y.stack.length cstack') hb2 (by go_simp)
        have k03 := keepCell (a := ⟨w.heap.size, 3, none⟩) (v := .int .i64 x.imp) hb2 (by go_simp)
        have k13 := keepCell (a := ⟨w.heap.size + 1, 3, none⟩) (v := .int .i64 y.imp) hb2 (by go_simp)
        have k04 := keepCell (a := ⟨w.heap.size, 4, none⟩) (v := .slice Rargs x.args.length cargs) hb2 (by go_simp)
        have k14 := keepCell (a := ⟨w.heap.size + 1, 4, none⟩) (v := .slice Rargs' y.args.length cargs') hb2 (by go_simp)
        have k05 := keepCell (a := ⟨w.heap.size, 5, none⟩) (v := .int .i64 x.result) hb2 (by go_simp)
        have k15 := keepCell (a := ⟨w.heap.size + 1, 5, none⟩) (v := .int .i64 y.result) hb2 (by go_simp)
        have k06 := keepCell (a := ⟨w.heap.size, 6, none⟩) (v := .int .i64 x.trap) hb2 (by go_simp)
        have k16 := keepCell (a := ⟨w.heap.size + 1, 6, none⟩) (v := .int .i64 y.trap) hb2 (by go_simp)
        have HB2 := Lib.hid (bnext (below2 _ _ _) hb2)
        clear hb2
        go_wp2_with fail
        go_at_call 31
        refine (D_stack.out _ (Ivs.below H_stack.out (HB2.out)) (Ivs.below H'_stack.out (HB2.out))).mono ?_
        rintro e w3 ⟨rfl, hb3⟩
        replace k03 := keepCell hb3 k03
        replace k13 := keepCell hb3 k13
        replace k04 := keepCell hb3 k04
        replace k14 := keepCell hb3 k14
        replace k05 := keepCell hb3 k05
        replace k15 := keepCell hb3 k15
        replace k06 := keepCell hb3 k06
        replace k16 := keepCell hb3 k16
        have HB3 := Lib.hid (bnext (HB2.out) hb3)
        clear hb3
        go_wp2_with fail
        go_ret
        exact ⟨false, rfl, iffA_F HF.out, HB3.out⟩
    · have D_frames := Lib.hid (fun W a b => (C_frames W a b).mono fun _ _ j => j.no h1)
      have HF : Hid (¬ T) := Lib.hid (fun hh => h1 (HT.out.mp hh).2.1)
      clear h1 C_frames C_stack C_args
      go_enter Try.func9, Try.ntmps9
      go_wp2_with fail
      go_at_call 29
      refine (D_frames.out _ (Frs.below H_frames.out (below2 _ _ _)) (Frs.below H'_frames.out (below2 _ _ _))).mono ?_
      rintro e w2 ⟨rfl, hb2⟩
      have k02 := keepCell (a := ⟨w.heap.size, 2, none⟩) (v := .slice Rstack x.stack.length cstack) hb2 (by go_simp)
      have k12 := keepCell (a := ⟨w.heap.size + 1, 2, none⟩) (v := .slice Rstack' y.stack.length cstack') hb2 (by go_simp)
      have k03 := keepCell (a := ⟨w.heap.size, 3, none⟩) (v := .int .i64 x.imp) hb2 (by go_simp)
      have k13 := keepCell (a := ⟨w.heap.size + 1, 3, none⟩) (v := .int .i64 y.imp) hb2 (by go_simp)
      have k04 := keepCell (a := ⟨w.heap.size, 4, none⟩) (v := .slice Rargs x.args.length cargs) hb2 (by go_simp)
      have k14 := keepCell (a := ⟨w.heap.size + 1, 4, none⟩) (v := .slice Rargs' y.args.length cargs') hb2 (by go_simp)
      have k05 := keepCell (a := ⟨w.heap.size, 5, none⟩) (v := .int .i64 x.result) hb2 (by go_simp)
      have k15 := keepCell (a := ⟨w.heap.size + 1, 5, none⟩) (v := .int .i64 y.result) hb2 (by go_simp)
      have k06 := keepCell (a := ⟨w.heap.size, 6, none⟩) (v := .int .i64 x.trap) hb2 (by go_simp)
      have k16 := keepCell (a := ⟨w.heap.size + 1, 6, none⟩) (v := .int .i64 y.trap) hb2 (by go_simp)
      have HB2 := Lib.hid (bnext (below2 _ _ _) hb2)
      clear hb2
      go_wp2_with fail
      go_ret
      exact ⟨false, rfl, iffA_F HF.out, HB2.out⟩
  · have e0 : (x.status == y.status) = false := beq_eq_false_iff_ne.mpr h0
    have HF : Hid (¬ T) := Lib.hid (fun hh => h0 (HT.out.mp hh).1)
    clear h0 C_frames C_stack C_args
    go_enter Try.func9, Try.ntmps9
    go_wp2_with fail
    go_ret
    exact ⟨false, rfl, iffA_F HF.out, below2 _ _ _⟩
end Go.Proofs.Ytbjcldekapipaaa
