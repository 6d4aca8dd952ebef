/-
  The walk of the model's SameMachine.
-/
import Derived.Test.YtbjcldekapipaaaSameMa
import Derived.Deep.RegionHeld3
namespace Go.Proofs.Ytbjcldekapipaaa
open Go.ChangeShapes Go.WideShapes Go.ChangeAt Go.RowKit Go.Deep

set_option maxHeartbeats 4000000 in
set_option maxRecDepth 100000 in
theorem specSameMachine_any (x y : Ma) (hx : x.wt ≤ 1048576) (Rframes : Option Addr) (cframes : Nat) (Rstack : Option Addr) (cstack : Nat) (Rargs : Option Addr) (cargs : Nat) (Rframes' : Option Addr) (cframes' : Nat) (Rstack' : Option Addr) (cstack' : Nat) (Rargs' : Option Addr) (cargs' : Nat) (lo lo' : Nat) (w : World) (h : Ma.At w lo x Rframes Rstack Rargs) (h' : Ma.At w lo' y Rframes' Rstack' Rargs') :
    Calls Try.prog 7 #[.agg #[.int .i64 x.status, .slice Rframes x.frames.length cframes, .slice Rstack x.stack.length cstack, .int .i64 x.imp, .slice Rargs x.args.length cargs, .int .i64 x.result, .int .i64 x.trap], .agg #[.int .i64 y.status, .slice Rframes' y.frames.length cframes', .slice Rstack' y.stack.length cstack', .int .i64 y.imp, .slice Rargs' y.args.length cargs', .int .i64 y.result, .int .i64 y.trap]] w (SaysA (x = y) w) := by
  obtain ⟨q_frames, q_stack, q_args, _⟩ := Ma.parts_le hx
  have := Fr.wts_nonneg x.frames
  have := Iv.wts_nonneg x.stack
  have := Iv.wts_nonneg x.args
  have hfl : x.frames.length ≤ 1048576 := by omega
  have HWF : Hid (∀ (i : Nat) (p : Fr), x.frames[i]? = some p → p.wt ≤ 1048576) := Lib.hid (fun i p hp => by have := Fr.wt_mem hp; omega)
  have C_stack := (fun W (a : Ivs W lo x.stack Rstack) (b : Ivs W lo' y.stack Rstack') => l00Same_any x.stack y.stack (by omega) Rstack Rstack' cstack cstack' lo lo' W a b)
  have C_args := (fun W (a : Ivs W lo x.args Rargs) (b : Ivs W lo' y.args Rargs') => l00Same_any x.args y.args (by omega) Rargs Rargs' cargs cargs' lo lo' W a b)
  obtain ⟨h_frames, h_stack, h_args⟩ := h
  obtain ⟨h'_frames, h'_stack, h'_args⟩ := h'
  have H_frames := Lib.hid h_frames
  have H'_frames := Lib.hid h'_frames
  have H_stack := Lib.hid h_stack
  have H'_stack := Lib.hid h'_stack
  have H_args := Lib.hid h_args
  have H'_args := Lib.hid h'_args
  have HT := Lib.hid (Ma.ext_iff' x y)
  generalize hTT : (x = y) = T at *
  clear hTT h_frames h_stack h_args h'_frames h'_stack h'_args hx q_frames q_stack q_args
  by_cases h0 : x.status = y.status
  · have e0 : (x.status == y.status) = true := by rw [beq_iff_eq, h0]
    have e0b : (x.status != y.status) = false := by rw [bne_eq_false_iff_eq, h0]
    have H0 := Lib.hid h0
    clear h0
    by_cases h1 : x.frames.length = y.frames.length
    · have e1 : ((x.frames.length : Int) == (y.frames.length : Int)) = true := by rw [beq_iff_eq]; omega
      have e1b : ((x.frames.length : Int) != (y.frames.length : Int)) = false := by rw [bne_eq_false_iff_eq]; omega
      have H1 := Lib.hid h1
      clear h1
      by_cases h2 : x.stack = y.stack
      · have D_stack := Lib.hid (fun W a b => (C_stack W a b).mono fun _ _ j => j.yes h2)
        have H2 := Lib.hid h2
        clear h2 C_stack
        by_cases h3 : x.imp = y.imp
        · have e3 : (x.imp == y.imp) = true := by rw [beq_iff_eq, h3]
          have e3b : (x.imp != y.imp) = false := by rw [bne_eq_false_iff_eq, h3]
          have H3 := Lib.hid h3
          clear h3
          by_cases h4 : x.args = y.args
          · have D_args := Lib.hid (fun W a b => (C_args W a b).mono fun _ _ j => j.yes h4)
            have H4 := Lib.hid h4
            clear h4 C_args
            by_cases h5 : x.result = y.result
            · have e5 : (x.result == y.result) = true := by rw [beq_iff_eq, h5]
              have e5b : (x.result != y.result) = false := by rw [bne_eq_false_iff_eq, h5]
              have H5 := Lib.hid h5
              clear h5
              by_cases h6 : x.trap = y.trap
              · have e6 : (x.trap == y.trap) = true := by rw [beq_iff_eq, h6]
                have e6b : (x.trap != y.trap) = false := by rw [bne_eq_false_iff_eq, h6]
                have H6 := Lib.hid h6
                clear h6
                go_enter Try.func7, Try.ntmps7
                go_wp2_with fail
                go_at_call 26
                refine (D_stack.out _ (Ivs.below H_stack.out (below2 _ _ _)) (Ivs.below H'_stack.out (below2 _ _ _))).mono ?_
                rintro e w2 ⟨rfl, hb2⟩
                have k01 := keepCell (a := ⟨w.heap.size, 1, none⟩) (v := .slice Rframes x.frames.length cframes) hb2 (by go_simp)
                have k11 := keepCell (a := ⟨w.heap.size + 1, 1, none⟩) (v := .slice Rframes' y.frames.length cframes') hb2 (by go_simp)
                have k03 := keepCell (a := ⟨w.heap.size, 3, none⟩) (v := .int .i64 x.imp) hb2 (by go_simp)
                have k13 := keepCell (a := ⟨w.heap.size + 1, 3, none⟩) (v := .int .i64 y.imp) hb2 (by go_simp)
                have k04 := keepCell (a := ⟨w.heap.size, 4, none⟩) (v := .slice Rargs x.args.length cargs) hb2 (by go_simp)
                have k14 := keepCell (a := ⟨w.heap.size + 1, 4, none⟩) (v := .slice Rargs' y.args.length cargs') hb2 (by go_simp)
                have k05 := keepCell (a := ⟨w.heap.size, 5, none⟩) (v := .int .i64 x.result) hb2 (by go_simp)
                have k15 := keepCell (a := ⟨w.heap.size + 1, 5, none⟩) (v := .int .i64 y.result) hb2 (by go_simp)
                have k06 := keepCell (a := ⟨w.heap.size, 6, none⟩) (v := .int .i64 x.trap) hb2 (by go_simp)
                have k16 := keepCell (a := ⟨w.heap.size + 1, 6, none⟩) (v := .int .i64 y.trap) hb2 (by go_simp)
                have HB2 := Lib.hid (bnext (below2 _ _ _) hb2)
                clear hb2
                go_wp2_with fail
                go_at_call 26
                refine (D_args.out _ (Ivs.below H_args.out (HB2.out)) (Ivs.below H'_args.out (HB2.out))).mono ?_
                rintro e w3 ⟨rfl, hb3⟩
                replace k01 := keepCell hb3 k01
                replace k11 := keepCell hb3 k11
                replace k05 := keepCell hb3 k05
                replace k15 := keepCell hb3 k15
                replace k06 := keepCell hb3 k06
                replace k16 := keepCell hb3 k16
                have HB3 := Lib.hid (bnext (HB2.out) hb3)
                clear hb3
                go_wp2_with fail
                clear e0 e0b e1 e1b e3 e3b e5 e5b e6 e6b
                have hb0 := HB3.out
                go_loopw [5] (fun i wr => ∃ k : Nat, k ≤ x.frames.length ∧ i = .int .i64 k ∧ Hid (∀ i, i < k → x.frames[i]? = y.frames[i]?) ∧ wr.cell? ⟨w.heap.size, 1, none⟩ = some (.slice Rframes x.frames.length cframes) ∧ wr.cell? ⟨w.heap.size + 1, 1, none⟩ = some (.slice Rframes' y.frames.length cframes') ∧ Below w.heap.size w wr) (fun i _ => x.frames.length - (intOf i).toNat)
                case atStart => exact ⟨0, Nat.zero_le _, rfl, fun i hi => by omega, k01, k11, hb0⟩
                case round =>
                  clear hb0 HB3 k01 k11
                  obtain ⟨k, hk, rfl, hM, ka, kb, hbel⟩ := hrel
                  by_cases hlt : k < x.frames.length
                  · obtain ⟨b, o, p, R1, cc1, rfl, _, hpk, hc⟩ := (Frs.below H_frames.out hbel).at_ hlt
                    obtain ⟨b', o', q, R2, cc2, rfl, _, hqk, hd⟩ := (Frs.below H'_frames.out hbel).at_ (k := k) (by have := H1.out; omega)
                    have hpw := HWF.out k p hpk
                    have HA1 := Lib.hid hc.at_
                    have HA2 := Lib.hid hd.at_
                    obtain ⟨c0, c1, c2, c3, _⟩ := hc
                    obtain ⟨d0, d1, d2, d3, _⟩ := hd
                    have HY := Lib.hid hpk
                    have HZ := Lib.hid hqk
                    have HB := Lib.hid hbel
                    have hli : (k : Int) < (x.frames.length : Int) := by omega
                    have hly : (k : Int) < (y.frames.length : Int) := by have := H1.out; omega
                    clear hpk hqk hbel
                    have nka := World.new_ne wr _ ka
                    have nkb := World.new_ne wr _ kb
                    have nc0 := World.new_ne wr _ c0
                    have nc1 := World.new_ne wr _ c1
                    have nc2 := World.new_ne wr _ c2
                    have nc3 := World.new_ne wr _ c3
                    have nd0 := World.new_ne wr _ d0
                    have nd1 := World.new_ne wr _ d1
                    have nd2 := World.new_ne wr _ d2
                    have nd3 := World.new_ne wr _ d3
                    by_cases g0 : p.core = q.core
                    · have f0 : (p.core == q.core) = true := by rw [beq_iff_eq, g0]
                      have f0b : (p.core != q.core) = false := by rw [bne_eq_false_iff_eq, g0]
                      have G0 := Lib.hid g0
                      clear g0
                      by_cases g1 : p.pc = q.pc
                      · have f1 : (p.pc == q.pc) = true := by rw [beq_iff_eq, g1]
                        have f1b : (p.pc != q.pc) = false := by rw [bne_eq_false_iff_eq, g1]
                        have G1 := Lib.hid g1
                        clear g1
                        by_cases g2 : p.base = q.base
                        · have f2 : (p.base == q.base) = true := by rw [beq_iff_eq, g2]
                          have f2b : (p.base != q.base) = false := by rw [bne_eq_false_iff_eq, g2]
                          have G2 := Lib.hid g2
                          clear g2
                          have C9 := (fun W (a : Ivs W lo p.locals R1) (b : Ivs W lo' q.locals R2) => l00Same_any p.locals q.locals (by have := Fr.parts_le hpw; have := Iv.wts_nonneg p.locals; omega) R1 R2 cc1 cc2 lo lo' W a b)
                          by_cases g3 : p.locals = q.locals
                          · have CL := Lib.hid (fun W a b => (C9 W a b).mono fun _ _ j => j.yes g3)
                            have HE : Hid (p = q) := Lib.hid ((Fr.ext_iff' p q).mpr ⟨G0.out, G1.out, G2.out, g3⟩)
                            clear g3 C9
                            go_wp2_with fail
                            go_region_held3 (fun w' => w'.cell? ⟨w.heap.size, 1, none⟩ = some (.slice (some ⟨b, o, none⟩) x.frames.length cframes) ∧ w'.cell? ⟨w.heap.size + 1, 1, none⟩ = some (.slice (some ⟨b', o', none⟩) y.frames.length cframes') ∧ w'.cell? ⟨b, o + k * 4, none⟩ = some (.int .i64 p.core) ∧ w'.cell? ⟨b, o + k * 4 + 1, none⟩ = some (.int .i64 p.pc) ∧ w'.cell? ⟨b, o + k * 4 + 2, none⟩ = some (.int .i64 p.base) ∧ w'.cell? ⟨b, o + k * 4 + 3, none⟩ = some (.slice R1 p.locals.length cc1) ∧ w'.cell? ⟨b', o' + k * 4, none⟩ = some (.int .i64 q.core) ∧ w'.cell? ⟨b', o' + k * 4 + 1, none⟩ = some (.int .i64 q.pc) ∧ w'.cell? ⟨b', o' + k * 4 + 2, none⟩ = some (.int .i64 q.base) ∧ w'.cell? ⟨b', o' + k * 4 + 3, none⟩ = some (.slice R2 q.locals.length cc2)) (go_keep) (fail)
                            all_goals
                              go_wp2_with fail
                              go_at_call 26
                              refine (CL.out _ (Ivs.below HA1.out (below2 _ _ _).drew) (Ivs.below HA2.out (below2 _ _ _).drew)).mono ?_
                              rintro e w9 ⟨rfl, hb9⟩
                              have B9 := bnext (below2 wr _ _).drew hb9
                              have u0 := keepCell B9 ka
                              have u1 := keepCell B9 kb
                              have HB9 := Lib.hid (bnext HB.out B9)
                              clear hb9 B9
                              go_wp2_with fail
                              go_roundw
                              case rel => exact ⟨k + 1, by omega, by go_num, fun i hi => by
                                by_cases e : i = k
                                · rw [e, HY.out, HZ.out, HE.out]
                                · exact hM.out i (by omega), u0, u1, HB9.out⟩
                              case measure => simp [intOf]; omega
                          · have CL := Lib.hid (fun W a b => (C9 W a b).mono fun _ _ j => j.no g3)
                            have HN : Hid (¬ T) := Lib.hid (fun e => by
                              have e2 := HY.out
                              rw [(HT.out.mp e).2.1, HZ.out] at e2
                              cases e2
                              exact g3 rfl)
                            clear g3 C9
                            go_wp2_with fail
                            go_region_held3 (fun w' => w'.cell? ⟨w.heap.size, 1, none⟩ = some (.slice (some ⟨b, o, none⟩) x.frames.length cframes) ∧ w'.cell? ⟨w.heap.size + 1, 1, none⟩ = some (.slice (some ⟨b', o', none⟩) y.frames.length cframes') ∧ w'.cell? ⟨b, o + k * 4, none⟩ = some (.int .i64 p.core) ∧ w'.cell? ⟨b, o + k * 4 + 1, none⟩ = some (.int .i64 p.pc) ∧ w'.cell? ⟨b, o + k * 4 + 2, none⟩ = some (.int .i64 p.base) ∧ w'.cell? ⟨b, o + k * 4 + 3, none⟩ = some (.slice R1 p.locals.length cc1) ∧ w'.cell? ⟨b', o' + k * 4, none⟩ = some (.int .i64 q.core) ∧ w'.cell? ⟨b', o' + k * 4 + 1, none⟩ = some (.int .i64 q.pc) ∧ w'.cell? ⟨b', o' + k * 4 + 2, none⟩ = some (.int .i64 q.base) ∧ w'.cell? ⟨b', o' + k * 4 + 3, none⟩ = some (.slice R2 q.locals.length cc2)) (go_keep) (fail)
                            all_goals
                              go_wp2_with fail
                              go_at_call 26
                              refine (CL.out _ (Ivs.below HA1.out (below2 _ _ _).drew) (Ivs.below HA2.out (below2 _ _ _).drew)).mono ?_
                              rintro e w9 ⟨rfl, hb9⟩
                              have B9 := bnext (below2 wr _ _).drew hb9
                              have HB9 := Lib.hid (bnext HB.out B9)
                              clear hb9 B9
                              go_wp2_with fail
                              go_ret
                              exact ⟨false, rfl, iffA_F HN.out, HB9.out⟩
                        · have f2 : (p.base == q.base) = false := beq_eq_false_iff_ne.mpr g2
                          have f2b : (p.base != q.base) = true := bne_iff_ne.mpr g2
                          have HN : Hid (¬ T) := Lib.hid (fun e => by
                            have e2 := HY.out
                            rw [(HT.out.mp e).2.1, HZ.out] at e2
                            cases e2
                            exact g2 rfl)
                          clear g2
                          go_wp2_with fail
                          go_region_held3 (fun w' => w'.cell? ⟨w.heap.size, 1, none⟩ = some (.slice (some ⟨b, o, none⟩) x.frames.length cframes) ∧ w'.cell? ⟨w.heap.size + 1, 1, none⟩ = some (.slice (some ⟨b', o', none⟩) y.frames.length cframes') ∧ w'.cell? ⟨b, o + k * 4, none⟩ = some (.int .i64 p.core) ∧ w'.cell? ⟨b, o + k * 4 + 1, none⟩ = some (.int .i64 p.pc) ∧ w'.cell? ⟨b, o + k * 4 + 2, none⟩ = some (.int .i64 p.base) ∧ w'.cell? ⟨b, o + k * 4 + 3, none⟩ = some (.slice R1 p.locals.length cc1) ∧ w'.cell? ⟨b', o' + k * 4, none⟩ = some (.int .i64 q.core) ∧ w'.cell? ⟨b', o' + k * 4 + 1, none⟩ = some (.int .i64 q.pc) ∧ w'.cell? ⟨b', o' + k * 4 + 2, none⟩ = some (.int .i64 q.base) ∧ w'.cell? ⟨b', o' + k * 4 + 3, none⟩ = some (.slice R2 q.locals.length cc2)) (go_keep) (fail)
                          all_goals
                            go_wp2_with fail
                            go_ret
                            exact ⟨false, rfl, iffA_F HN.out, bnext HB.out (by first | exact below2 _ _ _ | exact (below2 _ _ _).drew | assumption)⟩
                      · have f1 : (p.pc == q.pc) = false := beq_eq_false_iff_ne.mpr g1
                        have f1b : (p.pc != q.pc) = true := bne_iff_ne.mpr g1
                        have HN : Hid (¬ T) := Lib.hid (fun e => by
                          have e2 := HY.out
                          rw [(HT.out.mp e).2.1, HZ.out] at e2
                          cases e2
                          exact g1 rfl)
                        clear g1
                        go_wp2_with fail
                        go_region_held3 (fun w' => w'.cell? ⟨w.heap.size, 1, none⟩ = some (.slice (some ⟨b, o, none⟩) x.frames.length cframes) ∧ w'.cell? ⟨w.heap.size + 1, 1, none⟩ = some (.slice (some ⟨b', o', none⟩) y.frames.length cframes') ∧ w'.cell? ⟨b, o + k * 4, none⟩ = some (.int .i64 p.core) ∧ w'.cell? ⟨b, o + k * 4 + 1, none⟩ = some (.int .i64 p.pc) ∧ w'.cell? ⟨b, o + k * 4 + 2, none⟩ = some (.int .i64 p.base) ∧ w'.cell? ⟨b, o + k * 4 + 3, none⟩ = some (.slice R1 p.locals.length cc1) ∧ w'.cell? ⟨b', o' + k * 4, none⟩ = some (.int .i64 q.core) ∧ w'.cell? ⟨b', o' + k * 4 + 1, none⟩ = some (.int .i64 q.pc) ∧ w'.cell? ⟨b', o' + k * 4 + 2, none⟩ = some (.int .i64 q.base) ∧ w'.cell? ⟨b', o' + k * 4 + 3, none⟩ = some (.slice R2 q.locals.length cc2)) (go_keep) (fail)
                        all_goals
                          go_wp2_with fail
                          go_ret
                          exact ⟨false, rfl, iffA_F HN.out, bnext HB.out (by first | exact below2 _ _ _ | exact (below2 _ _ _).drew | assumption)⟩
                    · have f0 : (p.core == q.core) = false := beq_eq_false_iff_ne.mpr g0
                      have f0b : (p.core != q.core) = true := bne_iff_ne.mpr g0
                      have HN : Hid (¬ T) := Lib.hid (fun e => by
                        have e2 := HY.out
                        rw [(HT.out.mp e).2.1, HZ.out] at e2
                        cases e2
                        exact g0 rfl)
                      clear g0
                      go_wp2_with fail
                      go_region_held3 (fun w' => w'.cell? ⟨w.heap.size, 1, none⟩ = some (.slice (some ⟨b, o, none⟩) x.frames.length cframes) ∧ w'.cell? ⟨w.heap.size + 1, 1, none⟩ = some (.slice (some ⟨b', o', none⟩) y.frames.length cframes') ∧ w'.cell? ⟨b, o + k * 4, none⟩ = some (.int .i64 p.core) ∧ w'.cell? ⟨b, o + k * 4 + 1, none⟩ = some (.int .i64 p.pc) ∧ w'.cell? ⟨b, o + k * 4 + 2, none⟩ = some (.int .i64 p.base) ∧ w'.cell? ⟨b, o + k * 4 + 3, none⟩ = some (.slice R1 p.locals.length cc1) ∧ w'.cell? ⟨b', o' + k * 4, none⟩ = some (.int .i64 q.core) ∧ w'.cell? ⟨b', o' + k * 4 + 1, none⟩ = some (.int .i64 q.pc) ∧ w'.cell? ⟨b', o' + k * 4 + 2, none⟩ = some (.int .i64 q.base) ∧ w'.cell? ⟨b', o' + k * 4 + 3, none⟩ = some (.slice R2 q.locals.length cc2)) (go_keep) (fail)
                      all_goals
                        go_wp2_with fail
                        go_ret
                        exact ⟨false, rfl, iffA_F HN.out, bnext HB.out (by first | exact below2 _ _ _ | exact (below2 _ _ _).drew | assumption)⟩
                  · have hk' : k = x.frames.length := by omega
                    have HE : Hid T := Lib.hid (HT.out.mpr ⟨H0.out, Frs_ext H1.out (hk' ▸ hM.out), H2.out, H3.out, H4.out, H5.out, H6.out⟩)
                    have hly : ¬ (k : Int) < (x.frames.length : Int) := by omega
                    have HB := Lib.hid hbel
                    clear hbel hM
                    go_wp2_with fail
                    go_ret
                    exact ⟨true, rfl, iffA_T HE.out, HB.out⟩
              · have e6 : (x.trap == y.trap) = false := beq_eq_false_iff_ne.mpr h6
                have e6b : (x.trap != y.trap) = true := bne_iff_ne.mpr h6
                have HF : Hid (¬ T) := Lib.hid (fun hh => h6 (HT.out.mp hh).2.2.2.2.2.2)
                clear h6
                go_enter Try.func7, Try.ntmps7
                go_wp2_with fail
                go_at_call 26
                refine (D_stack.out _ (Ivs.below H_stack.out (below2 _ _ _)) (Ivs.below H'_stack.out (below2 _ _ _))).mono ?_
                rintro e w2 ⟨rfl, hb2⟩
                have k01 := keepCell (a := ⟨w.heap.size, 1, none⟩) (v := .slice Rframes x.frames.length cframes) hb2 (by go_simp)
                have k11 := keepCell (a := ⟨w.heap.size + 1, 1, none⟩) (v := .slice Rframes' y.frames.length cframes') hb2 (by go_simp)
                have k03 := keepCell (a := ⟨w.heap.size, 3, none⟩) (v := .int .i64 x.imp) hb2 (by go_simp)
                have k13 := keepCell (a := ⟨w.heap.size + 1, 3, none⟩) (v := .int .i64 y.imp) hb2 (by go_simp)
                have k04 := keepCell (a := ⟨w.heap.size, 4, none⟩) (v := .slice Rargs x.args.length cargs) hb2 (by go_simp)
                have k14 := keepCell (a := ⟨w.heap.size + 1, 4, none⟩) (v := .slice Rargs' y.args.length cargs') hb2 (by go_simp)
                have k05 := keepCell (a := ⟨w.heap.size, 5, none⟩) (v := .int .i64 x.result) hb2 (by go_simp)
                have k15 := keepCell (a := ⟨w.heap.size + 1, 5, none⟩) (v := .int .i64 y.result) hb2 (by go_simp)
                have k06 := keepCell (a := ⟨w.heap.size, 6, none⟩) (v := .int .i64 x.trap) hb2 (by go_simp)
                have k16 := keepCell (a := ⟨w.heap.size + 1, 6, none⟩) (v := .int .i64 y.trap) hb2 (by go_simp)
                have HB2 := Lib.hid (bnext (below2 _ _ _) hb2)
                clear hb2
                go_wp2_with fail
                go_at_call 26
                refine (D_args.out _ (Ivs.below H_args.out (HB2.out)) (Ivs.below H'_args.out (HB2.out))).mono ?_
                rintro e w3 ⟨rfl, hb3⟩
                replace k01 := keepCell hb3 k01
                replace k11 := keepCell hb3 k11
                replace k05 := keepCell hb3 k05
                replace k15 := keepCell hb3 k15
                replace k06 := keepCell hb3 k06
                replace k16 := keepCell hb3 k16
                have HB3 := Lib.hid (bnext (HB2.out) hb3)
                clear hb3
                go_wp2_with fail
                go_ret
                exact ⟨false, rfl, iffA_F HF.out, HB3.out⟩
            · have e5 : (x.result == y.result) = false := beq_eq_false_iff_ne.mpr h5
              have e5b : (x.result != y.result) = true := bne_iff_ne.mpr h5
              have HF : Hid (¬ T) := Lib.hid (fun hh => h5 (HT.out.mp hh).2.2.2.2.2.1)
              clear h5
              go_enter Try.func7, Try.ntmps7
              go_wp2_with fail
              go_at_call 26
              refine (D_stack.out _ (Ivs.below H_stack.out (below2 _ _ _)) (Ivs.below H'_stack.out (below2 _ _ _))).mono ?_
              rintro e w2 ⟨rfl, hb2⟩
              have k01 := keepCell (a := ⟨w.heap.size, 1, none⟩) (v := .slice Rframes x.frames.length cframes) hb2 (by go_simp)
              have k11 := keepCell (a := ⟨w.heap.size + 1, 1, none⟩) (v := .slice Rframes' y.frames.length cframes') hb2 (by go_simp)
              have k03 := keepCell (a := ⟨w.heap.size, 3, none⟩) (v := .int .i64 x.imp) hb2 (by go_simp)
              have k13 := keepCell (a := ⟨w.heap.size + 1, 3, none⟩) (v := .int .i64 y.imp) hb2 (by go_simp)
              have k04 := keepCell (a := ⟨w.heap.size, 4, none⟩) (v := .slice Rargs x.args.length cargs) hb2 (by go_simp)
              have k14 := keepCell (a := ⟨w.heap.size + 1, 4, none⟩) (v := .slice Rargs' y.args.length cargs') hb2 (by go_simp)
              have k05 := keepCell (a := ⟨w.heap.size, 5, none⟩) (v := .int .i64 x.result) hb2 (by go_simp)
              have k15 := keepCell (a := ⟨w.heap.size + 1, 5, none⟩) (v := .int .i64 y.result) hb2 (by go_simp)
              have k06 := keepCell (a := ⟨w.heap.size, 6, none⟩) (v := .int .i64 x.trap) hb2 (by go_simp)
              have k16 := keepCell (a := ⟨w.heap.size + 1, 6, none⟩) (v := .int .i64 y.trap) hb2 (by go_simp)
              have HB2 := Lib.hid (bnext (below2 _ _ _) hb2)
              clear hb2
              go_wp2_with fail
              go_at_call 26
              refine (D_args.out _ (Ivs.below H_args.out (HB2.out)) (Ivs.below H'_args.out (HB2.out))).mono ?_
              rintro e w3 ⟨rfl, hb3⟩
              replace k01 := keepCell hb3 k01
              replace k11 := keepCell hb3 k11
              replace k05 := keepCell hb3 k05
              replace k15 := keepCell hb3 k15
              replace k06 := keepCell hb3 k06
              replace k16 := keepCell hb3 k16
              have HB3 := Lib.hid (bnext (HB2.out) hb3)
              clear hb3
              go_wp2_with fail
              go_ret
              exact ⟨false, rfl, iffA_F HF.out, HB3.out⟩
          · have D_args := Lib.hid (fun W a b => (C_args W a b).mono fun _ _ j => j.no h4)
            have HF : Hid (¬ T) := Lib.hid (fun hh => h4 (HT.out.mp hh).2.2.2.2.1)
            clear h4 C_args
            go_enter Try.func7, Try.ntmps7
            go_wp2_with fail
            go_at_call 26
            refine (D_stack.out _ (Ivs.below H_stack.out (below2 _ _ _)) (Ivs.below H'_stack.out (below2 _ _ _))).mono ?_
            rintro e w2 ⟨rfl, hb2⟩
            have k01 := keepCell (a := ⟨w.heap.size, 1, none⟩) (v := .slice Rframes x.frames.length cframes) hb2 (by go_simp)
            have k11 := keepCell (a := ⟨w.heap.size + 1, 1, none⟩) (v := .slice Rframes' y.frames.length cframes') hb2 (by go_simp)
            have k03 := keepCell (a := ⟨w.heap.size, 3, none⟩) (v := .int .i64 x.imp) hb2 (by go_simp)
            have k13 := keepCell (a := ⟨w.heap.size + 1, 3, none⟩) (v := .int .i64 y.imp) hb2 (by go_simp)
            have k04 := keepCell (a := ⟨w.heap.size, 4, none⟩) (v := .slice Rargs x.args.length cargs) hb2 (by go_simp)
            have k14 := keepCell (a := ⟨w.heap.size + 1, 4, none⟩) (v := .slice Rargs' y.args.length cargs') hb2 (by go_simp)
            have k05 := keepCell (a := ⟨w.heap.size, 5, none⟩) (v := .int .i64 x.result) hb2 (by go_simp)
            have k15 := keepCell (a := ⟨w.heap.size + 1, 5, none⟩) (v := .int .i64 y.result) hb2 (by go_simp)
            have k06 := keepCell (a := ⟨w.heap.size, 6, none⟩) (v := .int .i64 x.trap) hb2 (by go_simp)
            have k16 := keepCell (a := ⟨w.heap.size + 1, 6, none⟩) (v := .int .i64 y.trap) hb2 (by go_simp)
            have HB2 := Lib.hid (bnext (below2 _ _ _) hb2)
            clear hb2
            go_wp2_with fail
            go_at_call 26
            refine (D_args.out _ (Ivs.below H_args.out (HB2.out)) (Ivs.below H'_args.out (HB2.out))).mono ?_
            rintro e w3 ⟨rfl, hb3⟩
            replace k01 := keepCell hb3 k01
            replace k11 := keepCell hb3 k11
            replace k05 := keepCell hb3 k05
            replace k15 := keepCell hb3 k15
            replace k06 := keepCell hb3 k06
            replace k16 := keepCell hb3 k16
            have HB3 := Lib.hid (bnext (HB2.out) hb3)
            clear hb3
            go_wp2_with fail
            go_ret
            exact ⟨false, rfl, iffA_F HF.out, HB3.out⟩
        · have e3 : (x.imp == y.imp) = false := beq_eq_false_iff_ne.mpr h3
          have e3b : (x.imp != y.imp) = true := bne_iff_ne.mpr h3
          have HF : Hid (¬ T) := Lib.hid (fun hh => h3 (HT.out.mp hh).2.2.2.1)
          clear h3 C_args
          go_enter Try.func7, Try.ntmps7
          go_wp2_with fail
          go_at_call 26
          refine (D_stack.out _ (Ivs.below H_stack.out (below2 _ _ _)) (Ivs.below H'_stack.out (below2 _ _ _))).mono ?_
          rintro e w2 ⟨rfl, hb2⟩
          have k01 := keepCell (a := ⟨w.heap.size, 1, none⟩) (v := .slice Rframes x.frames.length cframes) hb2 (by go_simp)
          have k11 := keepCell (a := ⟨w.heap.size + 1, 1, none⟩) (v := .slice Rframes' y.frames.length cframes') hb2 (by go_simp)
          have k03 := keepCell (a := ⟨w.heap.size, 3, none⟩) (v := .int .i64 x.imp) hb2 (by go_simp)
          have k13 := keepCell (a := ⟨w.heap.size + 1, 3, none⟩) (v := .int .i64 y.imp) hb2 (by go_simp)
          have k04 := keepCell (a := ⟨w.heap.size, 4, none⟩) (v := .slice Rargs x.args.length cargs) hb2 (by go_simp)
          have k14 := keepCell (a := ⟨w.heap.size + 1, 4, none⟩) (v := .slice Rargs' y.args.length cargs') hb2 (by go_simp)
          have k05 := keepCell (a := ⟨w.heap.size, 5, none⟩) (v := .int .i64 x.result) hb2 (by go_simp)
          have k15 := keepCell (a := ⟨w.heap.size + 1, 5, none⟩) (v := .int .i64 y.result) hb2 (by go_simp)
          have k06 := keepCell (a := ⟨w.heap.size, 6, none⟩) (v := .int .i64 x.trap) hb2 (by go_simp)
          have k16 := keepCell (a := ⟨w.heap.size + 1, 6, none⟩) (v := .int .i64 y.trap) hb2 (by go_simp)
          have HB2 := Lib.hid (bnext (below2 _ _ _) hb2)
          clear hb2
          go_wp2_with fail
          go_ret
          exact ⟨false, rfl, iffA_F HF.out, HB2.out⟩
      · have D_stack := Lib.hid (fun W a b => (C_stack W a b).mono fun _ _ j => j.no h2)
        have HF : Hid (¬ T) := Lib.hid (fun hh => h2 (HT.out.mp hh).2.2.1)
        clear h2 C_stack C_args
        go_enter Try.func7, Try.ntmps7
        go_wp2_with fail
        go_at_call 26
        refine (D_stack.out _ (Ivs.below H_stack.out (below2 _ _ _)) (Ivs.below H'_stack.out (below2 _ _ _))).mono ?_
        rintro e w2 ⟨rfl, hb2⟩
        have k01 := keepCell (a := ⟨w.heap.size, 1, none⟩) (v := .slice Rframes x.frames.length cframes) hb2 (by go_simp)
        have k11 := keepCell (a := ⟨w.heap.size + 1, 1, none⟩) (v := .slice Rframes' y.frames.length cframes') hb2 (by go_simp)
        have k03 := keepCell (a := ⟨w.heap.size, 3, none⟩) (v := .int .i64 x.imp) hb2 (by go_simp)
        have k13 := keepCell (a := ⟨w.heap.size + 1, 3, none⟩) (v := .int .i64 y.imp) hb2 (by go_simp)
        have k04 := keepCell (a := ⟨w.heap.size, 4, none⟩) (v := .slice Rargs x.args.length cargs) hb2 (by go_simp)
        have k14 := keepCell (a := ⟨w.heap.size + 1, 4, none⟩) (v := .slice Rargs' y.args.length cargs') hb2 (by go_simp)
        have k05 := keepCell (a := ⟨w.heap.size, 5, none⟩) (v := .int .i64 x.result) hb2 (by go_simp)
        have k15 := keepCell (a := ⟨w.heap.size + 1, 5, none⟩) (v := .int .i64 y.result) hb2 (by go_simp)
        have k06 := keepCell (a := ⟨w.heap.size, 6, none⟩) (v := .int .i64 x.trap) hb2 (by go_simp)
        have k16 := keepCell (a := ⟨w.heap.size + 1, 6, none⟩) (v := .int .i64 y.trap) hb2 (by go_simp)
        have HB2 := Lib.hid (bnext (below2 _ _ _) hb2)
        clear hb2
        go_wp2_with fail
        go_ret
        exact ⟨false, rfl, iffA_F HF.out, HB2.out⟩
    · have e1 : ((x.frames.length : Int) == (y.frames.length : Int)) = false := beq_eq_false_iff_ne.mpr (by omega)
      have e1b : ((x.frames.length : Int) != (y.frames.length : Int)) = true := bne_iff_ne.mpr (by omega)
      have HF : Hid (¬ T) := Lib.hid (fun hh => h1 (congrArg List.length (HT.out.mp hh).2.1))
      clear h1 C_stack C_args
      go_enter Try.func7, Try.ntmps7
      go_wp2_with fail
      go_ret
      exact ⟨false, rfl, iffA_F HF.out, below2 _ _ _⟩
  · have e0 : (x.status == y.status) = false := beq_eq_false_iff_ne.mpr h0
    have e0b : (x.status != y.status) = true := bne_iff_ne.mpr h0
    have HF : Hid (¬ T) := Lib.hid (fun hh => h0 (HT.out.mp hh).1)
    clear h0 C_stack C_args
    go_enter Try.func7, Try.ntmps7
    go_wp2_with fail
    go_ret
    exact ⟨false, rfl, iffA_F HF.out, below2 _ _ _⟩
end Go.Proofs.Ytbjcldekapipaaa
