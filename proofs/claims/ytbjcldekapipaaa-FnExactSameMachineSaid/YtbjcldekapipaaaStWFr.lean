/-
  Walks of measuring, copying and comparing CoreFrame by value and in slices.
-/
import Derived.Test.YtbjcldekapipaaaStFr
import Derived.Test.YtbjcldekapipaaaRowGen
import Derived.Test.YtbjcldekapipaaaStEx
import Derived.Test.YtbjcldekapipaaaStWSIv
namespace Go.Proofs.Ytbjcldekapipaaa
open Go.ChangeShapes Go.WideShapes Go.ChangeAt Go.RowKit Go.Deep

theorem Fr.parts_le {x : Fr} (h : x.wt ≤ 1048576) : ((x.locals.length : Int) + Iv.wts x.locals) ≤ 1048576 ∧ True := by
  have := Iv.wts_nonneg x.locals
  unfold Fr.wt at h
  refine ⟨by omega, trivial⟩

theorem szCoreFrame_any (x : Fr) (hf : x.Fin) (left : Int) (h0 : 0 ≤ left) (h1 : left ≤ 1048576) (Rlocals : Option Addr) (clocals : Nat) (lo : Nat) (w : World) (h : Fr.At w lo x Rlocals) :
    Calls Try.prog 61 #[.agg #[.int .i64 x.core, .int .i64 x.pc, .int .i64 x.base, .slice Rlocals x.locals.length clocals], .int .i64 left] w fun e w' => e = .returned (.int .i64 (leftOr (left - x.wt))) ∧ Below w.heap.size w w' := by
  obtain ⟨f0, f1, f2, f3⟩ := hf
  have hw : x.wt = ((x.locals.length : Int) + Iv.wts x.locals) := rfl
  have n_locals := Iv.wts_nonneg x.locals
  have p_locals := h
  have HP_locals := Lib.hid p_locals
  have C_locals : Hid (∀ (l : Int), 0 ≤ l → l ≤ 1048576 → ∀ W : World, Ivs W lo x.locals Rlocals → Calls Try.prog 25 #[.slice Rlocals x.locals.length clocals, .int .i64 l] W fun e w' => e = .returned (.int .i64 (leftOr (l - ((x.locals.length : Int) + Iv.wts x.locals)))) ∧ Below W.heap.size W w') := Lib.hid (fun l l0 l1 W hW => szInt64S_any x.locals f3.1 f3.2 l l0 l1 Rlocals clocals lo W hW)
  obtain ⟨R, hR⟩ : ∃ R, leftOr (left - x.wt) = R := ⟨_, rfl⟩
  rw [hR]
  have HRR := Lib.hid hR
  have HW := Lib.hid hw
  clear hR hw p_locals
  generalize Iv.wts x.locals = w_locals at *
  generalize x.locals.length = l_locals at *
  generalize x.wt = W0 at *
  go_enter Try.func61, Try.ntmps61
  go_wp2_with fail
  go_at_call 25
  refine (C_locals.out _ h0 h1 _ (HP_locals.out.below (below1 _ _))).mono ?_
  rintro e v1 ⟨rfl, hb1⟩
  have HB1 := Lib.hid (bnext (below1 _ _) hb1)
  clear hb1
  by_cases e1 : left - ((l_locals : Int) + w_locals) < 0
  · rw [leftOr_neg e1]
    go_wp2_with fail
    go_ret
    refine ⟨ret_int ?_, HB1.out⟩
    have := HW.out
    rw [← HRR.out, leftOr_neg (by omega)]
  · rw [leftOr_pos (by omega)]
    obtain ⟨M1, hm1⟩ : ∃ M, left - ((l_locals : Int) + w_locals) = M := ⟨_, rfl⟩
    rw [hm1]
    have hx1 : 0 ≤ M1 := by omega
    have hy1 : M1 ≤ 1048576 := by omega
    have Hm1 := Lib.hid hm1
    clear e1 hm1
    go_wp2_with fail
    go_ret
    refine ⟨ret_int ?_, HB1.out⟩
    have := HW.out
    have := Hm1.out
    rw [← HRR.out, leftOr_pos (by omega)]
    omega

/-- What copying leaves: the same in new memory. -/
def ToCoreFramePost (x : Fr) (w : World) (e : Ending) (w' : World) : Prop := ∃ (Rlocals : Option Addr), ∃ (clocals : Nat), e = .returned (.agg #[.int .i64 x.core, .int .i64 x.pc, .int .i64 x.base, .slice Rlocals x.locals.length clocals]) ∧ Fr.At w' w.heap.size x Rlocals ∧ Below w.heap.size w w'
set_option maxRecDepth 100000 in
theorem toCoreFrame_any (x : Fr) (hT : x.wt ≤ 1048576) (Rlocals : Option Addr) (clocals : Nat) (lo : Nat) (w : World) (h : Fr.At w lo x Rlocals) :
    Calls Try.prog 62 #[.agg #[.int .i64 x.core, .int .i64 x.pc, .int .i64 x.base, .slice Rlocals x.locals.length clocals]] w (ToCoreFramePost x w) := by
  obtain ⟨q_locals, _⟩ := Fr.parts_le hT
  have p_locals := h
  have HP_locals := Lib.hid p_locals
  have C_locals : Hid (∀ W : World, Ivs W lo x.locals Rlocals → Calls Try.prog 28 #[.slice Rlocals x.locals.length clocals] W fun e w' => ∃ (Rlocals' : Option Addr), ∃ (clocals' : Nat), e = .returned (.slice Rlocals' x.locals.length clocals') ∧ Ivs w' W.heap.size x.locals Rlocals' ∧ Below W.heap.size W w') := Lib.hid (fun W hW => toInt64S_any x.locals (by have := Iv.wts_nonneg x.locals; omega) (fun i y hy => by have := Iv.wt_mem hy; omega) Rlocals clocals lo W hW)
  clear hT p_locals q_locals
  go_enter Try.func62, Try.ntmps62
  go_wp2_with fail
  go_at_call 28
  refine (C_locals.out _ (HP_locals.out.below (by (repeat (with_reducible refine Below.setCell ?_ (by first | (simp; done) | (simp; omega)) _)); exact below3 _ _ _ _))).mono ?_
  rintro e v1 ⟨Rlocalsz, clocalsz, rfl, hp1, hb1⟩
  obtain ⟨hc1, hf1⟩ := bcell hb1
  have d1_0 := keepCell (a := ⟨w.heap.size + 1 + 1, 0, none⟩) (v := .int .i64 x.core) hb1 (by go_simp)
  have r1_0 := keepCell (a := ⟨w.heap.size + 1, 0, none⟩) (v := .int .i64 0) hb1 (by go_simp)
  have d1_1 := keepCell (a := ⟨w.heap.size + 1 + 1, 1, none⟩) (v := .int .i64 x.pc) hb1 (by go_simp)
  have r1_1 := keepCell (a := ⟨w.heap.size + 1, 1, none⟩) (v := .int .i64 0) hb1 (by go_simp)
  have d1_2 := keepCell (a := ⟨w.heap.size + 1 + 1, 2, none⟩) (v := .int .i64 x.base) hb1 (by go_simp)
  have r1_2 := keepCell (a := ⟨w.heap.size + 1, 2, none⟩) (v := .int .i64 0) hb1 (by go_simp)
  have d1_3 := keepCell (a := ⟨w.heap.size + 1 + 1, 3, none⟩) (v := .slice none 0 0) hb1 (by go_simp)
  have r1_3 := keepCell (a := ⟨w.heap.size + 1, 3, none⟩) (v := .slice none 0 0) hb1 (by go_simp)
  have HB1 : Hid (Below w.heap.size w v1) := Lib.hid (bnext (by (repeat (with_reducible refine Below.setCell ?_ (by first | (simp; done) | (simp; omega)) _)); exact below3 _ _ _ _) hb1)
  have HS1 := Lib.hid hb1
  have hz1 : w.heap.size + 1 + 1 < v1.heap.size := (by have h9 := hb1.size; simp at h9; omega)
  have g1 : ∀ o, v1.frozen? ⟨w.heap.size + 1, o, none⟩ = false := (fun o => (hf1 _ _ (by first | (simp; done) | (simp; omega))).trans (by go_simp))
  have h1 : ∀ o, v1.frozen? ⟨w.heap.size + 1 + 1, o, none⟩ = false := (fun o => (hf1 _ _ (by first | (simp; done) | (simp; omega))).trans (by go_simp))
  have P1 := Lib.hid (hp1.low (lo' := w.heap.size + 1 + 1 + 1) (by first | (simp; done) | (simp; omega)))
  clear hp1 hb1 hc1 hf1
  go_wp2_with fail
  have kk := sets_in (v1.setCell ⟨w.heap.size + 1 + 1, 3, none⟩ (.slice Rlocalsz x.locals.length clocalsz)) (w.heap.size + 1) [.int .i64 x.core, .int .i64 x.pc, .int .i64 x.base, .slice Rlocalsz x.locals.length clocalsz] (fun j hj => by
    have h4 : j = 0 ∨ j = 1 ∨ j = 2 ∨ j = 3 := by simp at hj; omega
    rcases h4 with rfl | rfl | rfl | rfl <;> simp [World.cell?_setCell_other, r1_0, r1_1, r1_2, r1_3])
  have k0 : (((((v1.setCell ⟨w.heap.size + 1 + 1, 3, none⟩ (.slice Rlocalsz x.locals.length clocalsz)).setCell ⟨w.heap.size + 1, 0, none⟩ (.int .i64 x.core)).setCell ⟨w.heap.size + 1, 1, none⟩ (.int .i64 x.pc)).setCell ⟨w.heap.size + 1, 2, none⟩ (.int .i64 x.base)).setCell ⟨w.heap.size + 1, 3, none⟩ (.slice Rlocalsz x.locals.length clocalsz)).cell? ⟨w.heap.size + 1, 0, none⟩ = some (.int .i64 x.core) := kk 0 (by simp)
  have k1 : (((((v1.setCell ⟨w.heap.size + 1 + 1, 3, none⟩ (.slice Rlocalsz x.locals.length clocalsz)).setCell ⟨w.heap.size + 1, 0, none⟩ (.int .i64 x.core)).setCell ⟨w.heap.size + 1, 1, none⟩ (.int .i64 x.pc)).setCell ⟨w.heap.size + 1, 2, none⟩ (.int .i64 x.base)).setCell ⟨w.heap.size + 1, 3, none⟩ (.slice Rlocalsz x.locals.length clocalsz)).cell? ⟨w.heap.size + 1, 1, none⟩ = some (.int .i64 x.pc) := kk 1 (by simp)
  have k2 : (((((v1.setCell ⟨w.heap.size + 1 + 1, 3, none⟩ (.slice Rlocalsz x.locals.length clocalsz)).setCell ⟨w.heap.size + 1, 0, none⟩ (.int .i64 x.core)).setCell ⟨w.heap.size + 1, 1, none⟩ (.int .i64 x.pc)).setCell ⟨w.heap.size + 1, 2, none⟩ (.int .i64 x.base)).setCell ⟨w.heap.size + 1, 3, none⟩ (.slice Rlocalsz x.locals.length clocalsz)).cell? ⟨w.heap.size + 1, 2, none⟩ = some (.int .i64 x.base) := kk 2 (by simp)
  have k3 : (((((v1.setCell ⟨w.heap.size + 1 + 1, 3, none⟩ (.slice Rlocalsz x.locals.length clocalsz)).setCell ⟨w.heap.size + 1, 0, none⟩ (.int .i64 x.core)).setCell ⟨w.heap.size + 1, 1, none⟩ (.int .i64 x.pc)).setCell ⟨w.heap.size + 1, 2, none⟩ (.int .i64 x.base)).setCell ⟨w.heap.size + 1, 3, none⟩ (.slice Rlocalsz x.locals.length clocalsz)).cell? ⟨w.heap.size + 1, 3, none⟩ = some (.slice Rlocalsz x.locals.length clocalsz) := kk 3 (by simp)
  clear kk
  refine bodyPost_ret (v := .agg #[.int .i64 x.core, .int .i64 x.pc, .int .i64 x.base, .slice Rlocalsz x.locals.length clocalsz]) (by simp [results, Try.results62, go_sem, k0, k1, k2, k3]) rfl ?_
  refine ⟨_, _, rfl, ?_, ?_⟩
  · refine Ivs.low (lo := w.heap.size + 1 + 1 + 1) ?_ (by omega)
    (repeat (with_reducible refine Ivs.keep ?_ (KeptFrom.setCell (by first | (simp; done) | (simp; omega)) _)))
    exact P1.out
  · (repeat (with_reducible refine Below.setCell ?_ (by first | (simp; done) | (simp; omega)) _))
    exact HB1.out

theorem eqCoreFrame_any (x : Fr) (hT : x.wt ≤ 1048576) (Rlocals : Option Addr) (clocals : Nat) (Rlocals' : Option Addr) (clocals' : Nat) (lo lo' : Nat) (w : World) (h : Fr.At w lo x Rlocals) (h' : Fr.At w lo' x Rlocals') :
    Calls Try.prog 63 #[.agg #[.int .i64 x.core, .int .i64 x.pc, .int .i64 x.base, .slice Rlocals x.locals.length clocals], .agg #[.int .i64 x.core, .int .i64 x.pc, .int .i64 x.base, .slice Rlocals' x.locals.length clocals']] w fun e w' => e = .returned (.bool true) ∧ Below w.heap.size w w' := by
  obtain ⟨q_locals, _⟩ := Fr.parts_le hT
  have p_locals := h
  have pp_locals := h'
  have HP_locals := Lib.hid p_locals
  have HQ_locals := Lib.hid pp_locals
  have C_locals : Hid (∀ W : World, Ivs W lo x.locals Rlocals → Ivs W lo' x.locals Rlocals' → Calls Try.prog 33 #[.slice Rlocals x.locals.length clocals, .slice Rlocals' x.locals.length clocals'] W fun e w' => e = .returned (.bool true) ∧ Below W.heap.size W w') := Lib.hid (fun W h1 h2 => eqInt64S_any x.locals (by have := Iv.wts_nonneg x.locals; omega) (fun i y hy => by have := Iv.wt_mem hy; omega) Rlocals Rlocals' clocals clocals' lo lo' W h1 h2)
  clear hT p_locals pp_locals q_locals
  go_enter Try.func63, Try.ntmps63
  go_wp2_with fail
  go_at_call 33
  refine (C_locals.out _ (HP_locals.out.below (below2 _ _ _)) (HQ_locals.out.below (below2 _ _ _))).mono ?_
  rintro e v1 ⟨rfl, hb1⟩
  have HB1 := Lib.hid (bnext (below2 _ _ _) hb1)
  clear hb1
  go_wp2_with fail
  go_ret
  exact ⟨rfl, HB1.out⟩
end Go.Proofs.Ytbjcldekapipaaa
