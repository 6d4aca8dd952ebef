/-
  Walks of measuring, copying and comparing Core by value and in slices.
-/
import Derived.Test.YtoeofhhmkkpjbaaDoorStCo
import Derived.Test.YtoeofhhmkkpjbaaDoorRowGen
import Derived.Test.YtoeofhhmkkpjbaaDoorStEx
import Derived.Test.YtoeofhhmkkpjbaaDoorStWSIn
namespace Go.Proofs.YtoeofhhmkkpjbaaDoor
open Go.ChangeShapes Go.WideShapes Go.ChangeAt Go.RowKit Go.Deep

theorem Co.parts_le {x : Co} (h : x.wt ≤ 1048576) : (x.name.size : Int) ≤ 1048576 ∧ ((x.code.length : Int) + In.wts x.code) ≤ 1048576 ∧ True := by
  have := In.wts_nonneg x.code
  unfold Co.wt at h
  refine ⟨by omega, by omega, trivial⟩

theorem szCore_any (x : Co) (hf : x.Fin) (left : Int) (h0 : 0 ≤ left) (h1 : left ≤ 1048576) (Rcode : Option Addr) (ccode : Nat) (lo : Nat) (w : World) (h : Co.At w lo x Rcode) :
    Calls Tryd.prog 33 #[.agg #[.string x.name, .int .i64 x.params, .int .i64 x.locals, .bool x.result, .slice Rcode x.code.length ccode], .int .i64 left] w fun e w' => e = .returned (.int .i64 (leftOr (left - x.wt))) ∧ Below w.heap.size w w' := by
  obtain ⟨f0, f1, f2, f3⟩ := hf
  have hw : x.wt = (x.name.size : Int) + ((x.code.length : Int) + In.wts x.code) := rfl
  have n_code := In.wts_nonneg x.code
  have p_code := h
  have HP_code := Lib.hid p_code
  have C_code : Hid (∀ (l : Int), 0 ≤ l → l ≤ 1048576 → ∀ W : World, Ins W lo x.code Rcode → Calls Tryd.prog 73 #[.slice Rcode x.code.length ccode, .int .i64 l] W fun e w' => e = .returned (.int .i64 (leftOr (l - ((x.code.length : Int) + In.wts x.code)))) ∧ Below W.heap.size W w') := Lib.hid (fun l l0 l1 W hW => szInsS_any x.code f3.1 f3.2 l l0 l1 Rcode ccode lo W hW)
  unfold maxLen at f0
  obtain ⟨R, hR⟩ : ∃ R, leftOr (left - x.wt) = R := ⟨_, rfl⟩
  rw [hR]
  have HRR := Lib.hid hR
  have HW := Lib.hid hw
  clear hR hw p_code
  generalize In.wts x.code = w_code at *
  generalize x.code.length = l_code at *
  generalize x.wt = W0 at *
  by_cases e1 : left - (x.name.size : Int) < 0
  · go_enter Tryd.func33, Tryd.ntmps33
    go_wp2_with fail
    go_ret
    refine ⟨ret_int ?_, below1 _ _⟩
    have := HW.out
    rw [← HRR.out, leftOr_neg (by omega)]
  · obtain ⟨M1, hm1⟩ : ∃ M, left - (x.name.size : Int) = M := ⟨_, rfl⟩
    have hx1 : 0 ≤ M1 := by omega
    have hy1 : M1 ≤ 1048576 := by omega
    have Hm1 := Lib.hid hm1
    have e1' : (x.name.size : Int) ≤ left := by omega
    clear e1
    go_enter Tryd.func33, Tryd.ntmps33
    go_wp2_with fail
    (try rw [hm1])
    go_at_call 73
    refine (C_code.out _ hx1 hy1 _ (HP_code.out.below (below1 _ _))).mono ?_
    rintro e v2 ⟨rfl, hb2⟩
    have HB2 := Lib.hid (bnext (below1 _ _) hb2)
    clear hb2
    by_cases e2 : M1 - ((l_code : Int) + w_code) < 0
    · rw [leftOr_neg e2]
      go_wp2_with fail
      go_ret
      refine ⟨ret_int ?_, HB2.out⟩
      have := HW.out
      have := Hm1.out
      rw [← HRR.out, leftOr_neg (by omega)]
    · rw [leftOr_pos (by omega)]
      obtain ⟨M2, hm2⟩ : ∃ M, M1 - ((l_code : Int) + w_code) = M := ⟨_, rfl⟩
      rw [hm2]
      have hx2 : 0 ≤ M2 := by omega
      have hy2 : M2 ≤ 1048576 := by omega
      have Hm2 := Lib.hid hm2
      clear e2 hm2
      go_wp2_with fail
      go_ret
      refine ⟨ret_int ?_, HB2.out⟩
      have := HW.out
      have := Hm1.out
      have := Hm2.out
      rw [← HRR.out, leftOr_pos (by omega)]
      omega

/-- What copying leaves: the same in new memory. -/
def ToCorePost (x : Co) (w : World) (e : Ending) (w' : World) : Prop := ∃ (Rcode : Option Addr), ∃ (ccode : Nat), e = .returned (.agg #[.string x.name, .int .i64 x.params, .int .i64 x.locals, .bool x.result, .slice Rcode x.code.length ccode]) ∧ Co.At w' w.heap.size x Rcode ∧ Below w.heap.size w w'
set_option maxRecDepth 100000 in
theorem toCore_any (x : Co) (hT : x.wt ≤ 1048576) (Rcode : Option Addr) (ccode : Nat) (lo : Nat) (w : World) (h : Co.At w lo x Rcode) :
    Calls Tryd.prog 35 #[.agg #[.string x.name, .int .i64 x.params, .int .i64 x.locals, .bool x.result, .slice Rcode x.code.length ccode]] w (ToCorePost x w) := by
  obtain ⟨q_name, q_code, _⟩ := Co.parts_le hT
  have p_code := h
  have HP_code := Lib.hid p_code
  have C_code : Hid (∀ W : World, Ins W lo x.code Rcode → Calls Tryd.prog 76 #[.slice Rcode x.code.length ccode] W fun e w' => ∃ (Rcode' : Option Addr), ∃ (ccode' : Nat), e = .returned (.slice Rcode' x.code.length ccode') ∧ Ins w' W.heap.size x.code Rcode' ∧ Below W.heap.size W w') := Lib.hid (fun W hW => toInsS_any x.code (by have := In.wts_nonneg x.code; omega) (fun i y hy => by have := In.wt_mem hy; omega) Rcode ccode lo W hW)
  clear hT p_code q_name q_code
  go_enter Tryd.func35, Tryd.ntmps35
  go_wp2_with fail
  go_at_call 76
  refine (C_code.out _ (HP_code.out.below (by (repeat (with_reducible refine Below.setCell ?_ (by first | (simp; done) | (simp; omega)) _)); exact below3 _ _ _ _))).mono ?_
  rintro e v1 ⟨Rcodez, ccodez, rfl, hp1, hb1⟩
  obtain ⟨hc1, hf1⟩ := bcell hb1
  have d1_0 := keepCell (a := ⟨w.heap.size + 1 + 1, 0, none⟩) (v := .string x.name) hb1 (by go_simp)
  have r1_0 := keepCell (a := ⟨w.heap.size + 1, 0, none⟩) (v := .string ⟨#[]⟩) hb1 (by go_simp)
  have d1_1 := keepCell (a := ⟨w.heap.size + 1 + 1, 1, none⟩) (v := .int .i64 x.params) hb1 (by go_simp)
  have r1_1 := keepCell (a := ⟨w.heap.size + 1, 1, none⟩) (v := .int .i64 0) hb1 (by go_simp)
  have d1_2 := keepCell (a := ⟨w.heap.size + 1 + 1, 2, none⟩) (v := .int .i64 x.locals) hb1 (by go_simp)
  have r1_2 := keepCell (a := ⟨w.heap.size + 1, 2, none⟩) (v := .int .i64 0) hb1 (by go_simp)
  have d1_3 := keepCell (a := ⟨w.heap.size + 1 + 1, 3, none⟩) (v := .bool x.result) hb1 (by go_simp)
  have r1_3 := keepCell (a := ⟨w.heap.size + 1, 3, none⟩) (v := .bool false) hb1 (by go_simp)
  have d1_4 := keepCell (a := ⟨w.heap.size + 1 + 1, 4, none⟩) (v := .slice none 0 0) hb1 (by go_simp)
  have r1_4 := keepCell (a := ⟨w.heap.size + 1, 4, none⟩) (v := .slice none 0 0) hb1 (by go_simp)
  have HB1 : Hid (Below w.heap.size w v1) := Lib.hid (bnext (by (repeat (with_reducible refine Below.setCell ?_ (by first | (simp; done) | (simp; omega)) _)); exact below3 _ _ _ _) hb1)
  have HS1 := Lib.hid hb1
  have hz1 : w.heap.size + 1 + 1 < v1.heap.size := (by have h9 := hb1.size; simp at h9; omega)
  have g1 : ∀ o, v1.frozen? ⟨w.heap.size + 1, o, none⟩ = false := (fun o => (hf1 _ _ (by first | (simp; done) | (simp; omega))).trans (by go_simp))
  have h1 : ∀ o, v1.frozen? ⟨w.heap.size + 1 + 1, o, none⟩ = false := (fun o => (hf1 _ _ (by first | (simp; done) | (simp; omega))).trans (by go_simp))
  have P1 := Lib.hid (hp1.low (lo' := w.heap.size + 1 + 1 + 1) (by first | (simp; done) | (simp; omega)))
  clear hp1 hb1 hc1 hf1
  go_wp2_with fail
  have kk := sets_in (v1.setCell ⟨w.heap.size + 1 + 1, 4, none⟩ (.slice Rcodez x.code.length ccodez)) (w.heap.size + 1) [.string x.name, .int .i64 x.params, .int .i64 x.locals, .bool x.result, .slice Rcodez x.code.length ccodez] (fun j hj => by
    have h4 : j = 0 ∨ j = 1 ∨ j = 2 ∨ j = 3 ∨ j = 4 := by simp at hj; omega
    rcases h4 with rfl | rfl | rfl | rfl | rfl <;> simp [World.cell?_setCell_other, r1_0, r1_1, r1_2, r1_3, r1_4])
  have k0 : ((((((v1.setCell ⟨w.heap.size + 1 + 1, 4, none⟩ (.slice Rcodez x.code.length ccodez)).setCell ⟨w.heap.size + 1, 0, none⟩ (.string x.name)).setCell ⟨w.heap.size + 1, 1, none⟩ (.int .i64 x.params)).setCell ⟨w.heap.size + 1, 2, none⟩ (.int .i64 x.locals)).setCell ⟨w.heap.size + 1, 3, none⟩ (.bool x.result)).setCell ⟨w.heap.size + 1, 4, none⟩ (.slice Rcodez x.code.length ccodez)).cell? ⟨w.heap.size + 1, 0, none⟩ = some (.string x.name) := kk 0 (by simp)
  have k1 : ((((((v1.setCell ⟨w.heap.size + 1 + 1, 4, none⟩ (.slice Rcodez x.code.length ccodez)).setCell ⟨w.heap.size + 1, 0, none⟩ (.string x.name)).setCell ⟨w.heap.size + 1, 1, none⟩ (.int .i64 x.params)).setCell ⟨w.heap.size + 1, 2, none⟩ (.int .i64 x.locals)).setCell ⟨w.heap.size + 1, 3, none⟩ (.bool x.result)).setCell ⟨w.heap.size + 1, 4, none⟩ (.slice Rcodez x.code.length ccodez)).cell? ⟨w.heap.size + 1, 1, none⟩ = some (.int .i64 x.params) := kk 1 (by simp)
  have k2 : ((((((v1.setCell ⟨w.heap.size + 1 + 1, 4, none⟩ (.slice Rcodez x.code.length ccodez)).setCell ⟨w.heap.size + 1, 0, none⟩ (.string x.name)).setCell ⟨w.heap.size + 1, 1, none⟩ (.int .i64 x.params)).setCell ⟨w.heap.size + 1, 2, none⟩ (.int .i64 x.locals)).setCell ⟨w.heap.size + 1, 3, none⟩ (.bool x.result)).setCell ⟨w.heap.size + 1, 4, none⟩ (.slice Rcodez x.code.length ccodez)).cell? ⟨w.heap.size + 1, 2, none⟩ = some (.int .i64 x.locals) := kk 2 (by simp)
  have k3 : ((((((v1.setCell ⟨w.heap.size + 1 + 1, 4, none⟩ (.slice Rcodez x.code.length ccodez)).setCell ⟨w.heap.size + 1, 0, none⟩ (.string x.name)).setCell ⟨w.heap.size + 1, 1, none⟩ (.int .i64 x.params)).setCell ⟨w.heap.size + 1, 2, none⟩ (.int .i64 x.locals)).setCell ⟨w.heap.size + 1, 3, none⟩ (.bool x.result)).setCell ⟨w.heap.size + 1, 4, none⟩ (.slice Rcodez x.code.length ccodez)).cell? ⟨w.heap.size + 1, 3, none⟩ = some (.bool x.result) := kk 3 (by simp)
  have k4 : ((((((v1.setCell ⟨w.heap.size + 1 + 1, 4, none⟩ (.slice Rcodez x.code.length ccodez)).setCell ⟨w.heap.size + 1, 0, none⟩ (.string x.name)).setCell ⟨w.heap.size + 1, 1, none⟩ (.int .i64 x.params)).setCell ⟨w.heap.size + 1, 2, none⟩ (.int .i64 x.locals)).setCell ⟨w.heap.size + 1, 3, none⟩ (.bool x.result)).setCell ⟨w.heap.size + 1, 4, none⟩ (.slice Rcodez x.code.length ccodez)).cell? ⟨w.heap.size + 1, 4, none⟩ = some (.slice Rcodez x.code.length ccodez) := kk 4 (by simp)
  clear kk
  refine bodyPost_ret (v := .agg #[.string x.name, .int .i64 x.params, .int .i64 x.locals, .bool x.result, .slice Rcodez x.code.length ccodez]) (by simp [results, Tryd.results35, go_sem, k0, k1, k2, k3, k4]) rfl ?_
  refine ⟨_, _, rfl, ?_, ?_⟩
  · refine Ins.low (lo := w.heap.size + 1 + 1 + 1) ?_ (by omega)
    (repeat (with_reducible refine Ins.keep ?_ (KeptFrom.setCell (by first | (simp; done) | (simp; omega)) _)))
    exact P1.out
  · (repeat (with_reducible refine Below.setCell ?_ (by first | (simp; done) | (simp; omega)) _))
    exact HB1.out

theorem eqCore_any (x : Co) (hT : x.wt ≤ 1048576) (Rcode : Option Addr) (ccode : Nat) (Rcode' : Option Addr) (ccode' : Nat) (lo lo' : Nat) (w : World) (h : Co.At w lo x Rcode) (h' : Co.At w lo' x Rcode') :
    Calls Tryd.prog 38 #[.agg #[.string x.name, .int .i64 x.params, .int .i64 x.locals, .bool x.result, .slice Rcode x.code.length ccode], .agg #[.string x.name, .int .i64 x.params, .int .i64 x.locals, .bool x.result, .slice Rcode' x.code.length ccode']] w fun e w' => e = .returned (.bool true) ∧ Below w.heap.size w w' := by
  obtain ⟨q_name, q_code, _⟩ := Co.parts_le hT
  have p_code := h
  have pp_code := h'
  have HP_code := Lib.hid p_code
  have HQ_code := Lib.hid pp_code
  have C_code : Hid (∀ W : World, Ins W lo x.code Rcode → Ins W lo' x.code Rcode' → Calls Tryd.prog 80 #[.slice Rcode x.code.length ccode, .slice Rcode' x.code.length ccode'] W fun e w' => e = .returned (.bool true) ∧ Below W.heap.size W w') := Lib.hid (fun W h1 h2 => eqInsS_any x.code (by have := In.wts_nonneg x.code; omega) (fun i y hy => by have := In.wt_mem hy; omega) Rcode Rcode' ccode ccode' lo lo' W h1 h2)
  clear hT p_code pp_code q_name q_code
  go_enter Tryd.func38, Tryd.ntmps38
  go_wp2_with fail
  go_at_call 80
  refine (C_code.out _ (HP_code.out.below (below2 _ _ _)) (HQ_code.out.below (below2 _ _ _))).mono ?_
  rintro e v1 ⟨rfl, hb1⟩
  have HB1 := Lib.hid (bnext (below2 _ _ _) hb1)
  clear hb1
  go_wp2_with fail
  go_ret
  exact ⟨rfl, HB1.out⟩
end Go.Proofs.YtoeofhhmkkpjbaaDoor
