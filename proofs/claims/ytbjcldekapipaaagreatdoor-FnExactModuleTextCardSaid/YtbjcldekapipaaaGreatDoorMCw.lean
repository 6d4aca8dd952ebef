/-
  StWCo, StWSCoC: in one text.
-/
import Derived.Test.YtbjcldekapipaaaGreatDoorStCo
import Derived.Test.YtbjcldekapipaaaGreatDoorRowGen
import Derived.Test.YtbjcldekapipaaaGreatDoorStEx
import Derived.Test.YtbjcldekapipaaaGreatDoorMNw
namespace Go.Proofs.YtbjcldekapipaaaGreatDoor
open Go.ChangeShapes Go.WideShapes Go.ChangeAt Go.RowKit Go.Deep

theorem Co.parts_le {x : Co} (h : x.wt ≤ 1048576) : (x.name.size : Int) ≤ 1048576 ∧ ((x.code.length : Int) + In.wts x.code) ≤ 1048576 ∧ True := by
  have := In.wts_nonneg x.code
  unfold Co.wt at h
  refine ⟨by omega, by omega, trivial⟩

theorem szCore_any (x : Co) (hf : x.Fin) (left : Int) (h0 : 0 ≤ left) (h1 : left ≤ 1048576) (Rcode : Option Addr) (ccode : Nat) (lo : Nat) (w : World) (h : Co.At w lo x Rcode) :
    Calls Tryz.prog 49 #[.agg #[.string x.name, .int .i64 x.params, .int .i64 x.locals, .bool x.result, .slice Rcode x.code.length ccode], .int .i64 left] w fun e w' => e = .returned (.int .i64 (leftOr (left - x.wt))) ∧ Below w.heap.size w w' := by
  obtain ⟨f0, f1, f2, f3⟩ := hf
  have hw : x.wt = (x.name.size : Int) + ((x.code.length : Int) + In.wts x.code) := rfl
  have n_code := In.wts_nonneg x.code
  have p_code := h
  have HP_code := Lib.hid p_code
  have C_code : Hid (∀ (l : Int), 0 ≤ l → l ≤ 1048576 → ∀ W : World, Ins W lo x.code Rcode → Calls Tryz.prog 96 #[.slice Rcode x.code.length ccode, .int .i64 l] W fun e w' => e = .returned (.int .i64 (leftOr (l - ((x.code.length : Int) + In.wts x.code)))) ∧ Below W.heap.size W w') := Lib.hid (fun l l0 l1 W hW => szInsS_any x.code f3.1 f3.2 l l0 l1 Rcode ccode lo W hW)
  unfold maxLen at f0
  obtain ⟨R, hR⟩ : ∃ R, leftOr (left - x.wt) = R := ⟨_, rfl⟩
  rw [hR]
  have HRR := Lib.hid hR
  have HW := Lib.hid hw
  clear hR hw p_code
  generalize In.wts x.code = w_code at *
  generalize x.code.length = l_code at *
  generalize x.wt = W0 at *
  by_cases e1 : left - (x.name.size : Int) < 0
  · go_enter Tryz.func49, Tryz.ntmps49
    go_wp2_with fail
    go_ret
    refine ⟨ret_int ?_, below1 _ _⟩
    have := HW.out
    rw [← HRR.out, leftOr_neg (by omega)]
  · obtain ⟨M1, hm1⟩ : ∃ M, left - (x.name.size : Int) = M := ⟨_, rfl⟩
    have hx1 : 0 ≤ M1 := by omega
    have hy1 : M1 ≤ 1048576 := by omega
    have Hm1 := Lib.hid hm1
    have e1' : (x.name.size : Int) ≤ left := by omega
    clear e1
    go_enter Tryz.func49, Tryz.ntmps49
    go_wp2_with fail
    (try rw [hm1])
    go_at_call 96
    refine (C_code.out _ hx1 hy1 _ (HP_code.out.below (below1 _ _))).mono ?_
    rintro e v2 ⟨rfl, hb2⟩
    have HB2 := Lib.hid (bnext (below1 _ _) hb2)
    clear hb2
    by_cases e2 : M1 - ((l_code : Int) + w_code) < 0
    · rw [leftOr_neg e2]
      go_wp2_with fail
      go_ret
      refine ⟨ret_int ?_, HB2.out⟩
      have := HW.out
      have := Hm1.out
      rw [← HRR.out, leftOr_neg (by omega)]
    · rw [leftOr_pos (by omega)]
      obtain ⟨M2, hm2⟩ : ∃ M, M1 - ((l_code : Int) + w_code) = M := ⟨_, rfl⟩
      rw [hm2]
      have hx2 : 0 ≤ M2 := by omega
      have hy2 : M2 ≤ 1048576 := by omega
      have Hm2 := Lib.hid hm2
      clear e2 hm2
      go_wp2_with fail
      go_ret
      refine ⟨ret_int ?_, HB2.out⟩
      have := HW.out
      have := Hm1.out
      have := Hm2.out
      rw [← HRR.out, leftOr_pos (by omega)]
      omega

/-- What copying leaves: the same in new memory. -/
def ToCorePost (x : Co) (w : World) (e : Ending) (w' : World) : Prop := ∃ (Rcode : Option Addr), ∃ (ccode : Nat), e = .returned (.agg #[.string x.name, .int .i64 x.params, .int .i64 x.locals, .bool x.result, .slice Rcode x.code.length ccode]) ∧ Co.At w' w.heap.size x Rcode ∧ Below w.heap.size w w'
set_option maxRecDepth 100000 in
theorem toCore_any (x : Co) (hT : x.wt ≤ 1048576) (Rcode : Option Addr) (ccode : Nat) (lo : Nat) (w : World) (h : Co.At w lo x Rcode) :
    Calls Tryz.prog 56 #[.agg #[.string x.name, .int .i64 x.params, .int .i64 x.locals, .bool x.result, .slice Rcode x.code.length ccode]] w (ToCorePost x w) := by
  obtain ⟨q_name, q_code, _⟩ := Co.parts_le hT
  have p_code := h
  have HP_code := Lib.hid p_code
  have C_code : Hid (∀ W : World, Ins W lo x.code Rcode → Calls Tryz.prog 100 #[.slice Rcode x.code.length ccode] W fun e w' => ∃ (Rcode' : Option Addr), ∃ (ccode' : Nat), e = .returned (.slice Rcode' x.code.length ccode') ∧ Ins w' W.heap.size x.code Rcode' ∧ Below W.heap.size W w') := Lib.hid (fun W hW => toInsS_any x.code (by have := In.wts_nonneg x.code; omega) (fun i y hy => by have := In.wt_mem hy; omega) Rcode ccode lo W hW)
  clear hT p_code q_name q_code
  go_enter Tryz.func56, Tryz.ntmps56
  go_wp2_with fail
  go_at_call 100
  refine (C_code.out _ (HP_code.out.below (by (repeat (with_reducible refine Below.setCell ?_ (by first | (simp; done) | (simp; omega)) _)); exact below3 _ _ _ _))).mono ?_
  rintro e v1 ⟨Rcodez, ccodez, rfl, hp1, hb1⟩
  obtain ⟨hc1, hf1⟩ := bcell hb1
  have d1_0 := keepCell (a := ⟨w.heap.size + 1 + 1, 0, none⟩) (v := .string x.name) hb1 (by go_simp)
  have r1_0 := keepCell (a := ⟨w.heap.size + 1, 0, none⟩) (v := .string ⟨#[]⟩) hb1 (by go_simp)
  have d1_1 := keepCell (a := ⟨w.heap.size + 1 + 1, 1, none⟩) (v := .int .i64 x.params) hb1 (by go_simp)
  have r1_1 := keepCell (a := ⟨w.heap.size + 1, 1, none⟩) (v := .int .i64 0) hb1 (by go_simp)
  have d1_2 := keepCell (a := ⟨w.heap.size + 1 + 1, 2, none⟩) (v := .int .i64 x.locals) hb1 (by go_simp)
  have r1_2 := keepCell (a := ⟨w.heap.size + 1, 2, none⟩) (v := .int .i64 0) hb1 (by go_simp)
  have d1_3 := keepCell (a := ⟨w.heap.size + 1 + 1, 3, none⟩) (v := .bool x.result) hb1 (by go_simp)
  have r1_3 := keepCell (a := ⟨w.heap.size + 1, 3, none⟩) (v := .bool false) hb1 (by go_simp)
  have d1_4 := keepCell (a := ⟨w.heap.size + 1 + 1, 4, none⟩) (v := .slice none 0 0) hb1 (by go_simp)
  have r1_4 := keepCell (a := ⟨w.heap.size + 1, 4, none⟩) (v := .slice none 0 0) hb1 (by go_simp)
  have HB1 : Hid (Below w.heap.size w v1) := Lib.hid (bnext (by (repeat (with_reducible refine Below.setCell ?_ (by first | (simp; done) | (simp; omega)) _)); exact below3 _ _ _ _) hb1)
  have HS1 := Lib.hid hb1
  have hz1 : w.heap.size + 1 + 1 < v1.heap.size := (by have h9 := hb1.size; simp at h9; omega)
  have g1 : ∀ o, v1.frozen? ⟨w.heap.size + 1, o, none⟩ = false := (fun o => (hf1 _ _ (by first | (simp; done) | (simp; omega))).trans (by go_simp))
  have h1 : ∀ o, v1.frozen? ⟨w.heap.size + 1 + 1, o, none⟩ = false := (fun o => (hf1 _ _ (by first | (simp; done) | (simp; omega))).trans (by go_simp))
  have P1 := Lib.hid (hp1.low (lo' := w.heap.size + 1 + 1 + 1) (by first | (simp; done) | (simp; omega)))
  clear hp1 hb1 hc1 hf1
  go_wp2_with fail
  have kk := sets_in (v1.setCell ⟨w.heap.size + 1 + 1, 4, none⟩ (.slice Rcodez x.code.length ccodez)) (w.heap.size + 1) [.string x.name, .int .i64 x.params, .int .i64 x.locals, .bool x.result, .slice Rcodez x.code.length ccodez] (fun j hj => by
    have h4 : j = 0 ∨ j = 1 ∨ j = 2 ∨ j = 3 ∨ j = 4 := by simp at hj; omega
    rcases h4 with rfl | rfl | rfl | rfl | rfl <;> simp [World.cell?_setCell_other, r1_0, r1_1, r1_2, r1_3, r1_4])
  have k0 : ((((((v1.setCell ⟨w.heap.size + 1 + 1, 4, none⟩ (.slice Rcodez x.code.length ccodez)).setCell ⟨w.heap.size + 1, 0, none⟩ (.string x.name)).setCell ⟨w.heap.size + 1, 1, none⟩ (.int .i64 x.params)).setCell ⟨w.heap.size + 1, 2, none⟩ (.int .i64 x.locals)).setCell ⟨w.heap.size + 1, 3, none⟩ (.bool x.result)).setCell ⟨w.heap.size + 1, 4, none⟩ (.slice Rcodez x.code.length ccodez)).cell? ⟨w.heap.size + 1, 0, none⟩ = some (.string x.name) := kk 0 (by simp)
  have k1 : ((((((v1.setCell ⟨w.heap.size + 1 + 1, 4, none⟩ (.slice Rcodez x.code.length ccodez)).setCell ⟨w.heap.size + 1, 0, none⟩ (.string x.name)).setCell ⟨w.heap.size + 1, 1, none⟩ (.int .i64 x.params)).setCell ⟨w.heap.size + 1, 2, none⟩ (.int .i64 x.locals)).setCell ⟨w.heap.size + 1, 3, none⟩ (.bool x.result)).setCell ⟨w.heap.size + 1, 4, none⟩ (.slice Rcodez x.code.length ccodez)).cell? ⟨w.heap.size + 1, 1, none⟩ = some (.int .i64 x.params) := kk 1 (by simp)
  have k2 : ((((((v1.setCell ⟨w.heap.size + 1 + 1, 4, none⟩ (.slice Rcodez x.code.length ccodez)).setCell ⟨w.heap.size + 1, 0, none⟩ (.string x.name)).setCell ⟨w.heap.size + 1, 1, none⟩ (.int .i64 x.params)).setCell ⟨w.heap.size + 1, 2, none⟩ (.int .i64 x.locals)).setCell ⟨w.heap.size + 1, 3, none⟩ (.bool x.result)).setCell ⟨w.heap.size + 1, 4, none⟩ (.slice Rcodez x.code.length ccodez)).cell? ⟨w.heap.size + 1, 2, none⟩ = some (.int .i64 x.locals) := kk 2 (by simp)
  have k3 : ((((((v1.setCell ⟨w.heap.size + 1 + 1, 4, none⟩ (.slice Rcodez x.code.length ccodez)).setCell ⟨w.heap.size + 1, 0, none⟩ (.string x.name)).setCell ⟨w.heap.size + 1, 1, none⟩ (.int .i64 x.params)).setCell ⟨w.heap.size + 1, 2, none⟩ (.int .i64 x.locals)).setCell ⟨w.heap.size + 1, 3, none⟩ (.bool x.result)).setCell ⟨w.heap.size + 1, 4, none⟩ (.slice Rcodez x.code.length ccodez)).cell? ⟨w.heap.size + 1, 3, none⟩ = some (.bool x.result) := kk 3 (by simp)
  have k4 : ((((((v1.setCell ⟨w.heap.size + 1 + 1, 4, none⟩ (.slice Rcodez x.code.length ccodez)).setCell ⟨w.heap.size + 1, 0, none⟩ (.string x.name)).setCell ⟨w.heap.size + 1, 1, none⟩ (.int .i64 x.params)).setCell ⟨w.heap.size + 1, 2, none⟩ (.int .i64 x.locals)).setCell ⟨w.heap.size + 1, 3, none⟩ (.bool x.result)).setCell ⟨w.heap.size + 1, 4, none⟩ (.slice Rcodez x.code.length ccodez)).cell? ⟨w.heap.size + 1, 4, none⟩ = some (.slice Rcodez x.code.length ccodez) := kk 4 (by simp)
  clear kk
  refine bodyPost_ret (v := .agg #[.string x.name, .int .i64 x.params, .int .i64 x.locals, .bool x.result, .slice Rcodez x.code.length ccodez]) (by simp [results, Tryz.results56, go_sem, k0, k1, k2, k3, k4]) rfl ?_
  refine ⟨_, _, rfl, ?_, ?_⟩
  · refine Ins.low (lo := w.heap.size + 1 + 1 + 1) ?_ (by omega)
    (repeat (with_reducible refine Ins.keep ?_ (KeptFrom.setCell (by first | (simp; done) | (simp; omega)) _)))
    exact P1.out
  · (repeat (with_reducible refine Below.setCell ?_ (by first | (simp; done) | (simp; omega)) _))
    exact HB1.out

theorem eqCore_any (x : Co) (hT : x.wt ≤ 1048576) (Rcode : Option Addr) (ccode : Nat) (Rcode' : Option Addr) (ccode' : Nat) (lo lo' : Nat) (w : World) (h : Co.At w lo x Rcode) (h' : Co.At w lo' x Rcode') :
    Calls Tryz.prog 75 #[.agg #[.string x.name, .int .i64 x.params, .int .i64 x.locals, .bool x.result, .slice Rcode x.code.length ccode], .agg #[.string x.name, .int .i64 x.params, .int .i64 x.locals, .bool x.result, .slice Rcode' x.code.length ccode']] w fun e w' => e = .returned (.bool true) ∧ Below w.heap.size w w' := by
  obtain ⟨q_name, q_code, _⟩ := Co.parts_le hT
  have p_code := h
  have pp_code := h'
  have HP_code := Lib.hid p_code
  have HQ_code := Lib.hid pp_code
  have C_code : Hid (∀ W : World, Ins W lo x.code Rcode → Ins W lo' x.code Rcode' → Calls Tryz.prog 109 #[.slice Rcode x.code.length ccode, .slice Rcode' x.code.length ccode'] W fun e w' => e = .returned (.bool true) ∧ Below W.heap.size W w') := Lib.hid (fun W h1 h2 => eqInsS_any x.code (by have := In.wts_nonneg x.code; omega) (fun i y hy => by have := In.wt_mem hy; omega) Rcode Rcode' ccode ccode' lo lo' W h1 h2)
  clear hT p_code pp_code q_name q_code
  go_enter Tryz.func75, Tryz.ntmps75
  go_wp2_with fail
  go_at_call 109
  refine (C_code.out _ (HP_code.out.below (below2 _ _ _)) (HQ_code.out.below (below2 _ _ _))).mono ?_
  rintro e v1 ⟨rfl, hb1⟩
  have HB1 := Lib.hid (bnext (below2 _ _ _) hb1)
  clear hb1
  go_wp2_with fail
  go_ret
  exact ⟨rfl, HB1.out⟩
end Go.Proofs.YtbjcldekapipaaaGreatDoor

namespace Go.Proofs.YtbjcldekapipaaaGreatDoor
open Go.ChangeShapes Go.WideShapes Go.ChangeAt Go.RowKit Go.Deep


theorem szCoreS_any (xs : List Co) (hl : xs.length ≤ maxLen) (hf : ∀ x ∈ xs, x.Fin) (left : Int) (h0 : 0 ≤ left) (h1 : left ≤ 1048576) (R : Option Addr) (cap lo : Nat) (w : World) (h : Cos w lo xs R) :
    Calls Tryz.prog 20 #[.slice R xs.length cap, .int .i64 left] w fun e w' => e = .returned (.int .i64 (leftOr (left - ((xs.length : Int) + Co.wts xs)))) ∧ Below w.heap.size w w' := by
  unfold maxLen at hl
  have hsum := Co.wts_nonneg xs
  have H := Lib.hid h
  have HF := Lib.hid hf
  clear h hf
  by_cases hn : left - (xs.length : Int) < 0
  · have hr := leftOr_neg (n := left - ((xs.length : Int) + Co.wts xs)) (by omega)
    rw [hr]
    go_enter Tryz.func20, Tryz.ntmps20
    go_wp2
    go_ret
    exact ⟨rfl, Below.refl _ _⟩
  · have hn' : (xs.length : Int) ≤ left := by omega
    obtain ⟨Q, hR⟩ : ∃ Q, leftOr (left - ((xs.length : Int) + Co.wts xs)) = Q := ⟨_, rfl⟩
    rw [hR]
    have HR := Lib.hid hR
    clear hR hn
    go_enter Tryz.func20, Tryz.ntmps20
    go_wp2
    go_loopw [1, 5] (fun l i wr => ∃ k : Nat, k ≤ xs.length ∧ i = .int .i64 k ∧ ∃ M : Int, l = .int .i64 M ∧ 0 ≤ M ∧ M ≤ 1048576 ∧ Hid (M = left - xs.length - Co.wts (xs.take k)) ∧ Below w.heap.size w wr) (fun _ i _ => xs.length - (intOf i).toNat)
    case atStart => exact ⟨0, Nat.zero_le _, rfl, _, rfl, by omega, by omega, by simp [Hid, Co.wts], Below.refl _ _⟩
    case round =>
      obtain ⟨k, hk, rfl, M, rfl, M0, M1, hM, hbel⟩ := hrel
      by_cases hlt : k < xs.length
      · obtain ⟨b, o, x, Rcode, ccode, rfl, _, hxk, hc⟩ := (H.out.below hbel).at_ hlt
        have C := Lib.hid (szCore_any x (HF.out x (List.mem_of_getElem? hxk)) M M0 M1 Rcode ccode lo wr hc.at_)
        have HST := Lib.hid (Co.wts_take hxk)
        have hle := Co.wts_take_le xs (k + 1)
        obtain ⟨c0, c1, c2, c3, c4, _⟩ := hc
        have HB := Lib.hid hbel
        have hlc := hbel.size
        have hwt := x.wt_nonneg
        clear hxk hbel
        generalize x.wt = wt at *
        by_cases hneg : M - wt < 0
        · have e := leftOr_neg hneg
          rw [e] at C
          go_wp2_with (go_at_call 49; (with_reducible refine C.out.mono ?_); rintro e wx ⟨rfl, hbx⟩)
          go_ret
          refine ⟨ret_int ?_, bchain HB.out hbx hlc⟩
          rw [← HR.out, leftOr_neg]
          have := hM.out
          have := HST.out
          omega
        · have e := leftOr_pos (n := M - wt) (by omega)
          rw [e] at C
          have hneg' : 0 ≤ M - wt := by omega
          clear hneg e
          obtain ⟨M', hM'⟩ : ∃ M', M - wt = M' := ⟨_, rfl⟩
          rw [hM'] at C hneg'
          have HM := Lib.hid hM'
          have hM1 : M' ≤ 1048576 := by omega
          clear hM'
          go_wp2_with (go_at_call 49; (with_reducible refine C.out.mono ?_); rintro e wx ⟨rfl, hbx⟩)
          go_roundw
          case rel => exact ⟨k + 1, by omega, by go_num, _, rfl, by omega, by omega, by have := hM.out; have := HST.out; have := HM.out; simp only [Hid]; omega, bchain HB.out hbx hlc⟩
          case measure => simp [intOf]; omega
      · have hk' : k = xs.length := by omega
        go_wp2
        go_ret
        refine ⟨ret_int ?_, hbel⟩
        have e := hM.out
        rw [hk', List.take_length] at e
        rw [← HR.out, leftOr_pos (by omega)]
        omega

/-- One element in a row that is being made. -/
def Co.El (w : World) (lo : Nat) (f : Nat → Value) (x : Co) : Prop := ∃ (Rcode : Option Addr), ∃ (ccode : Nat), (f 0 = .string x.name ∧ f 1 = .int .i64 x.params ∧ f 2 = .int .i64 x.locals ∧ f 3 = .bool x.result ∧ f 4 = .slice Rcode x.code.length ccode) ∧ Co.At w lo x Rcode
theorem Co.El.keep {w w' : World} {lo : Nat} {f : Nat → Value} {x : Co} (hk : KeptFrom lo w w') (h : Co.El w lo f x) : Co.El w' lo f x := by
  obtain ⟨Rcode, ccode, hc, ht⟩ := h
  exact ⟨_, _, hc, ht.keep hk⟩
theorem Cos.of_row {g : Nat} {xs : List Co} {wr : World} (h : RowGen Co.El 56 5 g xs.length xs.length xs wr) : Cos wr g xs (some ⟨g, 0, none⟩) := fun _ => by
  obtain ⟨f, hr, hf⟩ := h
  refine ⟨g, 0, rfl, Nat.le_refl _, fun i x hx => ?_⟩
  have hi := (List.getElem?_eq_some_iff.1 hx).1
  obtain ⟨Rcode, ccode, ⟨e0, e1, e2, e3, e4⟩, ht⟩ := hf i x hi hx
  rw [Nat.zero_add]
  exact ⟨_, _, by rw [hr.cell (by omega)]; exact congrArg some e0, by rw [hr.cell (by omega)]; exact congrArg some e1, by rw [hr.cell (by omega)]; exact congrArg some e2, by rw [hr.cell (by omega)]; exact congrArg some e3, by rw [hr.cell (by omega)]; exact congrArg some e4, ht.low (by omega)⟩
theorem infoCore : (Tryz.prog.info? 56).map (fun i => (i.zero, i.size, decide (i.bytes ≤ 4096))) = some (some (.agg #[.string ⟨#[]⟩, .int .i64 0, .int .i64 0, .bool false, .slice none 0 0]), 5, true) := by kernel_rfl
set_option maxRecDepth 100000 in
theorem toCoreS_any (xs : List Co) (hl : xs.length ≤ 1048576) (hw : ∀ (i : Nat) (x : Co), xs[i]? = some x → x.wt ≤ 1048576) (R : Option Addr) (cap lo : Nat) (w : World) (h : Cos w lo xs R) :
    Calls Tryz.prog 25 #[.slice R xs.length cap] w fun e w' => ∃ (R' : Option Addr) (c' : Nat), e = .returned (.slice R' xs.length c') ∧ xs.length ≤ c' ∧ Cos w' w.heap.size xs R' ∧ Below w.heap.size w w' := by
  have H := Lib.hid h
  have HW := Lib.hid hw
  clear h hw
  have hmk := fun W => make_row W 29 56 5 _ Tryz.underlying29 infoCore xs.length hl
  go_enter Tryz.func25, Tryz.ntmps25
  go_wp2
  go_loopw [4] (fun i wr => ∃ k : Nat, k ≤ xs.length ∧ i = .int .i64 k ∧ RowGen Co.El 56 5 w.heap.size xs.length k xs wr ∧ Below w.heap.size w wr) (fun i _ => xs.length - (intOf i).toNat)
  case atStart => exact ⟨0, Nat.zero_le _, rfl, RowGen.start (size_madeCells _ _), below1 _ _⟩
  case round =>
    obtain ⟨k, hk, rfl, hrow, hbel⟩ := hrel
    clear hmk
    by_cases hlt : k < xs.length
    · obtain ⟨b, o, x, Rcode, ccode, rfl, _, hxk, hc⟩ := (H.out.below hbel).at_ hlt
      have C := Lib.hid (toCore_any x (HW.out k x hxk) Rcode ccode lo wr hc.at_)
      obtain ⟨c0, c1, c2, c3, c4, _⟩ := hc
      have HB := Lib.hid hbel
      have HR := Lib.hid hrow
      have HT := Lib.hid hxk
      have hlc := hbel.size
      have hgl := hrow.lt
      clear hxk hbel hrow
      go_wp2_with fail
      go_at_call 56
      refine C.out.mono ?_
      rintro e w2 ⟨Rcodez, ccodez, rfl, hat, hb2⟩
      have HR2 := Lib.hid (HR.out.below (E := Co.El) Co.El.keep hb2)
      have HA2 := Lib.hid (hat.low (lo' := w.heap.size + 1) hgl)
      obtain ⟨x0, y0⟩ := HR2.out.cells hlt 0 (by omega)
      have z0 := HR2.out.free (k * 5)
      obtain ⟨x1, y1⟩ := HR2.out.cells hlt 1 (by omega)
      have z1 := HR2.out.free (k * 5 + 1)
      obtain ⟨x2, y2⟩ := HR2.out.cells hlt 2 (by omega)
      have z2 := HR2.out.free (k * 5 + 2)
      obtain ⟨x3, y3⟩ := HR2.out.cells hlt 3 (by omega)
      have z3 := HR2.out.free (k * 5 + 3)
      obtain ⟨x4, y4⟩ := HR2.out.cells hlt 4 (by omega)
      have z4 := HR2.out.free (k * 5 + 4)
      rw [Nat.add_zero] at y0
      have hlt2 : w.heap.size < w2.heap.size := Nat.lt_of_lt_of_le hgl hb2.size
      have HB2 := Lib.hid (bchain HB.out hb2 hlc)
      clear hat hb2
      go_wp2_with fail
      go_roundw
      case rel =>
        refine ⟨k + 1, by omega, by go_num, RowGen.step (E := Co.El) Co.El.keep HR2.out HT.out [.string x.name, .int .i64 x.params, .int .i64 x.locals, .bool x.result, .slice Rcodez x.code.length ccodez] rfl ⟨_, _, ⟨rfl, rfl, rfl, rfl, rfl⟩, HA2.out⟩, ?_⟩
        (repeat (with_reducible refine Below.setCell ?_ (by simp) _))
        exact HB2.out
      case measure => simp [intOf]; omega
    · have hk' : k = xs.length := by omega
      have HR := Lib.hid hrow
      have HB := Lib.hid hbel
      clear hrow hbel
      go_wp2
      go_ret
      refine ⟨_, _, rfl, Nat.le_refl _, Cos.of_row ?_, HB.out⟩
      have := HR.out
      rw [hk'] at this
      exact this

theorem eqCoreS_any (xs : List Co) (hl : xs.length ≤ 1048576) (hw : ∀ (i : Nat) (x : Co), xs[i]? = some x → x.wt ≤ 1048576) (R R' : Option Addr) (cap cap' lo lo' : Nat) (w : World) (h : Cos w lo xs R) (h' : Cos w lo' xs R') :
    Calls Tryz.prog 33 #[.slice R xs.length cap, .slice R' xs.length cap'] w fun e w' => e = .returned (.bool true) ∧ Below w.heap.size w w' := by
  have H := Lib.hid h
  have H' := Lib.hid h'
  have HW := Lib.hid hw
  clear h h' hw
  go_enter Tryz.func33, Tryz.ntmps33
  go_wp2
  go_loopw [5] (fun i wr => ∃ k : Nat, k ≤ xs.length ∧ i = .int .i64 k ∧ Below w.heap.size w wr) (fun i _ => xs.length - (intOf i).toNat)
  case atStart => exact ⟨0, Nat.zero_le _, rfl, Below.refl _ _⟩
  case round =>
    obtain ⟨k, hk, rfl, hbel⟩ := hrel
    by_cases hlt : k < xs.length
    · obtain ⟨b, o, x, Rcode, ccode, rfl, _, hxk, hc⟩ := (H.out.below hbel).at_ hlt
      obtain ⟨b', o', x', Rcode', ccode', rfl, _, hxk', hc'⟩ := (H'.out.below hbel).at_ hlt
      obtain rfl : x = x' := by
        rw [hxk] at hxk'
        exact Option.some.inj hxk'
      have C : Hid (∀ n : Nat, Calls Tryz.prog 75 #[.agg #[.string x.name, .int .i64 x.params, .int .i64 x.locals, .bool x.result, .slice Rcode x.code.length ccode], .agg #[.string x.name, .int .i64 x.params, .int .i64 x.locals, .bool x.result, .slice Rcode' x.code.length ccode']] (wr.drewN n) fun e w' => e = .returned (.bool true) ∧ Below wr.heap.size (wr.drewN n) w') := Lib.hid (fun n => eqCore_any x (HW.out k x hxk) Rcode ccode Rcode' ccode' lo lo' (wr.drewN n) (hc.at_.below (belowN (Below.refl _ _) n)) (hc'.at_.below (belowN (Below.refl _ _) n)))
      obtain ⟨c0, c1, c2, c3, c4, _⟩ := hc
      obtain ⟨d0, d1, d2, d3, d4, _⟩ := hc'
      have HB := Lib.hid hbel
      have hli : (k : Int) < (xs.length : Int) := by omega
      clear hxk hxk' hbel
      go_wp2_with fail
      go_region_held3 (fun w' => w'.cell? ⟨b, o + k * 5, none⟩ = some (.string x.name) ∧ w'.cell? ⟨b, o + k * 5 + 1, none⟩ = some (.int .i64 x.params) ∧ w'.cell? ⟨b, o + k * 5 + 2, none⟩ = some (.int .i64 x.locals) ∧ w'.cell? ⟨b, o + k * 5 + 3, none⟩ = some (.bool x.result) ∧ w'.cell? ⟨b, o + k * 5 + 4, none⟩ = some (.slice Rcode x.code.length ccode) ∧ w'.cell? ⟨b', o' + k * 5, none⟩ = some (.string x.name) ∧ w'.cell? ⟨b', o' + k * 5 + 1, none⟩ = some (.int .i64 x.params) ∧ w'.cell? ⟨b', o' + k * 5 + 2, none⟩ = some (.int .i64 x.locals) ∧ w'.cell? ⟨b', o' + k * 5 + 3, none⟩ = some (.bool x.result) ∧ w'.cell? ⟨b', o' + k * 5 + 4, none⟩ = some (.slice Rcode' x.code.length ccode') ∧ Below wr.heap.size wr w')
        (first | assumption | (exact (Below.refl _ _).drew) | (exact ⟨c0, c1, c2, c3, c4, d0, d1, d2, d3, d4, (Below.refl _ _).drew⟩) | (refine ⟨?_, ?_, ?_, ?_, ?_, ?_, ?_, ?_, ?_, ?_, ?_⟩ <;> assumption))
        (first | (go_at_call 75; refine (C.out 1).mono ?_; rintro e wx ⟨rfl, hbx⟩; have hbw : Below wr.heap.size wr wx := (Below.refl wr.heap.size wr).drew.trans hbx; have p0 := keepCell hbw c0; have p1 := keepCell hbw c1; have p2 := keepCell hbw c2; have p3 := keepCell hbw c3; have p4 := keepCell hbw c4; have q0 := keepCell hbw d0; have q1 := keepCell hbw d1; have q2 := keepCell hbw d2; have q3 := keepCell hbw d3; have q4 := keepCell hbw d4))
      go_wp2_with fail
      go_roundw
      case rel => exact ⟨k + 1, by omega, by go_num, bnext HB.out (by assumption)⟩
      case measure => simp [intOf]; omega
    · go_wp2
      go_ret
      exact ⟨rfl, hbel⟩
end Go.Proofs.YtbjcldekapipaaaGreatDoor

