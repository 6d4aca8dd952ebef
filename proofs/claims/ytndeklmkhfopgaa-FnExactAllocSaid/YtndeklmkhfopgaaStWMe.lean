/-
  Walks of measuring, copying and comparing Memory by value and in slices.
-/
import Derived.Test.YtndeklmkhfopgaaStMe
import Derived.Test.YtndeklmkhfopgaaRowGen
import Derived.Test.YtndeklmkhfopgaaStEx
import Derived.Test.YtndeklmkhfopgaaStWSBk
namespace Go.Proofs.Ytndeklmkhfopgaa
open Go.ChangeShapes Go.WideShapes Go.ChangeAt Go.RowKit Go.Deep

theorem Me.parts_le {x : Me} (h : x.wt ≤ 1048576) : (x.bytes.size : Int) ≤ 1048576 ∧ ((x.free.length : Int) + Bk.wts x.free) ≤ 1048576 ∧ True := by
  have := Bk.wts_nonneg x.free
  unfold Me.wt at h
  refine ⟨by omega, by omega, trivial⟩

theorem szMemory_any (x : Me) (hf : x.Fin) (left : Int) (h0 : 0 ≤ left) (h1 : left ≤ 1048576) (Rfree : Option Addr) (cfree : Nat) (lo : Nat) (w : World) (h : Me.At w lo x Rfree) :
    Calls Try.prog 27 #[.agg #[.string x.bytes, .slice Rfree x.free.length cfree], .int .i64 left] w fun e w' => e = .returned (.int .i64 (leftOr (left - x.wt))) ∧ Below w.heap.size w w' := by
  obtain ⟨f0, f1⟩ := hf
  have hw : x.wt = (x.bytes.size : Int) + ((x.free.length : Int) + Bk.wts x.free) := rfl
  have n_free := Bk.wts_nonneg x.free
  have p_free := h
  have HP_free := Lib.hid p_free
  have C_free : Hid (∀ (l : Int), 0 ≤ l → l ≤ 1048576 → ∀ W : World, Bks W lo x.free Rfree → Calls Try.prog 64 #[.slice Rfree x.free.length cfree, .int .i64 l] W fun e w' => e = .returned (.int .i64 (leftOr (l - ((x.free.length : Int) + Bk.wts x.free)))) ∧ Below W.heap.size W w') := Lib.hid (fun l l0 l1 W hW => szBlockS_any x.free f1.1 f1.2 l l0 l1 Rfree cfree lo W hW)
  unfold maxLen at f0
  obtain ⟨R, hR⟩ : ∃ R, leftOr (left - x.wt) = R := ⟨_, rfl⟩
  rw [hR]
  have HRR := Lib.hid hR
  have HW := Lib.hid hw
  clear hR hw p_free
  generalize Bk.wts x.free = w_free at *
  generalize x.free.length = l_free at *
  generalize x.wt = W0 at *
  by_cases e1 : left - (x.bytes.size : Int) < 0
  · go_enter Try.func27, Try.ntmps27
    go_wp2_with fail
    go_ret
    refine ⟨ret_int ?_, below1 _ _⟩
    have := HW.out
    rw [← HRR.out, leftOr_neg (by omega)]
  · obtain ⟨M1, hm1⟩ : ∃ M, left - (x.bytes.size : Int) = M := ⟨_, rfl⟩
    have hx1 : 0 ≤ M1 := by omega
    have hy1 : M1 ≤ 1048576 := by omega
    have Hm1 := Lib.hid hm1
    have e1' : (x.bytes.size : Int) ≤ left := by omega
    clear e1
    go_enter Try.func27, Try.ntmps27
    go_wp2_with fail
    (try rw [hm1])
    go_at_call 64
    refine (C_free.out _ hx1 hy1 _ (HP_free.out.below (below1 _ _))).mono ?_
    rintro e v2 ⟨rfl, hb2⟩
    have HB2 := Lib.hid (bnext (below1 _ _) hb2)
    clear hb2
    by_cases e2 : M1 - ((l_free : Int) + w_free) < 0
    · rw [leftOr_neg e2]
      go_wp2_with fail
      go_ret
      refine ⟨ret_int ?_, HB2.out⟩
      have := HW.out
      have := Hm1.out
      rw [← HRR.out, leftOr_neg (by omega)]
    · rw [leftOr_pos (by omega)]
      obtain ⟨M2, hm2⟩ : ∃ M, M1 - ((l_free : Int) + w_free) = M := ⟨_, rfl⟩
      rw [hm2]
      have hx2 : 0 ≤ M2 := by omega
      have hy2 : M2 ≤ 1048576 := by omega
      have Hm2 := Lib.hid hm2
      clear e2 hm2
      go_wp2_with fail
      go_ret
      refine ⟨ret_int ?_, HB2.out⟩
      have := HW.out
      have := Hm1.out
      have := Hm2.out
      rw [← HRR.out, leftOr_pos (by omega)]
      omega

/-- What copying leaves: the same in new memory. -/
def ToMemoryPost (x : Me) (w : World) (e : Ending) (w' : World) : Prop := ∃ (Rfree : Option Addr), ∃ (cfree : Nat), e = .returned (.agg #[.string x.bytes, .slice Rfree x.free.length cfree]) ∧ Me.At w' w.heap.size x Rfree ∧ Below w.heap.size w w'
set_option maxRecDepth 100000 in
theorem toMemory_any (x : Me) (hT : x.wt ≤ 1048576) (Rfree : Option Addr) (cfree : Nat) (lo : Nat) (w : World) (h : Me.At w lo x Rfree) :
    Calls Try.prog 29 #[.agg #[.string x.bytes, .slice Rfree x.free.length cfree]] w (ToMemoryPost x w) := by
  obtain ⟨q_bytes, q_free, _⟩ := Me.parts_le hT
  have p_free := h
  have HP_free := Lib.hid p_free
  have C_free : Hid (∀ W : World, Bks W lo x.free Rfree → Calls Try.prog 67 #[.slice Rfree x.free.length cfree] W fun e w' => ∃ (Rfree' : Option Addr), ∃ (cfree' : Nat), e = .returned (.slice Rfree' x.free.length cfree') ∧ Bks w' W.heap.size x.free Rfree' ∧ Below W.heap.size W w') := Lib.hid (fun W hW => toBlockS_any x.free (by have := Bk.wts_nonneg x.free; omega) (fun i y hy => by have := Bk.wt_mem hy; omega) Rfree cfree lo W hW)
  clear hT p_free q_bytes q_free
  go_enter Try.func29, Try.ntmps29
  go_wp2_with fail
  go_at_call 67
  refine (C_free.out _ (HP_free.out.below (by (repeat (with_reducible refine Below.setCell ?_ (by first | (simp; done) | (simp; omega)) _)); exact below3 _ _ _ _))).mono ?_
  rintro e v1 ⟨Rfreez, cfreez, rfl, hp1, hb1⟩
  obtain ⟨hc1, hf1⟩ := bcell hb1
  have d1_0 := keepCell (a := ⟨w.heap.size + 1 + 1, 0, none⟩) (v := .string x.bytes) hb1 (by go_simp)
  have r1_0 := keepCell (a := ⟨w.heap.size + 1, 0, none⟩) (v := .string ⟨#[]⟩) hb1 (by go_simp)
  have d1_1 := keepCell (a := ⟨w.heap.size + 1 + 1, 1, none⟩) (v := .slice none 0 0) hb1 (by go_simp)
  have r1_1 := keepCell (a := ⟨w.heap.size + 1, 1, none⟩) (v := .slice none 0 0) hb1 (by go_simp)
  have HB1 : Hid (Below w.heap.size w v1) := Lib.hid (bnext (by (repeat (with_reducible refine Below.setCell ?_ (by first | (simp; done) | (simp; omega)) _)); exact below3 _ _ _ _) hb1)
  have HS1 := Lib.hid hb1
  have hz1 : w.heap.size + 1 + 1 < v1.heap.size := (by have h9 := hb1.size; simp at h9; omega)
  have g1 : ∀ o, v1.frozen? ⟨w.heap.size + 1, o, none⟩ = false := (fun o => (hf1 _ _ (by first | (simp; done) | (simp; omega))).trans (by go_simp))
  have h1 : ∀ o, v1.frozen? ⟨w.heap.size + 1 + 1, o, none⟩ = false := (fun o => (hf1 _ _ (by first | (simp; done) | (simp; omega))).trans (by go_simp))
  have P1 := Lib.hid (hp1.low (lo' := w.heap.size + 1 + 1 + 1) (by first | (simp; done) | (simp; omega)))
  clear hp1 hb1 hc1 hf1
  go_wp2_with fail
  have kk := sets_in (v1.setCell ⟨w.heap.size + 1 + 1, 1, none⟩ (.slice Rfreez x.free.length cfreez)) (w.heap.size + 1) [.string x.bytes, .slice Rfreez x.free.length cfreez] (fun j hj => by
    have h4 : j = 0 ∨ j = 1 := by simp at hj; omega
    rcases h4 with rfl | rfl <;> simp [World.cell?_setCell_other, r1_0, r1_1])
  have k0 : (((v1.setCell ⟨w.heap.size + 1 + 1, 1, none⟩ (.slice Rfreez x.free.length cfreez)).setCell ⟨w.heap.size + 1, 0, none⟩ (.string x.bytes)).setCell ⟨w.heap.size + 1, 1, none⟩ (.slice Rfreez x.free.length cfreez)).cell? ⟨w.heap.size + 1, 0, none⟩ = some (.string x.bytes) := kk 0 (by simp)
  have k1 : (((v1.setCell ⟨w.heap.size + 1 + 1, 1, none⟩ (.slice Rfreez x.free.length cfreez)).setCell ⟨w.heap.size + 1, 0, none⟩ (.string x.bytes)).setCell ⟨w.heap.size + 1, 1, none⟩ (.slice Rfreez x.free.length cfreez)).cell? ⟨w.heap.size + 1, 1, none⟩ = some (.slice Rfreez x.free.length cfreez) := kk 1 (by simp)
  clear kk
  refine bodyPost_ret (v := .agg #[.string x.bytes, .slice Rfreez x.free.length cfreez]) (by simp [results, Try.results29, go_sem, k0, k1]) rfl ?_
  refine ⟨_, _, rfl, ?_, ?_⟩
  · refine Bks.low (lo := w.heap.size + 1 + 1 + 1) ?_ (by omega)
    (repeat (with_reducible refine Bks.keep ?_ (KeptFrom.setCell (by first | (simp; done) | (simp; omega)) _)))
    exact P1.out
  · (repeat (with_reducible refine Below.setCell ?_ (by first | (simp; done) | (simp; omega)) _))
    exact HB1.out

theorem eqMemory_any (x : Me) (hT : x.wt ≤ 1048576) (Rfree : Option Addr) (cfree : Nat) (Rfree' : Option Addr) (cfree' : Nat) (lo lo' : Nat) (w : World) (h : Me.At w lo x Rfree) (h' : Me.At w lo' x Rfree') :
    Calls Try.prog 31 #[.agg #[.string x.bytes, .slice Rfree x.free.length cfree], .agg #[.string x.bytes, .slice Rfree' x.free.length cfree']] w fun e w' => e = .returned (.bool true) ∧ Below w.heap.size w w' := by
  obtain ⟨q_bytes, q_free, _⟩ := Me.parts_le hT
  have p_free := h
  have pp_free := h'
  have HP_free := Lib.hid p_free
  have HQ_free := Lib.hid pp_free
  have C_free : Hid (∀ W : World, Bks W lo x.free Rfree → Bks W lo' x.free Rfree' → Calls Try.prog 71 #[.slice Rfree x.free.length cfree, .slice Rfree' x.free.length cfree'] W fun e w' => e = .returned (.bool true) ∧ Below W.heap.size W w') := Lib.hid (fun W h1 h2 => eqBlockS_any x.free (by have := Bk.wts_nonneg x.free; omega) (fun i y hy => by have := Bk.wt_mem hy; omega) Rfree Rfree' cfree cfree' lo lo' W h1 h2)
  clear hT p_free pp_free q_bytes q_free
  go_enter Try.func31, Try.ntmps31
  go_wp2_with fail
  go_at_call 71
  refine (C_free.out _ (HP_free.out.below (below2 _ _ _)) (HQ_free.out.below (below2 _ _ _))).mono ?_
  rintro e v1 ⟨rfl, hb1⟩
  have HB1 := Lib.hid (bnext (below2 _ _ _) hb1)
  clear hb1
  go_wp2_with fail
  go_ret
  exact ⟨rfl, HB1.out⟩
end Go.Proofs.Ytndeklmkhfopgaa
