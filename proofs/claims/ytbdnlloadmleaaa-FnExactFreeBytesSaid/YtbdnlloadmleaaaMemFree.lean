/-
  Both FreeBytes walk as memFree says.
-/
import Derived.Test.YtbdnlloadmleaaaMemOkI
namespace Go.Proofs.Ytbdnlloadmleaaa
open Go.ChangeShapes Go.WideShapes Go.ChangeAt Go.RowKit Go.Deep

theorem memFree_yes {x : Me} (h : memOk x = true) : memFree x = sumBk x.free := by
  unfold memFree
  rw [if_pos h]
theorem memFree_no {x : Me} (h : ¬ memOk x = true) : memFree x = 0 := by
  unfold memFree
  rw [if_neg h]
theorem sum_range {x : Me} (h : memOk x = true) (k : Nat) : 0 ≤ sumBk (x.free.take k) ∧ sumBk (x.free.take k) ≤ 4096 := by
  obtain ⟨h1, h2⟩ := memOk_iff.1 h
  have h3 := okFrom_take k h2
  rcases okFrom_len h2 with e | e
  · rw [e]
    simp [sumBk]
  · have := sumBk_le h3 (by omega)
    omega

set_option maxHeartbeats 1000000 in
set_option maxRecDepth 100000 in
theorem specFreeBytes_any (x : Me) (hT : x.wt ≤ 1048576) (hfin : x.Fin) (Rfree : Option Addr) (cfree : Nat) (lo : Nat) (w : World) (h : Me.At w lo x Rfree) :
    Calls Try.prog 36 #[.agg #[.string x.bytes, .slice Rfree x.free.length cfree]] w fun e w' => e = .returned (.int .i64 (memFree x)) ∧ Below w.heap.size w w' := by
  obtain ⟨q_bytes, q_free, _⟩ := Me.parts_le hT
  rw [Bk.wts_zero] at q_free
  have CM := fun R W (h : Me.At W lo x R) => specMemoryOk_any x hT hfin R cfree lo W h
  have H := Lib.hid h
  clear h hfin hT
  by_cases hok : memOk x = true
  · rw [memFree_yes hok]
    rw [hok] at CM
    have CM := Lib.hid CM
    have HS := Lib.hid (fun k => sum_range hok k)
    obtain ⟨Q, hQ⟩ : ∃ Q, sumBk x.free = Q := ⟨_, rfl⟩
    rw [hQ]
    have HQ := Lib.hid hQ
    clear hQ hok
    go_enter Try.func36, Try.ntmps36
    go_wp2_with fail
    go_loopw [3, 4] (fun l i wr => ∃ k : Nat, k ≤ x.free.length ∧ i = .int .i64 k ∧ ∃ M : Int, l = .int .i64 M ∧ 0 ≤ M ∧ M ≤ 4096 ∧ Hid (M = sumBk (x.free.take k)) ∧ wr.cell? ⟨w.heap.size, 0, none⟩ = some (.string x.bytes) ∧ wr.cell? ⟨w.heap.size, 1, none⟩ = some (.slice Rfree x.free.length cfree) ∧ Below w.heap.size w wr) (fun _ i _ => x.free.length - (intOf i).toNat)
    case atStart => exact ⟨0, Nat.zero_le _, rfl, 0, rfl, by omega, by omega, rfl, by go_simp, by go_simp, below1 _ _⟩
    case round =>
      obtain ⟨k, hk, rfl, M, rfl, M0, M1, hM, kb, kc, hbel⟩ := hrel
      by_cases hlt : k < x.free.length
      · obtain ⟨b, o, y, rfl, _, hyk, hc⟩ := (Me.At.below H.out hbel).at_ hlt
        obtain ⟨c0, c1, _⟩ := hc
        have HY := Lib.hid (sumBk_take hyk)
        have hs := HS.out (k + 1)
        have HB := Lib.hid hbel
        have hli : (k : Int) < (x.free.length : Int) := by omega
        have hy0 : 0 ≤ M + y.size := by rw [hM.out, ← HY.out]; omega
        have hy1 : M + y.size ≤ 4096 := by rw [hM.out, ← HY.out]; omega
        clear hyk hbel hs
        go_wp2_with fail
        go_at_call 16
        refine (CM.out _ _ (Me.At.below H.out HB.out)).mono ?_
        rintro e w2 ⟨rfl, hb2⟩
        replace kb := keepCell hb2 kb
        replace kc := keepCell hb2 kc
        replace c1 := keepCell hb2 c1
        have HB2 := Lib.hid (bnext HB.out hb2)
        clear hb2 c0
        go_wp2_with fail
        go_roundw
        case rel => exact ⟨k + 1, by omega, by go_num, _, rfl, hy0, hy1, (congrArg (· + y.size) hM.out).trans HY.out.symm, kb, kc, HB2.out⟩
        case measure => simp [intOf]; omega
      · have hk' : k = x.free.length := by omega
        have HB := Lib.hid hbel
        have hq : M = Q := by
          have e := hM.out
          rw [hk', List.take_length] at e
          exact e.trans HQ.out
        subst hq
        clear hbel
        go_wp2_with fail
        go_ret
        exact ⟨rfl, HB.out⟩
  · rw [memFree_no hok]
    rw [Bool.not_eq_true] at hok
    rw [hok] at CM
    have CM := Lib.hid CM
    clear hok
    go_enter Try.func36, Try.ntmps36
    go_wp2_with fail
    go_loopw [3, 4] (fun l i wr => i = .int .i64 0 ∧ l = .int .i64 0 ∧ wr.cell? ⟨w.heap.size, 0, none⟩ = some (.string x.bytes) ∧ wr.cell? ⟨w.heap.size, 1, none⟩ = some (.slice Rfree x.free.length cfree) ∧ Below w.heap.size w wr) (fun _ _ _ => 0)
    case atStart => exact ⟨rfl, rfl, by go_simp, by go_simp, below1 _ _⟩
    case round =>
      obtain ⟨rfl, rfl, kb, kc, hbel⟩ := hrel
      have HB := Lib.hid hbel
      clear hbel
      by_cases hlt : 0 < x.free.length
      · have hli : (0 : Int) < (x.free.length : Int) := by omega
        go_wp2_with fail
        go_at_call 16
        refine (CM.out _ _ (Me.At.below H.out HB.out)).mono ?_
        rintro e w2 ⟨rfl, hb2⟩
        have HB2 := Lib.hid (bnext HB.out hb2)
        clear hb2
        go_wp2_with fail
        go_ret
        exact ⟨rfl, HB2.out⟩
      · have hli : (x.free.length : Int) ≤ 0 := by omega
        go_wp2_with fail
        go_ret
        exact ⟨rfl, HB.out⟩

set_option maxHeartbeats 1000000 in
set_option maxRecDepth 100000 in
theorem implFreeBytes_any (x : Me) (hT : x.wt ≤ 1048576) (hfin : x.Fin) (Rfree : Option Addr) (cfree : Nat) (lo : Nat) (w : World) (h : Me.At w lo x Rfree) :
    Calls Try.prog 37 #[.agg #[.string x.bytes, .slice Rfree x.free.length cfree]] w fun e w' => e = .returned (.int .i64 (memFree x)) ∧ Below w.heap.size w w' := by
  obtain ⟨q_bytes, q_free, _⟩ := Me.parts_le hT
  rw [Bk.wts_zero] at q_free
  have CM := fun R W (h : Me.At W lo x R) => implMemoryOk_any x hT hfin R cfree lo W h
  have H := Lib.hid h
  clear h hfin hT
  by_cases hok : memOk x = true
  · rw [memFree_yes hok]
    rw [hok] at CM
    have CM := Lib.hid CM
    have HS := Lib.hid (fun k => sum_range hok k)
    obtain ⟨Q, hQ⟩ : ∃ Q, sumBk x.free = Q := ⟨_, rfl⟩
    rw [hQ]
    have HQ := Lib.hid hQ
    clear hQ hok
    go_enter Try.func37, Try.ntmps37
    go_wp2_with fail
    go_at_call 18
    refine (CM.out _ _ (Me.At.below H.out (below1 _ _))).mono ?_
    rintro e w1 ⟨rfl, hb1⟩
    have kc := keepCell (a := ⟨w.heap.size, 1, none⟩) (v := .slice Rfree x.free.length cfree) hb1 (by go_simp)
    have HB1 := Lib.hid (bnext (below1 _ _) hb1)
    clear hb1
    go_wp2_with fail
    go_loopw [3, 12] (fun l i wr => ∃ k : Nat, k ≤ x.free.length ∧ i = .int .i64 k ∧ ∃ M : Int, l = .int .i64 M ∧ 0 ≤ M ∧ M ≤ 4096 ∧ Hid (M = sumBk (x.free.take k)) ∧ Below w.heap.size w wr) (fun _ i _ => x.free.length - (intOf i).toNat)
    case atStart => exact ⟨0, Nat.zero_le _, rfl, 0, rfl, by omega, by omega, rfl, HB1.out⟩
    case round =>
      obtain ⟨k, hk, rfl, M, rfl, M0, M1, hM, hbel⟩ := hrel
      by_cases hlt : k < x.free.length
      · obtain ⟨b, o, y, rfl, _, hyk, hc⟩ := (Me.At.below H.out hbel).at_ hlt
        obtain ⟨c0, c1, _⟩ := hc
        have HY := Lib.hid (sumBk_take hyk)
        have hs := HS.out (k + 1)
        have HB := Lib.hid hbel
        have hli : (k : Int) < (x.free.length : Int) := by omega
        have hy0 : 0 ≤ M + y.size := by rw [hM.out, ← HY.out]; omega
        have hy1 : M + y.size ≤ 4096 := by rw [hM.out, ← HY.out]; omega
        clear hyk hbel hs
        go_wp2_with fail
        go_roundw
        case rel => exact ⟨k + 1, by omega, by go_num, _, rfl, hy0, hy1, (congrArg (· + y.size) hM.out).trans HY.out.symm, HB.out.alloc (by have := HB.out.size; omega) _⟩
        case measure => simp [intOf]; omega
      · have hk' : k = x.free.length := by omega
        have HB := Lib.hid hbel
        have hq : M = Q := by
          have e := hM.out
          rw [hk', List.take_length] at e
          exact e.trans HQ.out
        subst hq
        clear hbel
        go_wp2_with fail
        go_ret
        exact ⟨rfl, HB.out⟩
  · rw [memFree_no hok]
    rw [Bool.not_eq_true] at hok
    rw [hok] at CM
    have CM := Lib.hid CM
    clear hok
    go_enter Try.func37, Try.ntmps37
    go_wp2_with fail
    go_at_call 18
    refine (CM.out _ _ (Me.At.below H.out (below1 _ _))).mono ?_
    rintro e w1 ⟨rfl, hb1⟩
    have HB1 := Lib.hid (bnext (below1 _ _) hb1)
    clear hb1
    go_wp2_with fail
    go_ret
    exact ⟨rfl, HB1.out⟩
end Go.Proofs.Ytbdnlloadmleaaa
