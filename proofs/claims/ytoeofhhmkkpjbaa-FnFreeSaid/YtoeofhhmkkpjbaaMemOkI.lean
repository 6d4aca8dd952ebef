/-
  The program's MemoryOk walks as memOk says.
-/
import Derived.Test.YtoeofhhmkkpjbaaMemOkS
namespace Go.Proofs.Ytoeofhhmkkpjbaa
open Go.ChangeShapes Go.WideShapes Go.ChangeAt Go.RowKit Go.Deep

theorem inBounds_any (s : ByteArray) (hs : (s.size : Int) ≤ 1048576) (R : Option Addr) (l c : Nat) (p n : Int) (hp : -9223372036854775808 ≤ p) (hp' : p ≤ 9223372036854775807) (w : World) :
    Calls Try.prog 36 #[.agg #[.string s, .slice R l c], .int .i64 p, .int .i64 n] w fun e w' => e = .returned (.bool (decide (0 ≤ p ∧ 0 ≤ n ∧ n ≤ (s.size : Int) - p))) ∧ Below w.heap.size w w' := by
  by_cases h : 0 ≤ p ∧ 0 ≤ n ∧ n ≤ (s.size : Int) - p
  · rw [decide_eq_true h]
    obtain ⟨h1, h2, h3⟩ := h
    go_enter Try.func36, Try.ntmps36
    go_wp2_with fail
    all_goals go_ret
    all_goals exact ⟨by first | rfl | exact ret_bool (decide_eq_true (by omega)), below1 _ _⟩
  · rw [decide_eq_false h]
    go_enter Try.func36, Try.ntmps36
    go_wp2_with fail
    all_goals go_ret
    all_goals exact ⟨by first | rfl | exact ret_bool (decide_eq_false (by omega)), below1 _ _⟩
theorem end_any (p n : Int) (h : -9223372036854775808 ≤ p + n) (h' : p + n ≤ 9223372036854775807) (w : World) :
    Calls Try.prog 39 #[.agg #[.int .i64 p, .int .i64 n]] w fun e w' => e = .returned (.int .i64 (p + n)) ∧ Below w.heap.size w w' := by
  go_enter Try.func39, Try.ntmps39
  go_wp2_with fail
  go_ret
  exact ⟨rfl, below1 _ _⟩

set_option maxHeartbeats 1000000 in
set_option maxRecDepth 100000 in
theorem implMemoryOk_any (x : Me) (hT : x.wt ≤ 1048576) (hfin : x.Fin) (Rfree : Option Addr) (cfree : Nat) (lo : Nat) (w : World) (h : Me.At w lo x Rfree) :
    Calls Try.prog 34 #[.agg #[.string x.bytes, .slice Rfree x.free.length cfree]] w fun e w' => e = .returned (.bool (memOk x)) ∧ Below w.heap.size w w' := by
  obtain ⟨q_bytes, q_free, _⟩ := Me.parts_le hT
  rw [Bk.wts_zero] at q_free
  have HF := Lib.hid hfin.2.2
  have H := Lib.hid h
  clear h hfin hT
  by_cases hb : (x.bytes.size : Int) ≤ 4096
  · obtain ⟨Q, hQ⟩ : ∃ Q, memOk x = Q := ⟨_, rfl⟩
    rw [hQ]
    have HQ := Lib.hid hQ
    have CI := Lib.hid (fun (R : Option Addr) p n h1 h2 W => inBounds_any x.bytes q_bytes R x.free.length cfree p n h1 h2 W)
    clear hQ
    go_enter Try.func34, Try.ntmps34
    go_wp2_with fail
    go_loopw [3, 13] (fun l i wr => ∃ k : Nat, k ≤ x.free.length ∧ i = .int .i64 k ∧ ∃ M : Int, l = .int .i64 (M + 1) ∧ 7 ≤ M ∧ M ≤ 1048576 ∧ Hid (okFrom x.bytes.size 7 x.free = okFrom x.bytes.size M (x.free.drop k)) ∧ wr.cell? ⟨w.heap.size, 0, none⟩ = some (.string x.bytes) ∧ wr.cell? ⟨w.heap.size, 1, none⟩ = some (.slice Rfree x.free.length cfree) ∧ Below w.heap.size w wr) (fun _ i _ => x.free.length - (intOf i).toNat)
    case atStart => exact ⟨0, Nat.zero_le _, rfl, 7, rfl, by omega, by omega, rfl, by go_simp, by go_simp, below1 _ _⟩
    case round =>
      obtain ⟨k, hk, rfl, M, rfl, M0, M1, hM, kb, kc, hbel⟩ := hrel
      by_cases hlt : k < x.free.length
      · obtain ⟨b, o, y, rfl, _, hyk, hc⟩ := (Me.At.below H.out hbel).at_ hlt
        obtain ⟨c0, c1, _⟩ := hc
        obtain ⟨⟨f0, f1⟩, ⟨f2, f3⟩⟩ := HF.out y (List.mem_of_getElem? hyk)
        have HY := Lib.hid hyk
        have HB := Lib.hid hbel
        have hli : (k : Int) < (x.free.length : Int) := by omega
        have kb' := fun o => keepCell (below1 wr o) kb
        have kc' := fun o => keepCell (below1 wr o) kc
        clear hyk hbel
        by_cases hg : 1 ≤ y.size ∧ M < y.pos ∧ y.pos ≤ (x.bytes.size : Int) ∧ y.size ≤ (x.bytes.size : Int) - y.pos
        · obtain ⟨g1, g2, g3, g4⟩ := hg
          go_wp2_with fail
          go_at_call 36
          refine (CI.out _ _ _ f0 f1 _).mono ?_
          rintro e w2 ⟨rfl, hb2⟩
          rw [decide_eq_true (show 0 ≤ y.pos ∧ 0 ≤ y.size ∧ y.size ≤ (x.bytes.size : Int) - y.pos by omega)]
          have d0 := keepCell (a := ⟨wr.heap.size, 0, none⟩) (v := .int .i64 y.pos) hb2 (by go_simp)
          have d1 := keepCell (a := ⟨wr.heap.size, 1, none⟩) (v := .int .i64 y.size) hb2 (by go_simp)
          replace kb := keepCell hb2 (kb' _)
          replace kc := keepCell hb2 (kc' _)
          have HB2 := Lib.hid (bchain (bnext (below1 _ _) hb2) (Below.refl _ _) (bnext (below1 _ _) hb2).size)
          clear hb2 kb' kc' c0 c1
          go_wp2_with fail
          go_at_call 39
          refine (end_any _ _ (by omega) (by omega) _).mono ?_
          rintro e w3 ⟨rfl, hb3⟩
          replace kb := keepCell hb3 kb
          replace kc := keepCell hb3 kc
          have HB3 := Lib.hid (bnext HB2.out hb3)
          clear hb3 d0 d1
          go_wp2_with fail
          go_roundw
          case rel => exact ⟨k + 1, by omega, by go_num, _, rfl, by omega, by omega, hM.out.trans (okFrom_good HY.out ⟨g1, g2, g3, g4⟩), kb, kc, bnext HB.out HB3.out⟩
          case measure => simp [intOf]; omega
        · have hq : Q = false := HQ.out.symm.trans ((memOk_at hb hM.out).trans (okFrom_bad HY.out hg))
          subst hq
          go_wp2_with fail
          all_goals first
            | (go_ret
               exact ⟨rfl, HB.out.alloc (by have := HB.out.size; omega) _⟩)
            | (go_at_call 36
               refine (CI.out _ _ _ f0 f1 _).mono ?_
               rintro e w2 ⟨rfl, hb2⟩
               rw [decide_eq_false (show ¬ (0 ≤ y.pos ∧ 0 ≤ y.size ∧ y.size ≤ (x.bytes.size : Int) - y.pos) by omega)]
               have HB2 := Lib.hid (bnext (below1 _ _) hb2)
               clear hb2
               go_wp2_with fail
               go_ret
               exact ⟨rfl, bnext HB.out HB2.out⟩)
      · have hk' : k = x.free.length := by omega
        have HB := Lib.hid hbel
        have hq : Q = true := by
          have e := (memOk_at hb hM.out)
          rw [hk', List.drop_length] at e
          exact HQ.out.symm.trans e
        subst hq
        clear hbel
        go_wp2_with fail
        go_ret
        exact ⟨rfl, HB.out⟩
  · rw [memOk_no hb]
    have hb' : 4096 < (x.bytes.size : Int) := by omega
    clear hb
    go_enter Try.func34, Try.ntmps34
    go_wp2_with fail
    go_ret
    exact ⟨rfl, below1 _ _⟩
end Go.Proofs.Ytoeofhhmkkpjbaa
