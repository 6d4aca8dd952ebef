/-
  The model's MemoryOk walks as memOk says.
-/
import Derived.Test.YtndeklmkhfopgaaMemPure
import Derived.Test.YtndeklmkhfopgaaStWMe
namespace Go.Proofs.Ytndeklmkhfopgaa
open Go.ChangeShapes Go.WideShapes Go.ChangeAt Go.RowKit Go.Deep

theorem memOk_no {x : Me} (h : ¬ (x.bytes.size : Int) ≤ 4096) : memOk x = false := by
  unfold memOk
  simp [h]
theorem memOk_no_len {x : Me} (h : ¬ x.free.length ≤ 4096) : memOk x = false := by
  cases e : memOk x with
  | false => rfl
  | true => exact absurd (memOk_len e) h
theorem memOk_at {x : Me} {k : Nat} {last : Int} (hb : (x.bytes.size : Int) ≤ 4096) (h : okFrom x.bytes.size 7 x.free = okFrom x.bytes.size last (x.free.drop k)) : memOk x = okFrom x.bytes.size last (x.free.drop k) := by
  unfold memOk
  simp [hb, h]
theorem okFrom_bad {n last : Int} {xs : List Bk} {k : Nat} {b : Bk} (hk : xs[k]? = some b) (h : ¬ (1 ≤ b.size ∧ last < b.pos ∧ b.pos ≤ n ∧ b.size ≤ n - b.pos)) : okFrom n last (xs.drop k) = false := by
  rw [drop_cons hk]
  simp only [okFrom, decide_eq_false h, Bool.false_and]
theorem okFrom_good {n last : Int} {xs : List Bk} {k : Nat} {b : Bk} (hk : xs[k]? = some b) (h : 1 ≤ b.size ∧ last < b.pos ∧ b.pos ≤ n ∧ b.size ≤ n - b.pos) : okFrom n last (xs.drop k) = okFrom n (b.pos + b.size) (xs.drop (k + 1)) := by
  rw [drop_cons hk]
  simp only [okFrom, decide_eq_true h, Bool.true_and]

set_option maxHeartbeats 1000000 in
set_option maxRecDepth 100000 in
theorem specMemoryOk_any (x : Me) (hT : x.wt ≤ 1048576) (hfin : x.Fin) (Rfree : Option Addr) (cfree : Nat) (lo : Nat) (w : World) (h : Me.At w lo x Rfree) :
    Calls Try.prog 65 #[.agg #[.string x.bytes, .slice Rfree x.free.length cfree]] w fun e w' => e = .returned (.bool (memOk x)) ∧ Below w.heap.size w w' := by
  obtain ⟨q_bytes, q_free, _⟩ := Me.parts_le hT
  rw [Bk.wts_zero] at q_free
  have HF := Lib.hid hfin.2.2
  have H := Lib.hid h
  clear h hfin hT
  by_cases hb : (x.bytes.size : Int) ≤ 4096
  · by_cases hl : x.free.length ≤ 4096
    · obtain ⟨Q, hQ⟩ : ∃ Q, memOk x = Q := ⟨_, rfl⟩
      rw [hQ]
      have HQ := Lib.hid hQ
      clear hQ
      go_enter Try.func65, Try.ntmps65
      go_wp2_with fail
      go_loopw [4, 5] (fun l i wr => ∃ k : Nat, k ≤ x.free.length ∧ i = .int .i64 k ∧ ∃ M : Int, l = .int .i64 M ∧ 0 ≤ M ∧ M ≤ 1048576 ∧ Hid (okFrom x.bytes.size 7 x.free = okFrom x.bytes.size M (x.free.drop k)) ∧ wr.cell? ⟨w.heap.size, 1, none⟩ = some (.slice Rfree x.free.length cfree) ∧ Below w.heap.size w wr) (fun _ i _ => x.free.length - (intOf i).toNat)
      case atStart => exact ⟨0, Nat.zero_le _, rfl, _, rfl, by omega, by omega, rfl, by go_simp, below1 _ _⟩
      case round =>
        obtain ⟨k, hk, rfl, M, rfl, M0, M1, hM, kc, hbel⟩ := hrel
        by_cases hlt : k < x.free.length
        · obtain ⟨b, o, y, rfl, _, hyk, hc⟩ := (Me.At.below H.out hbel).at_ hlt
          obtain ⟨c0, c1, _⟩ := hc
          obtain ⟨⟨f0, f1⟩, ⟨f2, f3⟩⟩ := HF.out y (List.mem_of_getElem? hyk)
          have HY := Lib.hid hyk
          have HB := Lib.hid hbel
          have hli : (k : Int) < (x.free.length : Int) := by omega
          clear hyk hbel
          by_cases hg : 1 ≤ y.size ∧ M < y.pos ∧ y.pos ≤ (x.bytes.size : Int) ∧ y.size ≤ (x.bytes.size : Int) - y.pos
          · obtain ⟨g1, g2, g3, g4⟩ := hg
            go_wp2_with fail
            go_roundw
            case rel => exact ⟨k + 1, by omega, by go_num, _, rfl, by omega, by omega, hM.out.trans (okFrom_good HY.out ⟨g1, g2, g3, g4⟩), keepCell (below1 _ _) kc, HB.out.alloc (by have := HB.out.size; omega) _⟩
            case measure => simp [intOf]; omega
          · have hq : Q = false := HQ.out.symm.trans ((memOk_at hb hM.out).trans (okFrom_bad HY.out hg))
            subst hq
            go_wp2_with fail
            all_goals go_ret
            all_goals exact ⟨rfl, HB.out.alloc (by have := HB.out.size; omega) _⟩
        · have hk' : k = x.free.length := by omega
          have HB := Lib.hid hbel
          have hq : Q = true := by
            have e := (memOk_at hb hM.out)
            rw [hk', List.drop_length] at e
            exact HQ.out.symm.trans e
          subst hq
          clear hbel
          go_wp2_with fail
          go_ret
          exact ⟨rfl, HB.out⟩
    · rw [memOk_no_len hl]
      have hl' : 4096 < (x.free.length : Int) := by omega
      clear hl
      go_enter Try.func65, Try.ntmps65
      go_wp2_with fail
      go_ret
      exact ⟨rfl, below1 _ _⟩
  · rw [memOk_no hb]
    have hb' : 4096 < (x.bytes.size : Int) := by omega
    clear hb
    go_enter Try.func65, Try.ntmps65
    go_wp2_with fail
    go_ret
    exact ⟨rfl, below1 _ _⟩
end Go.Proofs.Ytndeklmkhfopgaa
