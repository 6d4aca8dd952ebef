/-
  Walks of measuring, copying and comparing lists of strings.
-/
import Derived.Test.YtlmmbheamicdaaaDoorStrsP
import Derived.Deep.LoopGhost
import Derived.Deep.OwnRows
import Derived.Laws.MakeOwn
namespace Go.Proofs.YtlmmbheamicdaaaDoor
open Go.ChangeShapes Go.WideShapes Go.ChangeAt Go.RowKit

theorem szStringS_any (ls : List ByteArray) (A : Option Addr) (cap : Nat) (left : Int) (h0 : 0 ≤ left) (h1 : left ≤ 1048576) (hl : ls.length ≤ maxLen) (hs : ∀ s ∈ ls, s.size ≤ maxLen) (lo : Nat) (w : World) (h : Strs w lo ls A) :
    Calls Tryd.prog 21 #[.slice A ls.length cap, .int .i64 left] w fun e w' => e = .returned (.int .i64 (leftOr (left - ls.length - sumSz ls))) ∧ w = w' := by
  unfold maxLen at hl hs
  have hsum := sumSz_nonneg ls
  have HS := Lib.hid hs
  have H := Lib.hid h
  clear hs h
  by_cases hn : left - (ls.length : Int) < 0
  · have hr := leftOr_neg (n := left - ls.length - sumSz ls) (by omega)
    rw [hr]
    go_enter Tryd.func21, Tryd.ntmps21
    go_wp2
    go_ret
    exact ⟨rfl, rfl⟩
  · have hn' : (ls.length : Int) ≤ left := by omega
    obtain ⟨R, hR⟩ : ∃ R, leftOr (left - ls.length - sumSz ls) = R := ⟨_, rfl⟩
    rw [hR]
    have HR := Lib.hid hR
    clear hR hn
    go_enter Tryd.func21, Tryd.ntmps21
    go_wp2
    go_loop [1, 5] (fun l i => ∃ k : Nat, k ≤ ls.length ∧ i = .int .i64 k ∧ ∃ L : Int, l = .int .i64 L ∧ 0 ≤ L ∧ L ≤ 1048576 ∧ Hid (L = left - ls.length - sumSz (ls.take k))) (fun _ i => ls.length - (intOf i).toNat)
    case atStart => exact ⟨0, Nat.zero_le _, rfl, _, rfl, by omega, by omega, by simp [Hid, sumSz]⟩
    case round =>
      obtain ⟨k, hk, rfl, L, rfl, L0, L1, hL⟩ := hrel
      by_cases hlt : k < ls.length
      · obtain ⟨b, o, s, rfl, _, hsk, hc⟩ := H.out.at_ hlt
        have hsz := HS.out s (List.mem_of_getElem? hsk)
        have hst := sumSz_take hsk
        have hle := sumSz_take_le ls (k + 1)
        have HST := Lib.hid hst
        clear hst
        by_cases hneg : L - (s.size : Int) < 0
        · go_wp2
          go_ret
          refine ⟨ret_int ?_, rfl⟩
          rw [← HR.out, leftOr_neg]
          have := hL.out
          have := HST.out
          omega
        · have hneg' : (s.size : Int) ≤ L := by omega
          clear hneg
          go_wp2
          go_round
          case rel => exact ⟨k + 1, by omega, by go_num, _, rfl, by omega, by omega, by have := hL.out; have := HST.out; simp only [Hid]; omega⟩
          case measure => simp [intOf]; omega
      · have hk' : k = ls.length := by omega
        go_wp2
        go_ret
        refine ⟨ret_int ?_, rfl⟩
        have e := hL.out
        rw [hk', List.take_length] at e
        rw [← HR.out, leftOr_pos (by omega)]
        exact e

theorem drewN0 (w : World) : w = w.drewN 0 := rfl

theorem eqStringS_same (ls : List ByteArray) (A B : Option Addr) (ca cb : Nat) (hl : ls.length ≤ maxLen) (lo lo' : Nat) (w : World) (h : Strs w lo ls A) (h' : Strs w lo' ls B) :
    Calls Tryd.prog 35 #[.slice A ls.length ca, .slice B ls.length cb] w fun e w' => e = .returned (.bool true) ∧ ∃ n, w' = w.drewN n := by
  unfold maxLen at hl
  have H := Lib.hid h
  have H' := Lib.hid h'
  clear h h'
  go_enter Tryd.func35, Tryd.ntmps35
  go_wp2
  go_loopw [5] (fun i wr => ∃ k : Nat, k ≤ ls.length ∧ i = .int .i64 k ∧ ∃ n, wr = w.drewN n) (fun i _ => ls.length - (intOf i).toNat)
  case atStart => exact ⟨0, Nat.zero_le _, rfl, 0, rfl⟩
  case round =>
    obtain ⟨k, hk, rfl, n, rfl⟩ := hrel
    by_cases hlt : k < ls.length
    · obtain ⟨b, o, s, rfl, _, hsk, hc⟩ := H.out.at_ hlt
      obtain ⟨b', o', s', rfl, _, hsk', hc'⟩ := H'.out.at_ hlt
      obtain rfl : s = s' := by
        rw [hsk] at hsk'
        exact Option.some.inj hsk'
      clear hsk hsk'
      have hli : (k : Int) < (ls.length : Int) := by omega
      go_wp2_with fail
      go_quiet (fail)
      go_wp2_with fail
      go_roundw
      case rel => exact ⟨k + 1, by omega, by go_num, _, rfl⟩
      case measure => simp [intOf]; omega
    · have hk' : k = ls.length := by omega
      go_wp2
      go_ret
      exact ⟨rfl, _, rfl⟩

theorem infoString : (Tryd.prog.info? 9).map (fun i => (i.zero, i.size, i.bytes)) = some (some (.string ⟨#[]⟩), 1, 16) := by kernel_rfl

theorem toStringS_any (ls : List ByteArray) (A : Option Addr) (cap : Nat) (hl : ls.length ≤ 1048576) (lo : Nat) (w : World) (h : Strs w lo ls A) :
    Calls Tryd.prog 27 #[.slice A ls.length cap] w fun e w' => e = .returned (.slice (some ⟨w.heap.size, 0, none⟩) ls.length ls.length) ∧ Strs w' w.heap.size ls (some ⟨w.heap.size, 0, none⟩) ∧ Below w.heap.size w w' := by
  have H := Lib.hid h
  clear h
  obtain ⟨F, hF⟩ : ∃ F : Nat → Nat → Value, F = fun k j => if j < k then .string (ls.getD j ByteArray.empty) else .string ⟨#[]⟩ := ⟨_, rfl⟩
  have HF := Lib.hid hF
  clear hF
  have hmk := run_make_row' (P := Tryd.prog) 23 9 (.string ⟨#[]⟩) 16 Tryd.underlying23 infoString rfl .i64 .i64 ls.length (by omega) (by omega)
  go_enter Tryd.func27, Tryd.ntmps27
  go_wp2
  go_loopw [4] (fun i wr => ∃ k : Nat, k ≤ ls.length ∧ i = .int .i64 k ∧ wr.rowIs w.heap.size 9 ls.length (F k) ∧ Below w.heap.size w wr) (fun i _ => ls.length - (intOf i).toNat)
  case atStart => exact ⟨0, Nat.zero_le _, rfl, (World.rowIs_made _ _ _ _).congr (fun i _ => by rw [HF.out]; simp), below1 _ _⟩
  case round =>
    obtain ⟨k, hk, rfl, hrow, hbel⟩ := hrel
    by_cases hlt : k < ls.length
    · obtain ⟨b, o, s, rfl, _, hsk, hc0⟩ := H.out.at_ hlt
      have hc := keepCell hbel hc0
      have hg := hrow.cell hlt
      have hfz := hrow.frozen k
      have HR := Lib.hid hrow
      have hs : ls.getD k ByteArray.empty = s := by simp [List.getD, hsk]
      have HS := Lib.hid hs
      have hli : (k : Int) < (ls.length : Int) := by omega
      have HB := Lib.hid hbel
      clear hs hsk hc0 hrow hbel hmk
      go_wp2_with fail
      go_roundw
      case rel => exact ⟨k + 1, by omega, by go_num, ((HR.out.set k (.string s)).congr (fun j hj => by
          rw [HF.out]
          by_cases e : j = k
          · subst e
            simp [← HS.out]
          · by_cases hjk : j < k
            · simp [e, hjk, show j < k + 1 by omega]
            · simp [e, hjk, show ¬ j < k + 1 by omega])), HB.out.setCell (Nat.le_refl _) _⟩
      case measure => simp [intOf]; omega
    · have hk' : k = ls.length := by omega
      have HR := Lib.hid hrow
      have HB := Lib.hid hbel
      clear hrow hbel hmk
      go_wp2
      go_ret
      refine ⟨rfl, fun hp => ⟨_, 0, rfl, Nat.le_refl _, fun i s hs => ?_⟩, HB.out⟩
      obtain ⟨hi, hs'⟩ := List.getElem?_eq_some_iff.1 hs
      rw [Nat.zero_add, HR.out.cell hi, HF.out]
      simp [hk', hi, hs']
end Go.Proofs.YtlmmbheamicdaaaDoor
