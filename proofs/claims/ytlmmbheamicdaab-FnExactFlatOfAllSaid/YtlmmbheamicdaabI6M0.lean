/-
  Rows of numbers of one's own: marking one, asking a marked one. No condition.
-/
import Derived.Test.YtlmmbheamicdaabI60
namespace Go.Proofs.Ytlmmbheamicdaab
open Go.ChangeShapes Go.WideShapes Go.ChangeAt Go.RowKit Go.Deep

/-- So many numbers from one on. -/
def seq6 (k n : Nat) : List Int := (List.range n).map fun i => ((k + i : Nat) : Int)
theorem seq6_len (k n : Nat) : (seq6 k n).length = n := by simp [seq6]
theorem seq6_get {k n i : Nat} (h : i < n) : (seq6 k n)[i]? = some ((k + i : Nat) : Int) := by simp [seq6, h]
theorem cell6_two {w : World} {g i j : Nat} {u v x : Value} (h : w.cell? ⟨g, i, none⟩ = some x) (hj : w.cell? ⟨g, j, none⟩ = some u) : (w.setCell ⟨g, j, none⟩ v).cell? ⟨g, i, none⟩ = some (if i = j then v else x) := by
  by_cases e : i = j
  · subst e
    rw [if_pos rfl]
    exact World.cell?_setCell_same' w ⟨g, i, none⟩ v (by rw [hj]; rfl)
  · rw [if_neg e]
    exact (World.cell?_setCell_other _ _ _ _ (fun e2 => e (by injection e2 with _ e3; exact e3.symm))).trans h

set_option maxHeartbeats 1000000 in
theorem mark6_any (P : List Int) (hl : P.length ≤ 1048576) (k : Nat) (h1 : k ≤ 1048577) (R : Option Addr) (c g : Nat) (w : World) (h : Own6 w P R g) :
    Calls Try.prog 23 #[.slice R P.length c, .int .i64 k] w fun e w' => e = .returned (.int .i64 ((k + P.length : Nat) : Int)) ∧ Own6 w' (seq6 k P.length) R g ∧ But6 [g] w w' ∧ (P.length = 0 → w' = w) := by
  have H := Lib.hid h
  clear h
  go_enter Try.func23, Try.ntmps23
  go_wp2_with fail
  go_loopw [1, 5] (fun x i wr => ∃ j : Nat, j ≤ P.length ∧ i = .int .i64 j ∧ x = .int .i64 ((k + j : Nat) : Int) ∧ Hid (0 < P.length → R = some ⟨g, 0, none⟩ ∧ Blk6 wr g ∧ ∀ (i : Nat) (n : Int), P[i]? = some n → wr.cell? ⟨g, i, none⟩ = some (.int .i64 (if i < j then ((k + i : Nat) : Int) else n))) ∧ Hid (But6 [g] w wr) ∧ Hid (P.length = 0 → wr = w)) (fun _ i _ => P.length - (intOf i).toNat)
  case atStart => exact ⟨0, Nat.zero_le _, rfl, rfl, (fun hp => by
    obtain ⟨a, b, d⟩ := H.out hp
    exact ⟨a, b, fun i n hn => by rw [if_neg (by omega)]; exact d i n hn⟩), But6.refl _ _, fun _ => rfl⟩
  case round =>
    obtain ⟨j, hj, rfl, rfl, hin, hkb, hzz⟩ := hrel
    by_cases hlt : j < P.length
    · obtain ⟨rfl, hblk, hcs⟩ := hin.out (by omega)
      have hn : P[j]? = some P[j] := List.getElem?_eq_getElem hlt
      have hc := hcs j _ hn
      have hf := hblk.free j
      have HC := Lib.hid hcs
      have HK := Lib.hid hblk
      have HCJ := Lib.hid hc
      obtain ⟨m, hm⟩ : ∃ m, k + j = m := ⟨_, rfl⟩
      have HM := Lib.hid hm
      have hlj : (j : Int) < (P.length : Int) := by omega
      have hm1 : (m : Int) ≤ 2097153 := by omega
      have hm0 : (0 : Int) ≤ (m : Int) := by omega
      rw [hm]
      clear hcs hblk hm hn hin
      go_wp2_with fail
      go_roundw
      case rel =>
        refine ⟨j + 1, by omega, by go_num, ?_, (fun _ => ⟨by first | rfl | trivial, HK.out.set _ _, fun i n hn => ?_⟩), hkb.out.trans (But6.setCell (by simp) _), fun h0 => absurd h0 (by omega)⟩
        · have := HM.out
          first | (rw [show ((k + (j + 1) : Nat) : Int) = (m : Int) + 1 by omega]) | (congr 1; omega)
        · rw [cell6_two (HC.out i n hn) HCJ.out]
          have := HM.out
          by_cases e : i = j
          · subst e
            rw [if_pos rfl, if_pos (by omega), this]
          · rw [if_neg e]
            by_cases e2 : i < j
            · rw [if_pos e2, if_pos (by omega)]
            · rw [if_neg e2, if_neg (by omega)]
      case measure => simp [intOf]; omega
    · have e9 : j = P.length := by omega
      subst e9
      have hli : ¬ (P.length : Int) < (P.length : Int) := by omega
      go_wp2_with fail
      go_ret
      refine ⟨rfl, fun hp => ?_, hkb.out, fun e => hzz.out (by rw [e]; rfl)⟩
      rw [seq6_len] at hp
      obtain ⟨a, b, d⟩ := hin.out hp
      refine ⟨a, b, fun i n hn => ?_⟩
      have hi : i < P.length := by
        have := (List.getElem?_eq_some_iff.1 hn).1
        rwa [seq6_len] at this
      rw [seq6_get hi] at hn
      cases hn
      have h9 := d i _ (List.getElem?_eq_getElem hi)
      rw [if_pos hi] at h9
      exact h9

set_option maxHeartbeats 1000000 in
theorem held6_any (n : Nat) (hl : n ≤ 1048576) (k : Nat) (h1 : k ≤ 1048577) (R : Option Addr) (c g : Nat) (w : World) (h : Own6 w (seq6 k n) R g) :
    Calls Try.prog 24 #[.slice R n c, .int .i64 k] w fun e w' => e = .returned (.int .i64 ((k + n : Nat) : Int)) ∧ Below w.heap.size w w' := by
  have H := Lib.hid h
  clear h
  go_enter Try.func24, Try.ntmps24
  go_wp2_with fail
  go_loopw [1, 5] (fun x i wr => ∃ j : Nat, j ≤ n ∧ i = .int .i64 j ∧ x = .int .i64 ((k + j : Nat) : Int) ∧ Below w.heap.size w wr) (fun _ i _ => n - (intOf i).toNat)
  case atStart => exact ⟨0, Nat.zero_le _, rfl, rfl, Below.refl _ _⟩
  case round =>
    obtain ⟨j, hj, rfl, rfl, hbel⟩ := hrel
    by_cases hlt : j < n
    · obtain ⟨rfl, _, hcs⟩ := (H.out.below hbel) (by rw [seq6_len]; omega)
      have hc := hcs j _ (seq6_get hlt)
      have HB := Lib.hid hbel
      obtain ⟨m, hm⟩ : ∃ m, k + j = m := ⟨_, rfl⟩
      rw [hm] at hc
      have HM := Lib.hid hm
      have hlj : (j : Int) < (n : Int) := by omega
      have hm1 : (m : Int) ≤ 2097153 := by omega
      have hm0 : (0 : Int) ≤ (m : Int) := by omega
      rw [hm]
      clear hcs hm hbel
      go_wp2_with fail
      go_roundw
      case rel =>
        refine ⟨j + 1, by omega, by go_num, ?_, HB.out⟩
        have := HM.out
        first | (rw [show ((k + (j + 1) : Nat) : Int) = (m : Int) + 1 by omega]) | (congr 1; omega)
      case measure => simp [intOf]; omega
    · have e9 : j = n := by omega
      subst e9
      have hli : ¬ (j : Int) < (j : Int) := by omega
      go_wp2_with fail
      go_ret
      exact ⟨rfl, hbel⟩
end Go.Proofs.Ytlmmbheamicdaab
