/-
  Rows of numbers that lie in a block of their own: comparing two, marking one, asking a marked one.
-/
import Derived.Test.YtlmmbheamicdaaaLayL
import Derived.Test.YtlmmbheamicdaaaMarks
namespace Go.Proofs.Ytlmmbheamicdaaa
open Go.ChangeShapes Go.WideShapes Go.ChangeAt Go.RowKit Go.Deep

/-- The numbers lie from a plain block's start on. -/
def Nums (w : World) (P : List Int) (R : Option Addr) (g : Nat) : Prop := 0 < P.length → R = some ⟨g, 0, none⟩ ∧ Blk w g ∧ ∀ (i : Nat) (n : Int), P[i]? = some n → w.cell? ⟨g, i, none⟩ = some (.int .i64 n)
theorem Nums.same {w w' : World} {P : List Int} {R : Option Addr} {g : Nat} (h : Nums w P R g) (e : g < w.heap.size → w'.heap[g]? = w.heap[g]?) : Nums w' P R g := fun hp => by
  obtain ⟨h1, h2, h3⟩ := h hp
  have e := e h2.lt
  exact ⟨h1, h2.same e, fun i n hn => (World.cell?_of_block e).trans (h3 i n hn)⟩
theorem Nums.below {w w' : World} {P : List Int} {R : Option Addr} {g : Nat} (h : Nums w P R g) (hb : Below w.heap.size w w') : Nums w' P R g := h.same fun hl => hb.block g hl
theorem Nums.kb {w w' : World} {P : List Int} {R : Option Addr} {g : Nat} {bs : List Nat} (h : Nums w P R g) (hb : Kb bs w w') (hn : g < w.heap.size → g ∉ bs) : Nums w' P R g := h.same fun hl => hb.but.2 g hl (hn hl)
theorem Nums.of_own {w : World} {base : Nat} {P : List Int} {R : Option Addr} {c : Nat} (h : w.ownsRow base 2 1 (.slice R P.length c) P.length (P.map numV)) : ∃ g, base ≤ g ∧ (0 < P.length → g < w.heap.size) ∧ Nums w P R g := by
  rcases h.2 with ⟨e, e2⟩ | ⟨g, cap', cur, e, hg, hb, h1, h2, h3, h4⟩
  · exact ⟨base, Nat.le_refl _, fun hp => by omega, fun hp => by omega⟩
  · injection e with e1 e2 e3
    subst e1
    refine ⟨g, hg, fun _ => (Array.getElem?_eq_some_iff.1 hb).1, fun hp => ⟨rfl, ⟨cur, _, hb⟩, fun i n hn => ?_⟩⟩
    have hi : i < P.length := (List.getElem?_eq_some_iff.1 hn).1
    have hci : cur.toList[i]? = some (numV n) := by
      have h5 := congrArg (fun z => z[i]?) h4
      simp only [List.getElem?_take, Nat.mul_one, if_pos hi, List.getElem?_map, hn, Option.map_some] at h5
      exact h5
    simp only [World.cell?, hb]
    rw [Array.getElem?_toList] at hci
    exact hci
/-- So many numbers from one on. -/
def seqI (k n : Nat) : List Int := (List.range n).map fun i => ((k + i : Nat) : Int)
theorem seqI_len (k n : Nat) : (seqI k n).length = n := by simp [seqI]
theorem seqI_get {k n i : Nat} (h : i < n) : (seqI k n)[i]? = some ((k + i : Nat) : Int) := by simp [seqI, h]

set_option maxHeartbeats 1000000 in
theorem eqNums_any (P : List Int) (hl : P.length ≤ 1048576) (R R' : Option Addr) (c c' g g' : Nat) (w : World) (h : Nums w P R g) (h' : Nums w P R' g') :
    Calls Try.prog 44 #[.slice R P.length c, .slice R' P.length c'] w fun e w' => e = .returned (.bool true) ∧ Below w.heap.size w w' := by
  have H := Lib.hid h
  have H' := Lib.hid h'
  clear h h'
  go_enter Try.func44, Try.ntmps44
  go_wp2_with fail
  go_loopw [5] (fun i wr => ∃ k : Nat, k ≤ P.length ∧ i = .int .i64 k ∧ Below w.heap.size w wr) (fun i _ => P.length - (intOf i).toNat)
  case atStart => exact ⟨0, Nat.zero_le _, rfl, Below.refl _ _⟩
  case round =>
    obtain ⟨k, hk, rfl, hbel⟩ := hrel
    by_cases hlt : k < P.length
    · obtain ⟨rfl, _, hc⟩ := (H.out.below hbel) (by omega)
      obtain ⟨rfl, _, hc'⟩ := (H'.out.below hbel) (by omega)
      have hn : P[k]? = some P[k] := List.getElem?_eq_getElem hlt
      have c0 := hc k _ hn
      have d0 := hc' k _ hn
      have HB := Lib.hid hbel
      have hli : (k : Int) < (P.length : Int) := by omega
      clear hc hc' hbel hn
      generalize P[k] = n at *
      go_wp2_with fail
      go_quiet (fail)
      go_wp2_with fail
      go_roundw
      case rel => exact ⟨k + 1, by omega, by go_num, belowN HB.out _⟩
      case measure => simp [intOf]; omega
    · have hli : ¬ (k : Int) < (P.length : Int) := by omega
      have HB := Lib.hid hbel
      clear hbel
      go_wp2_with fail
      go_ret
      exact ⟨rfl, HB.out⟩

theorem cell_two {w : World} {g i j : Nat} {u v x : Value} (h : w.cell? ⟨g, i, none⟩ = some x) (hj : w.cell? ⟨g, j, none⟩ = some u) : (w.setCell ⟨g, j, none⟩ v).cell? ⟨g, i, none⟩ = some (if i = j then v else x) := by
  by_cases e : i = j
  · subst e
    rw [if_pos rfl]
    exact World.cell?_setCell_same' w ⟨g, i, none⟩ v (by rw [hj]; rfl)
  · rw [if_neg e]
    exact (World.cell?_setCell_other _ _ _ _ (fun e2 => e (by injection e2 with _ e3; exact e3.symm))).trans h
theorem blk_set {w : World} {g : Nat} (h : Blk w g) (p : Addr) (v : Value) : Blk (w.setCell p v) g := by
  obtain ⟨c, t, hc⟩ := h
  by_cases e : p.block = g
  · subst e
    simp only [Blk, World.setCell, Array.getElem?_modify, if_pos, hc, Option.map_some]
    exact ⟨_, t, rfl⟩
  · refine ⟨c, t, ?_⟩
    simp [World.setCell, Array.getElem?_modify, e, hc]

set_option maxHeartbeats 1000000 in
theorem markNums_any (P : List Int) (hl : P.length ≤ 1048576) (k : Nat) (h1 : k ≤ 1048576) (R : Option Addr) (c g : Nat) (w : World) (h : Nums w P R g) :
    Calls Try.prog 46 #[.slice R P.length c, .int .i64 k] w fun e w' => e = .returned (.int .i64 ((k + P.length : Nat) : Int)) ∧ Nums w' (seqI k P.length) R g ∧ Kb [g] w w' := by
  have H := Lib.hid h
  clear h
  go_enter Try.func46, Try.ntmps46
  go_wp2_with fail
  go_loopw [1, 5] (fun x i wr => ∃ j : Nat, j ≤ P.length ∧ i = .int .i64 j ∧ x = .int .i64 ((k + j : Nat) : Int) ∧ Hid (0 < P.length → R = some ⟨g, 0, none⟩ ∧ Blk wr g ∧ ∀ (i : Nat) (n : Int), P[i]? = some n → wr.cell? ⟨g, i, none⟩ = some (.int .i64 (if i < j then ((k + i : Nat) : Int) else n))) ∧ Hid (Kb [g] w wr)) (fun _ i _ => P.length - (intOf i).toNat)
  case atStart => exact ⟨0, Nat.zero_le _, rfl, rfl, (fun hp => by
    obtain ⟨a, b, d⟩ := H.out hp
    exact ⟨a, b, fun i n hn => by rw [if_neg (by omega)]; exact d i n hn⟩), Kb.refl _ _⟩
  case round =>
    obtain ⟨j, hj, rfl, rfl, hin, hkb⟩ := hrel
    by_cases hlt : j < P.length
    · obtain ⟨rfl, hblk, hcs⟩ := hin.out (by omega)
      have hn : P[j]? = some P[j] := List.getElem?_eq_getElem hlt
      have hc := hcs j _ hn
      have hf := hblk.free j
      have HC := Lib.hid hcs
      have HK := Lib.hid hblk
      have HCJ := Lib.hid hc
      obtain ⟨m, hm⟩ : ∃ m, k + j = m := ⟨_, rfl⟩
      have HM := Lib.hid hm
      have hlj : (j : Int) < (P.length : Int) := by omega
      have hm1 : (m : Int) ≤ 2097152 := by omega
      have hm0 : (0 : Int) ≤ (m : Int) := by omega
      rw [hm]
      clear hcs hblk hm hn hin
      go_wp2_with fail
      go_roundw
      case rel =>
        refine ⟨j + 1, by omega, by go_num, ?_, (fun _ => ⟨by first | rfl | trivial, blk_set HK.out _ _, fun i n hn => ?_⟩), hkb.out.trans ⟨rfl, rfl, rfl, KeptBut.setCell (by simp) _⟩⟩
        · have := HM.out
          first | (rw [show ((k + (j + 1) : Nat) : Int) = (m : Int) + 1 by omega]) | (congr 1; omega)
        · rw [cell_two (HC.out i n hn) HCJ.out]
          have := HM.out
          by_cases e : i = j
          · subst e
            rw [if_pos rfl, if_pos (by omega), this]
          · rw [if_neg e]
            by_cases e2 : i < j
            · rw [if_pos e2, if_pos (by omega)]
            · rw [if_neg e2, if_neg (by omega)]
      case measure => simp [intOf]; omega
    · have e9 : j = P.length := by omega
      subst e9
      have hli : ¬ (P.length : Int) < (P.length : Int) := by omega
      go_wp2_with fail
      go_ret
      refine ⟨rfl, fun hp => ?_, hkb.out⟩
      rw [seqI_len] at hp
      obtain ⟨a, b, d⟩ := hin.out hp
      refine ⟨a, b, fun i n hn => ?_⟩
      have hi : i < P.length := by
        have := (List.getElem?_eq_some_iff.1 hn).1
        rwa [seqI_len] at this
      rw [seqI_get hi] at hn
      cases hn
      have h9 := d i _ (List.getElem?_eq_getElem hi)
      rw [if_pos hi] at h9
      exact h9

set_option maxHeartbeats 1000000 in
theorem heldNums_any (n : Nat) (hl : n ≤ 1048576) (k : Nat) (h1 : k ≤ 1048576) (R : Option Addr) (c g : Nat) (w : World) (h : Nums w (seqI k n) R g) :
    Calls Try.prog 47 #[.slice R n c, .int .i64 k] w fun e w' => e = .returned (.int .i64 ((k + n : Nat) : Int)) ∧ Below w.heap.size w w' := by
  have H := Lib.hid h
  clear h
  go_enter Try.func47, Try.ntmps47
  go_wp2_with fail
  go_loopw [1, 5] (fun x i wr => ∃ j : Nat, j ≤ n ∧ i = .int .i64 j ∧ x = .int .i64 ((k + j : Nat) : Int) ∧ Below w.heap.size w wr) (fun _ i _ => n - (intOf i).toNat)
  case atStart => exact ⟨0, Nat.zero_le _, rfl, rfl, Below.refl _ _⟩
  case round =>
    obtain ⟨j, hj, rfl, rfl, hbel⟩ := hrel
    by_cases hlt : j < n
    · obtain ⟨rfl, _, hcs⟩ := (H.out.below hbel) (by rw [seqI_len]; omega)
      have hc := hcs j _ (seqI_get hlt)
      have HB := Lib.hid hbel
      obtain ⟨m, hm⟩ : ∃ m, k + j = m := ⟨_, rfl⟩
      rw [hm] at hc
      have HM := Lib.hid hm
      have hlj : (j : Int) < (n : Int) := by omega
      have hm1 : (m : Int) ≤ 2097152 := by omega
      have hm0 : (0 : Int) ≤ (m : Int) := by omega
      rw [hm]
      clear hcs hm hbel
      go_wp2_with fail
      go_roundw
      case rel =>
        refine ⟨j + 1, by omega, by go_num, ?_, HB.out⟩
        have := HM.out
        first | (rw [show ((k + (j + 1) : Nat) : Int) = (m : Int) + 1 by omega]) | (congr 1; omega)
      case measure => simp [intOf]; omega
    · have e9 : j = n := by omega
      subst e9
      have hli : ¬ (j : Int) < (j : Int) := by omega
      go_wp2_with fail
      go_ret
      exact ⟨rfl, hbel⟩
end Go.Proofs.Ytlmmbheamicdaaa
