/-
  Rows of blocks that lie in a block of their own: marking one, asking a marked one.
-/
import Derived.Test.YtndeklmkhfopgaaStWMe
import Derived.Test.YtndeklmkhfopgaaTyOwn
namespace Go.Proofs.Ytndeklmkhfopgaa
open Go.ChangeShapes Go.WideShapes Go.ChangeAt Go.RowKit Go.Deep

/-- Nothing has turned but these blocks and new memory. -/
structure Kb (bs : List Nat) (w w' : World) : Prop where
  os : w'.os = w.os
  tape : w'.tape = w.tape
  output : w'.output = w.output
  but : KeptBut bs w w'
theorem Kb.refl (bs : List Nat) (w : World) : Kb bs w w := ⟨rfl, rfl, rfl, KeptBut.refl _ _⟩
theorem Kb.trans {bs : List Nat} {a b c : World} (h : Kb bs a b) (k : Kb bs b c) : Kb bs a c := ⟨k.os.trans h.os, k.tape.trans h.tape, k.output.trans h.output, h.but.trans k.but⟩
theorem Kb.of_below {bs : List Nat} {w w' : World} (h : Below w.heap.size w w') : Kb bs w w' := ⟨h.os, h.tape, h.output, KeptBut.of_below h⟩
theorem Kb.setCell {bs : List Nat} {w : World} {p : Addr} (hp : p.block ∈ bs) (v : Value) : Kb bs w (w.setCell p v) := ⟨rfl, rfl, rfl, KeptBut.setCell hp v⟩
theorem Kb.mono {bs cs : List Nat} {w w' : World} (h : Kb bs w w') (hs : ∀ b ∈ bs, b ∈ cs) : Kb cs w w' := ⟨h.os, h.tape, h.output, h.but.mono hs⟩
theorem Kb.below {bs : List Nat} {B : Nat} {w w' : World} (h : Kb bs w w') (hs : ∀ b ∈ bs, B ≤ b) (hB : B ≤ w.heap.size) : Below B w w' := ⟨h.os, h.tape, h.output, h.but.1, fun k hk => h.but.2 k (by omega) (fun hm => by have := hs k hm; omega)⟩
/-- The numbers lie from a plain block's start on. -/
def Nums (w : World) (P : List Int) (R : Option Addr) (g : Nat) : Prop := 0 < P.length → R = some ⟨g, 0, none⟩ ∧ Blk w g ∧ ∀ (i : Nat) (n : Int), P[i]? = some n → w.cell? ⟨g, i, none⟩ = some (.int .i64 n)
theorem Nums.same {w w' : World} {P : List Int} {R : Option Addr} {g : Nat} (h : Nums w P R g) (e : g < w.heap.size → w'.heap[g]? = w.heap[g]?) : Nums w' P R g := fun hp => by
  obtain ⟨h1, h2, h3⟩ := h hp
  have e := e h2.lt
  exact ⟨h1, h2.same e, fun i n hn => (World.cell?_of_block e).trans (h3 i n hn)⟩
theorem Nums.below {w w' : World} {P : List Int} {R : Option Addr} {g : Nat} (h : Nums w P R g) (hb : Below w.heap.size w w') : Nums w' P R g := h.same fun hl => hb.block g hl
theorem Nums.kb {w w' : World} {P : List Int} {R : Option Addr} {g : Nat} {bs : List Nat} (h : Nums w P R g) (hb : Kb bs w w') (hn : g < w.heap.size → g ∉ bs) : Nums w' P R g := h.same fun hl => hb.but.2 g hl (hn hl)
/-- So many numbers from one on. -/
def seqI (k n : Nat) : List Int := (List.range n).map fun i => ((k + i : Nat) : Int)
theorem seqI_len (k n : Nat) : (seqI k n).length = n := by simp [seqI]
theorem seqI_get {k n i : Nat} (h : i < n) : (seqI k n)[i]? = some ((k + i : Nat) : Int) := by simp [seqI, h]

theorem cell_two {w : World} {g i j : Nat} {u v x : Value} (h : w.cell? ⟨g, i, none⟩ = some x) (hj : w.cell? ⟨g, j, none⟩ = some u) : (w.setCell ⟨g, j, none⟩ v).cell? ⟨g, i, none⟩ = some (if i = j then v else x) := by
  by_cases e : i = j
  · subst e
    rw [if_pos rfl]
    exact World.cell?_setCell_same' w ⟨g, i, none⟩ v (by rw [hj]; rfl)
  · rw [if_neg e]
    exact (World.cell?_setCell_other _ _ _ _ (fun e2 => e (by injection e2 with _ e3; exact e3.symm))).trans h
theorem blk_set {w : World} {g : Nat} (h : Blk w g) (p : Addr) (v : Value) : Blk (w.setCell p v) g := by
  obtain ⟨c, t, hc⟩ := h
  by_cases e : p.block = g
  · subst e
    simp only [Blk, World.setCell, Array.getElem?_modify, if_pos, hc, Option.map_some]
    exact ⟨_, t, rfl⟩
  · refine ⟨c, t, ?_⟩
    simp [World.setCell, Array.getElem?_modify, e, hc]

set_option maxHeartbeats 1000000 in
theorem markBlockS_own (P : List Int) (n : Nat) (hP : P.length = n * 2) (hl : n ≤ 1048576) (k : Nat) (h1 : k ≤ 1048576) (R : Option Addr) (c g : Nat) (w : World) (h : Nums w P R g) :
    Calls Try.prog 72 #[.slice R n c, .int .i64 k] w fun e w' => e = .returned (.int .i64 ((k + n * 2 : Nat) : Int)) ∧ Nums w' (seqI k (n * 2)) R g ∧ Kb [g] w w' := by
  have H := Lib.hid h
  have HP := Lib.hid hP
  clear h hP
  go_enter Try.func72, Try.ntmps72
  go_wp2_with fail
  go_loopw [1, 5] (fun x i wr => ∃ j : Nat, j ≤ n ∧ i = .int .i64 j ∧ x = .int .i64 ((k + j * 2 : Nat) : Int) ∧ Hid (0 < P.length → R = some ⟨g, 0, none⟩ ∧ Blk wr g ∧ ∀ (i : Nat) (n : Int), P[i]? = some n → wr.cell? ⟨g, i, none⟩ = some (.int .i64 (if i < j * 2 then ((k + i : Nat) : Int) else n))) ∧ Hid (Kb [g] w wr)) (fun _ i _ => n - (intOf i).toNat)
  case atStart => exact ⟨0, Nat.zero_le _, rfl, rfl, (fun hp => by
    obtain ⟨a, b, d⟩ := H.out hp
    exact ⟨a, b, fun i n hn => by rw [if_neg (by omega)]; exact d i n hn⟩), Kb.refl _ _⟩
  case round =>
    obtain ⟨j, hj, rfl, rfl, hin, hkb⟩ := hrel
    by_cases hlt : j < n
    · have hP := HP.out
      obtain ⟨rfl, hblk, hcs⟩ := hin.out (by omega)
      have hn0 : P[j * 2]? = some (P[j * 2]'(by omega)) := List.getElem?_eq_getElem (by omega)
      have hn1 : P[j * 2 + 1]? = some (P[j * 2 + 1]'(by omega)) := List.getElem?_eq_getElem (by omega)
      have hc0 := hcs _ _ hn0
      have hc1 := hcs _ _ hn1
      have hf := fun o => hblk.free o
      have HC := Lib.hid hcs
      have HK := Lib.hid hblk
      have H0 := Lib.hid hc0
      have H1 := Lib.hid hc1
      obtain ⟨m, hm⟩ : ∃ m, k + j * 2 = m := ⟨_, rfl⟩
      have HM := Lib.hid hm
      have hlj : (j : Int) < (n : Int) := by omega
      have hm1 : (m : Int) ≤ 4194304 := by omega
      have hm0 : (0 : Int) ≤ (m : Int) := by omega
      generalize (if j * 2 < j * 2 then ((k + j * 2 : Nat) : Int) else P[j * 2]'(by omega)) = z0 at *
      generalize (if j * 2 + 1 < j * 2 then ((k + (j * 2 + 1) : Nat) : Int) else P[j * 2 + 1]'(by omega)) = z1 at *
      rw [hm]
      clear hcs hblk hm hn0 hn1 hin hP
      go_wp2_with fail
      go_roundw
      case rel =>
        refine ⟨j + 1, by omega, by go_num, ?_, (fun _ => ⟨by first | rfl | trivial, blk_set (blk_set HK.out _ _) _ _, fun i q hn => ?_⟩), hkb.out.trans ⟨rfl, rfl, rfl, (KeptBut.setCell (by simp) _).trans (KeptBut.setCell (by simp) _)⟩⟩
        · have := HM.out
          congr 1
          omega
        · have hx := cell_two (v := .int .i64 (m : Int)) H1.out H0.out
          rw [cell_two (cell_two (HC.out i q hn) H0.out) hx]
          have := HM.out
          by_cases e1 : i = j * 2 + 1
          · subst e1
            rw [if_pos rfl, if_pos (by omega), show ((k + (j * 2 + 1) : Nat) : Int) = (m : Int) + 1 by omega]
          · rw [if_neg e1]
            by_cases e : i = j * 2
            · subst e
              rw [if_pos rfl, if_pos (by omega), this]
            · rw [if_neg e]
              by_cases e2 : i < j * 2
              · rw [if_pos e2, if_pos (by omega)]
              · rw [if_neg e2, if_neg (by omega)]
      case measure => simp [intOf]; omega
    · have e9 : j = n := by omega
      subst e9
      have hli : ¬ (j : Int) < (j : Int) := by omega
      go_wp2_with fail
      go_ret
      refine ⟨rfl, fun hp => ?_, hkb.out⟩
      rw [seqI_len] at hp
      have hP := HP.out
      obtain ⟨a, b, d⟩ := hin.out (by omega)
      refine ⟨a, b, fun i n hn => ?_⟩
      have hi : i < P.length := by
        have := (List.getElem?_eq_some_iff.1 hn).1
        rw [seqI_len] at this
        omega
      rw [seqI_get (by omega)] at hn
      cases hn
      have h9 := d i _ (List.getElem?_eq_getElem hi)
      rw [if_pos (by omega)] at h9
      exact h9

set_option maxHeartbeats 1000000 in
theorem heldBlockS_own (n : Nat) (hl : n ≤ 1048576) (k : Nat) (h1 : k ≤ 1048576) (R : Option Addr) (c g : Nat) (w : World) (h : Nums w (seqI k (n * 2)) R g) :
    Calls Try.prog 73 #[.slice R n c, .int .i64 k] w fun e w' => e = .returned (.int .i64 ((k + n * 2 : Nat) : Int)) ∧ Below w.heap.size w w' := by
  have H := Lib.hid h
  clear h
  go_enter Try.func73, Try.ntmps73
  go_wp2_with fail
  go_loopw [1, 5] (fun x i wr => ∃ j : Nat, j ≤ n ∧ i = .int .i64 j ∧ x = .int .i64 ((k + j * 2 : Nat) : Int) ∧ Below w.heap.size w wr) (fun _ i _ => n - (intOf i).toNat)
  case atStart => exact ⟨0, Nat.zero_le _, rfl, rfl, Below.refl _ _⟩
  case round =>
    obtain ⟨j, hj, rfl, rfl, hbel⟩ := hrel
    by_cases hlt : j < n
    · obtain ⟨rfl, _, hcs⟩ := (H.out.below hbel) (by rw [seqI_len]; omega)
      have hc0 := hcs (j * 2) _ (seqI_get (by omega))
      have hc1 := hcs (j * 2 + 1) _ (seqI_get (by omega))
      have HB := Lib.hid hbel
      obtain ⟨m, hm⟩ : ∃ m, k + j * 2 = m := ⟨_, rfl⟩
      rw [hm] at hc0
      rw [← Nat.add_assoc, hm] at hc1
      rw [show ((m + 1 : Nat) : Int) = (m : Int) + 1 by omega] at hc1
      have HM := Lib.hid hm
      have hlj : (j : Int) < (n : Int) := by omega
      have hm1 : (m : Int) ≤ 4194304 := by omega
      have hm0 : (0 : Int) ≤ (m : Int) := by omega
      rw [hm]
      clear hcs hm hbel
      go_wp2_with fail
      go_roundw
      case rel =>
        refine ⟨j + 1, by omega, by go_num, ?_, HB.out⟩
        have := HM.out
        first | (rw [show ((k + (j + 1) * 2 : Nat) : Int) = (m : Int) + 1 + 1 by omega]; done) | (congr 1; omega)
      case measure => simp [intOf]; omega
    · have e9 : j = n := by omega
      subst e9
      have hli : ¬ (j : Int) < (j : Int) := by omega
      go_wp2_with fail
      go_ret
      exact ⟨rfl, hbel⟩
set_option maxHeartbeats 1000000 in
theorem markMemory_own (P : List Int) (n : Nat) (hP : P.length = n * 2) (hl : n ≤ 1048576) (k : Nat) (h1 : k ≤ 1048576) (bt : ByteArray) (R : Option Addr) (c g : Nat) (w : World) (h : Nums w P R g) :
    Calls Try.prog 32 #[.agg #[.string bt, .slice R n c], .int .i64 k] w fun e w' => e = .returned (.int .i64 ((k + n * 2 : Nat) : Int)) ∧ Nums w' (seqI k (n * 2)) R g ∧ Kb [g] w w' := by
  have C := Lib.hid (fun W (h : Nums W P R g) => markBlockS_own P n hP hl k h1 R c g W h)
  have H := Lib.hid h
  obtain ⟨q, hq⟩ : ∃ q, k + n * 2 = q := ⟨_, rfl⟩
  have HQ := Lib.hid hq
  rw [hq] at C
  clear h hP hq
  go_enter Try.func32, Try.ntmps32
  go_wp2_with fail
  go_at_call 72
  refine (C.out _ (H.out.below (below1 _ _))).mono ?_
  rintro e w2 ⟨rfl, hn2, hk2⟩
  have HN := Lib.hid hn2
  have HK := Lib.hid ((Kb.of_below (bs := [g]) (below1 _ _)).trans hk2)
  clear hn2 hk2
  go_wp2_with fail
  go_ret
  refine ⟨?_, HN.out, HK.out⟩
  first | rfl | (have := HQ.out; subst this; rfl)

set_option maxHeartbeats 1000000 in
theorem heldMemory_own (n : Nat) (hl : n ≤ 1048576) (k : Nat) (h1 : k ≤ 1048576) (bt : ByteArray) (R : Option Addr) (c g : Nat) (w : World) (h : Nums w (seqI k (n * 2)) R g) :
    Calls Try.prog 33 #[.agg #[.string bt, .slice R n c], .int .i64 k] w fun e w' => e = .returned (.int .i64 ((k + n * 2 : Nat) : Int)) ∧ Below w.heap.size w w' := by
  have C := Lib.hid (fun W (h : Nums W (seqI k (n * 2)) R g) => heldBlockS_own n hl k h1 R c g W h)
  have H := Lib.hid h
  obtain ⟨q, hq⟩ : ∃ q, k + n * 2 = q := ⟨_, rfl⟩
  have HQ := Lib.hid hq
  have hq0 : (0 : Int) ≤ (q : Int) := by omega
  rw [hq] at C
  clear h hq
  go_enter Try.func33, Try.ntmps33
  go_wp2_with fail
  go_at_call 73
  refine (C.out _ (H.out.below (below1 _ _))).mono ?_
  rintro e w2 ⟨rfl, hb2⟩
  have HB := Lib.hid (bnext (below1 _ _) hb2)
  clear hb2
  go_wp2_with fail
  go_ret
  refine ⟨?_, HB.out⟩
  first | rfl | (have := HQ.out; subst this; rfl)
end Go.Proofs.Ytndeklmkhfopgaa
