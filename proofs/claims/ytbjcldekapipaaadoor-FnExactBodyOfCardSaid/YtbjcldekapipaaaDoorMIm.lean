/-
  InMark, InOwn: in one text.
-/
import Derived.Test.YtbjcldekapipaaaDoorStWIn
import Derived.Test.YtbjcldekapipaaaDoorTyOwn
import Derived.Deep.AppendLies
import Derived.Deep.OwnRows
import Derived.Laws.OwnMore
namespace Go.Proofs.YtbjcldekapipaaaDoor
open Go.ChangeShapes Go.WideShapes Go.ChangeAt Go.RowKit Go.Deep

/-- Nothing has turned but these blocks and new memory. -/
structure Kb (bs : List Nat) (w w' : World) : Prop where
  os : w'.os = w.os
  tape : w'.tape = w.tape
  output : w'.output = w.output
  but : KeptBut bs w w'
theorem Kb.refl (bs : List Nat) (w : World) : Kb bs w w := ⟨rfl, rfl, rfl, KeptBut.refl _ _⟩
theorem Kb.trans {bs : List Nat} {a b c : World} (h : Kb bs a b) (k : Kb bs b c) : Kb bs a c := ⟨k.os.trans h.os, k.tape.trans h.tape, k.output.trans h.output, h.but.trans k.but⟩
theorem Kb.of_below {bs : List Nat} {w w' : World} (h : Below w.heap.size w w') : Kb bs w w' := ⟨h.os, h.tape, h.output, KeptBut.of_below h⟩
theorem Kb.setCell {bs : List Nat} {w : World} {p : Addr} (hp : p.block ∈ bs) (v : Value) : Kb bs w (w.setCell p v) := ⟨rfl, rfl, rfl, KeptBut.setCell hp v⟩
theorem Kb.mono {bs cs : List Nat} {w w' : World} (h : Kb bs w w') (hs : ∀ b ∈ bs, b ∈ cs) : Kb cs w w' := ⟨h.os, h.tape, h.output, h.but.mono hs⟩
theorem Kb.below {bs : List Nat} {B : Nat} {w w' : World} (h : Kb bs w w') (hs : ∀ b ∈ bs, B ≤ b) (hB : B ≤ w.heap.size) : Below B w w' := ⟨h.os, h.tape, h.output, h.but.1, fun k hk => h.but.2 k (by omega) (fun hm => by have := hs k hm; omega)⟩
/-- The numbers lie from a plain block's start on. -/
def Nums (w : World) (P : List Int) (R : Option Addr) (g : Nat) : Prop := 0 < P.length → R = some ⟨g, 0, none⟩ ∧ Blk w g ∧ ∀ (i : Nat) (n : Int), P[i]? = some n → w.cell? ⟨g, i, none⟩ = some (.int .i64 n)
theorem Nums.same {w w' : World} {P : List Int} {R : Option Addr} {g : Nat} (h : Nums w P R g) (e : g < w.heap.size → w'.heap[g]? = w.heap[g]?) : Nums w' P R g := fun hp => by
  obtain ⟨h1, h2, h3⟩ := h hp
  have e := e h2.lt
  exact ⟨h1, h2.same e, fun i n hn => (World.cell?_of_block e).trans (h3 i n hn)⟩
theorem Nums.below {w w' : World} {P : List Int} {R : Option Addr} {g : Nat} (h : Nums w P R g) (hb : Below w.heap.size w w') : Nums w' P R g := h.same fun hl => hb.block g hl
theorem Nums.kb {w w' : World} {P : List Int} {R : Option Addr} {g : Nat} {bs : List Nat} (h : Nums w P R g) (hb : Kb bs w w') (hn : g < w.heap.size → g ∉ bs) : Nums w' P R g := h.same fun hl => hb.but.2 g hl (hn hl)
/-- So many numbers from one on. -/
def seqI (k n : Nat) : List Int := (List.range n).map fun i => ((k + i : Nat) : Int)
theorem seqI_len (k n : Nat) : (seqI k n).length = n := by simp [seqI]
theorem seqI_get {k n i : Nat} (h : i < n) : (seqI k n)[i]? = some ((k + i : Nat) : Int) := by simp [seqI, h]

theorem cell_two {w : World} {g i j : Nat} {u v x : Value} (h : w.cell? ⟨g, i, none⟩ = some x) (hj : w.cell? ⟨g, j, none⟩ = some u) : (w.setCell ⟨g, j, none⟩ v).cell? ⟨g, i, none⟩ = some (if i = j then v else x) := by
  by_cases e : i = j
  · subst e
    rw [if_pos rfl]
    exact World.cell?_setCell_same' w ⟨g, i, none⟩ v (by rw [hj]; rfl)
  · rw [if_neg e]
    exact (World.cell?_setCell_other _ _ _ _ (fun e2 => e (by injection e2 with _ e3; exact e3.symm))).trans h
theorem blk_set {w : World} {g : Nat} (h : Blk w g) (p : Addr) (v : Value) : Blk (w.setCell p v) g := by
  obtain ⟨c, t, hc⟩ := h
  by_cases e : p.block = g
  · subst e
    simp only [Blk, World.setCell, Array.getElem?_modify, if_pos, hc, Option.map_some]
    exact ⟨_, t, rfl⟩
  · refine ⟨c, t, ?_⟩
    simp [World.setCell, Array.getElem?_modify, e, hc]

set_option maxHeartbeats 1000000 in
theorem markInsS_own (P : List Int) (n : Nat) (hP : P.length = n * 2) (hl : n ≤ 1048576) (k : Nat) (h1 : k ≤ 1048576) (R : Option Addr) (c g : Nat) (w : World) (h : Nums w P R g) :
    Calls Tryd.prog 24 #[.slice R n c, .int .i64 k] w fun e w' => e = .returned (.int .i64 ((k + n * 2 : Nat) : Int)) ∧ Nums w' (seqI k (n * 2)) R g ∧ Kb [g] w w' := by
  have H := Lib.hid h
  have HP := Lib.hid hP
  clear h hP
  go_enter Tryd.func24, Tryd.ntmps24
  go_wp2_with fail
  go_loopw [1, 5] (fun x i wr => ∃ j : Nat, j ≤ n ∧ i = .int .i64 j ∧ x = .int .i64 ((k + j * 2 : Nat) : Int) ∧ Hid (0 < P.length → R = some ⟨g, 0, none⟩ ∧ Blk wr g ∧ ∀ (i : Nat) (n : Int), P[i]? = some n → wr.cell? ⟨g, i, none⟩ = some (.int .i64 (if i < j * 2 then ((k + i : Nat) : Int) else n))) ∧ Hid (Kb [g] w wr)) (fun _ i _ => n - (intOf i).toNat)
  case atStart => exact ⟨0, Nat.zero_le _, rfl, rfl, (fun hp => by
    obtain ⟨a, b, d⟩ := H.out hp
    exact ⟨a, b, fun i n hn => by rw [if_neg (by omega)]; exact d i n hn⟩), Kb.refl _ _⟩
  case round =>
    obtain ⟨j, hj, rfl, rfl, hin, hkb⟩ := hrel
    by_cases hlt : j < n
    · have hP := HP.out
      obtain ⟨rfl, hblk, hcs⟩ := hin.out (by omega)
      have hn0 : P[j * 2]? = some (P[j * 2]'(by omega)) := List.getElem?_eq_getElem (by omega)
      have hn1 : P[j * 2 + 1]? = some (P[j * 2 + 1]'(by omega)) := List.getElem?_eq_getElem (by omega)
      have hc0 := hcs _ _ hn0
      have hc1 := hcs _ _ hn1
      have hf := fun o => hblk.free o
      have HC := Lib.hid hcs
      have HK := Lib.hid hblk
      have H0 := Lib.hid hc0
      have H1 := Lib.hid hc1
      obtain ⟨m, hm⟩ : ∃ m, k + j * 2 = m := ⟨_, rfl⟩
      have HM := Lib.hid hm
      have hlj : (j : Int) < (n : Int) := by omega
      have hm1 : (m : Int) ≤ 4194304 := by omega
      have hm0 : (0 : Int) ≤ (m : Int) := by omega
      generalize (if j * 2 < j * 2 then ((k + j * 2 : Nat) : Int) else P[j * 2]'(by omega)) = z0 at *
      generalize (if j * 2 + 1 < j * 2 then ((k + (j * 2 + 1) : Nat) : Int) else P[j * 2 + 1]'(by omega)) = z1 at *
      rw [hm]
      clear hcs hblk hm hn0 hn1 hin hP
      go_wp2_with fail
      go_roundw
      case rel =>
        refine ⟨j + 1, by omega, by go_num, ?_, (fun _ => ⟨by first | rfl | trivial, blk_set (blk_set HK.out _ _) _ _, fun i q hn => ?_⟩), hkb.out.trans ⟨rfl, rfl, rfl, (KeptBut.setCell (by simp) _).trans (KeptBut.setCell (by simp) _)⟩⟩
        · have := HM.out
          congr 1
          omega
        · have hx := cell_two (v := .int .i64 (m : Int)) H1.out H0.out
          rw [cell_two (cell_two (HC.out i q hn) H0.out) hx]
          have := HM.out
          by_cases e1 : i = j * 2 + 1
          · subst e1
            rw [if_pos rfl, if_pos (by omega), show ((k + (j * 2 + 1) : Nat) : Int) = (m : Int) + 1 by omega]
          · rw [if_neg e1]
            by_cases e : i = j * 2
            · subst e
              rw [if_pos rfl, if_pos (by omega), this]
            · rw [if_neg e]
              by_cases e2 : i < j * 2
              · rw [if_pos e2, if_pos (by omega)]
              · rw [if_neg e2, if_neg (by omega)]
      case measure => simp [intOf]; omega
    · have e9 : j = n := by omega
      subst e9
      have hli : ¬ (j : Int) < (j : Int) := by omega
      go_wp2_with fail
      go_ret
      refine ⟨rfl, fun hp => ?_, hkb.out⟩
      rw [seqI_len] at hp
      have hP := HP.out
      obtain ⟨a, b, d⟩ := hin.out (by omega)
      refine ⟨a, b, fun i n hn => ?_⟩
      have hi : i < P.length := by
        have := (List.getElem?_eq_some_iff.1 hn).1
        rw [seqI_len] at this
        omega
      rw [seqI_get (by omega)] at hn
      cases hn
      have h9 := d i _ (List.getElem?_eq_getElem hi)
      rw [if_pos (by omega)] at h9
      exact h9

set_option maxHeartbeats 1000000 in
theorem heldInsS_own (n : Nat) (hl : n ≤ 1048576) (k : Nat) (h1 : k ≤ 1048576) (R : Option Addr) (c g : Nat) (w : World) (h : Nums w (seqI k (n * 2)) R g) :
    Calls Tryd.prog 25 #[.slice R n c, .int .i64 k] w fun e w' => e = .returned (.int .i64 ((k + n * 2 : Nat) : Int)) ∧ Below w.heap.size w w' := by
  have H := Lib.hid h
  clear h
  go_enter Tryd.func25, Tryd.ntmps25
  go_wp2_with fail
  go_loopw [1, 5] (fun x i wr => ∃ j : Nat, j ≤ n ∧ i = .int .i64 j ∧ x = .int .i64 ((k + j * 2 : Nat) : Int) ∧ Below w.heap.size w wr) (fun _ i _ => n - (intOf i).toNat)
  case atStart => exact ⟨0, Nat.zero_le _, rfl, rfl, Below.refl _ _⟩
  case round =>
    obtain ⟨j, hj, rfl, rfl, hbel⟩ := hrel
    by_cases hlt : j < n
    · obtain ⟨rfl, _, hcs⟩ := (H.out.below hbel) (by rw [seqI_len]; omega)
      have hc0 := hcs (j * 2) _ (seqI_get (by omega))
      have hc1 := hcs (j * 2 + 1) _ (seqI_get (by omega))
      have HB := Lib.hid hbel
      obtain ⟨m, hm⟩ : ∃ m, k + j * 2 = m := ⟨_, rfl⟩
      rw [hm] at hc0
      rw [← Nat.add_assoc, hm] at hc1
      rw [show ((m + 1 : Nat) : Int) = (m : Int) + 1 by omega] at hc1
      have HM := Lib.hid hm
      have hlj : (j : Int) < (n : Int) := by omega
      have hm1 : (m : Int) ≤ 4194304 := by omega
      have hm0 : (0 : Int) ≤ (m : Int) := by omega
      rw [hm]
      clear hcs hm hbel
      go_wp2_with fail
      go_roundw
      case rel =>
        refine ⟨j + 1, by omega, by go_num, ?_, HB.out⟩
        have := HM.out
        first | (rw [show ((k + (j + 1) * 2 : Nat) : Int) = (m : Int) + 1 + 1 by omega]; done) | (congr 1; omega)
      case measure => simp [intOf]; omega
    · have e9 : j = n := by omega
      subst e9
      have hli : ¬ (j : Int) < (j : Int) := by omega
      go_wp2_with fail
      go_ret
      exact ⟨rfl, hbel⟩
end Go.Proofs.YtbjcldekapipaaaDoor

namespace Go.Proofs.YtbjcldekapipaaaDoor
open Go.ChangeShapes Go.WideShapes Go.ChangeAt Go.RowKit Go.Deep

def inCells (b : In) : List Value := [.int .i64 b.op, .int .i64 b.a]
def inVals (xs : List In) : List Value := xs.flatMap inCells
def inNums (xs : List In) : List Int := xs.flatMap fun b => [b.op, b.a]
theorem inVals_len : ∀ xs : List In, (inVals xs).length = xs.length * 2
  | [] => rfl
  | x :: xs => by
    have h := inVals_len xs
    unfold inVals at h ⊢
    rw [List.flatMap_cons, List.length_append, h]
    simp only [inCells, List.length_cons, List.length_nil]
    omega
theorem inNums_len : ∀ xs : List In, (inNums xs).length = xs.length * 2
  | [] => rfl
  | x :: xs => by
    have h := inNums_len xs
    unfold inNums at h ⊢
    rw [List.flatMap_cons, List.length_append, h]
    simp only [List.length_cons, List.length_nil]
    omega
theorem inVals_nums : ∀ xs : List In, inVals xs = (inNums xs).map (Value.int .i64)
  | [] => rfl
  | x :: xs => by
    have h := inVals_nums xs
    unfold inVals inNums at h ⊢
    rw [List.flatMap_cons, List.flatMap_cons, List.map_append, h]
    rfl
theorem inVals_append (xs ys : List In) : inVals (xs ++ ys) = inVals xs ++ inVals ys := List.flatMap_append
theorem inNums_get : ∀ {xs : List In} {i : Nat} {x : In}, xs[i]? = some x → (inNums xs)[i * 2]? = some x.op ∧ (inNums xs)[i * 2 + 1]? = some x.a
  | x :: xs, 0, y, h => by
    obtain rfl : x = y := by simpa using h
    exact ⟨rfl, rfl⟩
  | x :: xs, i + 1, y, h => by
    have h1 := inNums_get (xs := xs) (i := i) (x := y) (by simpa using h)
    have e : inNums (x :: xs) = x.op :: x.a :: inNums xs := rfl
    rw [e, show (i + 1) * 2 = i * 2 + 1 + 1 by omega]
    exact ⟨by simpa using h1.1, by simpa using h1.2⟩
theorem infoIns2 : (Tryd.prog.info? 27).map (fun i => (i.zero, i.size, i.bytes)) = some (some (.agg #[.int .i64 0, .int .i64 0]), 2, 16) := by kernel_rfl
/-- A row of instructions of one's own, with its form. -/
def OwnIn (W : World) (base : Nat) (xs : List In) (R : Option Addr) (n c : Nat) : Prop := xs.length = n ∧ W.ownsRow base 27 2 (.slice R n c) n (inVals xs)
theorem OwnIn.keep {w w' : World} {base : Nat} {xs : List In} {R : Option Addr} {n c : Nat} (h : OwnIn w base xs R n c) (hb : Below w.heap.size w w') : OwnIn w' base xs R n c := by
  refine ⟨h.1, h.2.1, ?_⟩
  rcases h.2.2 with h2 | ⟨g, cap, cur, hv, hg, hh, r⟩
  · exact Or.inl h2
  · exact Or.inr ⟨g, cap, cur, hv, hg, (hb.block g (Array.getElem?_eq_some_iff.1 hh).1).trans hh, r⟩
theorem OwnIn.down {w : World} {base b2 : Nat} {xs : List In} {R : Option Addr} {n c : Nat} (h : OwnIn w base xs R n c) (hb : b2 ≤ base) : OwnIn w b2 xs R n c := by
  refine ⟨h.1, h.2.1, ?_⟩
  rcases h.2.2 with h2 | ⟨g, cap, cur, hv, hg, r⟩
  · exact Or.inl h2
  · exact Or.inr ⟨g, cap, cur, hv, Nat.le_trans hb hg, r⟩
theorem OwnIn.nums {w : World} {base : Nat} {xs : List In} {R : Option Addr} {n c : Nat} (h : OwnIn w base xs R n c) : ∃ g, base ≤ g ∧ (0 < n → g < w.heap.size) ∧ Nums w (inNums xs) R g := by
  obtain ⟨hl, ho⟩ := h
  have hlen := inNums_len xs
  rcases ho.2 with ⟨e, e2⟩ | ⟨g, cap', cur, e, hg, hb, h1, h2, h3, h4⟩
  · exact ⟨base, Nat.le_refl _, fun hp => by omega, fun hp => by omega⟩
  · injection e with e1 e2 e3
    subst e1
    refine ⟨g, hg, fun _ => (Array.getElem?_eq_some_iff.1 hb).1, fun hp => ⟨rfl, ⟨cur, _, hb⟩, fun i m hm => ?_⟩⟩
    have hi : i < (inNums xs).length := (List.getElem?_eq_some_iff.1 hm).1
    have hci : cur.toList[i]? = some (.int .i64 m) := by
      have h5 := congrArg (fun z => z[i]?) h4
      rw [inVals_nums] at h5
      simp only [List.getElem?_take, if_pos (show i < n * 2 by omega), List.getElem?_map, hm, Option.map_some] at h5
      exact h5
    simp only [World.cell?, hb]
    rw [Array.getElem?_toList] at hci
    exact hci
theorem Nums.ins {w : World} {xs : List In} {R : Option Addr} {g lo : Nat} (h : Nums w (inNums xs) R g) (hlo : lo ≤ g) : Ins w lo xs R := fun hp => by
  obtain ⟨e, _, hc⟩ := h (by rw [inNums_len]; omega)
  refine ⟨g, 0, e, hlo, fun i x hx => ?_⟩
  obtain ⟨h0, h1⟩ := inNums_get hx
  rw [Nat.zero_add]
  exact ⟨hc _ _ h0, hc _ _ h1, Nat.le_refl _⟩
theorem nums_nil (w : World) (R : Option Addr) (g : Nat) : Nums w (inNums []) R g := fun hp => absurd hp (by simp [inNums])
theorem ownIn_nil (w : World) (base : Nat) : OwnIn w base [] none 0 0 := ⟨rfl, World.ownsRow_nil _ _ _ _⟩
theorem ownIn_new (w : World) (base : Nat) (hb : base ≤ w.heap.size) : OwnIn (w.alloc (.cells #[] 27)) base [] (some ⟨w.heap.size, 0, none⟩) 0 0 :=
  ⟨rfl, rfl, Or.inr ⟨w.heap.size, 0, #[], rfl, hb, by show (w.heap.push _)[w.heap.size]? = _; simp, Nat.le_refl _, by unfold maxLen; omega, rfl, rfl⟩⟩
theorem formI {w : World} {base : Nat} {e : TypeId} {size n : Nat} {v : Value} {xs : List Value} (h : w.ownsRow base e size v n xs) : ∃ (R : Option Addr) (cap : Nat), v = .slice R n cap := by
  rcases h.2 with ⟨rfl, rfl⟩ | ⟨g, cap, _, rfl, _⟩
  · exact ⟨none, 0, rfl⟩
  · exact ⟨_, cap, rfl⟩
set_option maxRecDepth 100000 in
theorem appI0 {w : World} {base : Nat} {v : Value} {n : Nat} {xs : List Value} (hown : w.ownsRow base 27 2 v n xs) (ca : Nat) (ty : TypeId) : (Builtin.append_ #[37, 37] ty #[v, .slice none 0 ca]).run Tryd.prog w = .ok v w := by
  obtain ⟨i0, hi, hz0, hz1, hz2⟩ := info_parts infoIns2
  have ht := Tryd.underlying37
  rcases hown.2 with ⟨rfl, rfl⟩ | ⟨g, cap, cur, rfl, _, _, hnc, _⟩
  · simp [Builtin.append_, run_underlying ht, sizeOf, typeInfo, hi, Builtin.lenOf, Builtin.firstCells]
  · simp [Builtin.append_, run_underlying ht, sizeOf, typeInfo, hi, Builtin.lenOf, Builtin.firstCells, hnc, storeCells]
set_option maxRecDepth 100000 in
/-- One row of instructions behind another. -/
theorem appIn {w : World} {base : Nat} {xs ys : List In} {R R2 : Option Addr} {n c c2 lo : Nat} (h : OwnIn w base xs R n c) (h2 : Ins w lo ys R2) (hb : base ≤ w.heap.size) (hn : n + ys.length ≤ 1048576) (ty : TypeId) :
    ∃ v' w', (Builtin.append_ #[37, 37] ty #[.slice R n c, .slice R2 ys.length c2]).run Tryd.prog w = .ok v' w' ∧ ∃ (R' : Option Addr) (c' : Nat), v' = .slice R' (n + ys.length) c' ∧ OwnIn w' base (xs ++ ys) R' (n + ys.length) c' ∧ w.grownBy w' (Value.slice R n c).ownBlock := by
  obtain ⟨i0, hi, hz0, hz1, hz2⟩ := info_parts infoIns2
  obtain ⟨hl, ho⟩ := h
  have main : ∀ a : Addr, (∀ j u, (inVals ys)[j]? = some u → w.cell? (a.add j) = some u) → ∃ v' w', (Builtin.append_ #[37, 37] ty #[.slice R n c, .slice (some a) ys.length c2]).run Tryd.prog w = .ok v' w' ∧ ∃ (R' : Option Addr) (c' : Nat), v' = .slice R' (n + ys.length) c' ∧ OwnIn w' base (xs ++ ys) R' (n + ys.length) c' ∧ w.grownBy w' (Value.slice R n c).ownBlock := fun a ha => by
    obtain ⟨v', w', hr, ho', hg, _⟩ := run_append_own_at (P := Tryd.prog) w base 37 ty 27 i0 _ 2 16 Tryd.underlying37 hi hz0 hz1 hz2 rfl (by decide) (.slice R n c) n (inVals xs) ho a ys.length c2 (inVals ys) (inVals_len ys) ha (fun u hu => by
      rw [inVals_nums] at hu
      obtain ⟨x, _, rfl⟩ := List.mem_map.1 hu
      rfl) (by unfold maxLen; omega) (by omega) hb
    obtain ⟨R', c', rfl⟩ := formI ho'
    exact ⟨_, w', hr, R', c', rfl, ⟨by rw [List.length_append, hl], by rw [inVals_append]; exact ho'⟩, hg⟩
  cases ys with
  | nil =>
    cases R2 with
    | none => exact ⟨_, w, appI0 ho c2 ty, R, c, rfl, ⟨by simpa using hl, by simpa using ho⟩, ⟨rfl, rfl, rfl, Nat.le_refl _, fun _ _ _ => rfl⟩⟩
    | some a => exact main a (fun j u hu => by simp [inVals] at hu)
  | cons y ys =>
    obtain ⟨b, o, rfl, _, hc⟩ := h2 (by simp)
    refine main ⟨b, o, none⟩ (fun j u hu => ?_)
    rw [inVals_nums, List.getElem?_map] at hu
    cases hj : (inNums (y :: ys))[j]? with
    | none =>
      rw [hj] at hu
      cases hu
    | some x =>
      rw [hj] at hu
      obtain rfl : Value.int .i64 x = u := Option.some.inj hu
      have hadd : (⟨b, o, none⟩ : Addr).add j = ⟨b, o + j, none⟩ := by unfold Addr.add; split <;> simp_all
      rw [hadd]
      have hjl := (List.getElem?_eq_some_iff.1 hj).1
      rw [inNums_len] at hjl
      have hz : (y :: ys)[j / 2]? = some ((y :: ys)[j / 2]'(by omega)) := List.getElem?_eq_getElem _
      obtain ⟨g0, g1⟩ := inNums_get hz
      have hcc := hc _ _ hz
      rcases Nat.mod_two_eq_zero_or_one j with e | e
      · have e2 : j / 2 * 2 = j := by omega
        rw [e2, hj] at g0
        have := hcc.c0_
        rw [e2] at this
        rw [this, ← Option.some.inj g0]
      · have e2 : j / 2 * 2 + 1 = j := by omega
        rw [e2, hj] at g1
        have := hcc.c1_
        rw [Nat.add_assoc, e2] at this
        rw [this, ← Option.some.inj g1]
end Go.Proofs.YtbjcldekapipaaaDoor

