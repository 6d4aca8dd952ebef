/-
  Rows of blocks as append builds them; what a memory that is an answer is. No condition.
-/
import Derived.Test.YtoeofhhmkkpjbaaBkMark
import Derived.Test.YtoeofhhmkkpjbaaMemA
import Derived.Deep.AppendLies
import Derived.Deep.OwnRows
import Derived.Laws.OwnMore
namespace Go.Proofs.Ytoeofhhmkkpjbaa
open Go.ChangeShapes Go.WideShapes Go.ChangeAt Go.RowKit Go.Deep

def bkCells (b : Bk) : List Value := [.int .i64 b.pos, .int .i64 b.size]
def bkVals (xs : List Bk) : List Value := xs.flatMap bkCells
def bkNums (xs : List Bk) : List Int := xs.flatMap fun b => [b.pos, b.size]
theorem bkVals_len : ∀ xs : List Bk, (bkVals xs).length = xs.length * 2
  | [] => rfl
  | x :: xs => by
    have h := bkVals_len xs
    unfold bkVals at h ⊢
    rw [List.flatMap_cons, List.length_append, h]
    simp only [bkCells, List.length_cons, List.length_nil]
    omega
theorem bkNums_len : ∀ xs : List Bk, (bkNums xs).length = xs.length * 2
  | [] => rfl
  | x :: xs => by
    have h := bkNums_len xs
    unfold bkNums at h ⊢
    rw [List.flatMap_cons, List.length_append, h]
    simp only [List.length_cons, List.length_nil]
    omega
theorem bkVals_nums : ∀ xs : List Bk, bkVals xs = (bkNums xs).map (Value.int .i64)
  | [] => rfl
  | x :: xs => by
    have h := bkVals_nums xs
    unfold bkVals bkNums at h ⊢
    rw [List.flatMap_cons, List.flatMap_cons, List.map_append, h]
    rfl
theorem bkVals_append (xs ys : List Bk) : bkVals (xs ++ ys) = bkVals xs ++ bkVals ys := List.flatMap_append
theorem bkNums_get : ∀ {xs : List Bk} {i : Nat} {x : Bk}, xs[i]? = some x → (bkNums xs)[i * 2]? = some x.pos ∧ (bkNums xs)[i * 2 + 1]? = some x.size
  | x :: xs, 0, y, h => by
    obtain rfl : x = y := by simpa using h
    exact ⟨rfl, rfl⟩
  | x :: xs, i + 1, y, h => by
    have h1 := bkNums_get (xs := xs) (i := i) (x := y) (by simpa using h)
    have e : bkNums (x :: xs) = x.pos :: x.size :: bkNums xs := rfl
    rw [e, show (i + 1) * 2 = i * 2 + 1 + 1 by omega]
    exact ⟨by simpa using h1.1, by simpa using h1.2⟩
theorem infoBlk2 : (Try.prog.info? 44).map (fun i => (i.zero, i.size, i.bytes)) = some (some (.agg #[.int .i64 0, .int .i64 0]), 2, 16) := by kernel_rfl
/-- A row of blocks of one's own, with its form. -/
def OwnBk (W : World) (base : Nat) (xs : List Bk) (R : Option Addr) (n c : Nat) : Prop := xs.length = n ∧ W.ownsRow base 44 2 (.slice R n c) n (bkVals xs)
theorem OwnBk.keep {w w' : World} {base : Nat} {xs : List Bk} {R : Option Addr} {n c : Nat} (h : OwnBk w base xs R n c) (hb : Below w.heap.size w w') : OwnBk w' base xs R n c := by
  refine ⟨h.1, h.2.1, ?_⟩
  rcases h.2.2 with h2 | ⟨g, cap, cur, hv, hg, hh, r⟩
  · exact Or.inl h2
  · exact Or.inr ⟨g, cap, cur, hv, hg, (hb.block g (Array.getElem?_eq_some_iff.1 hh).1).trans hh, r⟩
theorem OwnBk.down {w : World} {base b2 : Nat} {xs : List Bk} {R : Option Addr} {n c : Nat} (h : OwnBk w base xs R n c) (hb : b2 ≤ base) : OwnBk w b2 xs R n c := by
  refine ⟨h.1, h.2.1, ?_⟩
  rcases h.2.2 with h2 | ⟨g, cap, cur, hv, hg, r⟩
  · exact Or.inl h2
  · exact Or.inr ⟨g, cap, cur, hv, Nat.le_trans hb hg, r⟩
theorem OwnBk.nums {w : World} {base : Nat} {xs : List Bk} {R : Option Addr} {n c : Nat} (h : OwnBk w base xs R n c) : ∃ g, base ≤ g ∧ (0 < n → g < w.heap.size) ∧ Nums w (bkNums xs) R g := by
  obtain ⟨hl, ho⟩ := h
  have hlen := bkNums_len xs
  rcases ho.2 with ⟨e, e2⟩ | ⟨g, cap', cur, e, hg, hb, h1, h2, h3, h4⟩
  · exact ⟨base, Nat.le_refl _, fun hp => by omega, fun hp => by omega⟩
  · injection e with e1 e2 e3
    subst e1
    refine ⟨g, hg, fun _ => (Array.getElem?_eq_some_iff.1 hb).1, fun hp => ⟨rfl, ⟨cur, _, hb⟩, fun i m hm => ?_⟩⟩
    have hi : i < (bkNums xs).length := (List.getElem?_eq_some_iff.1 hm).1
    have hci : cur.toList[i]? = some (.int .i64 m) := by
      have h5 := congrArg (fun z => z[i]?) h4
      rw [bkVals_nums] at h5
      simp only [List.getElem?_take, if_pos (show i < n * 2 by omega), List.getElem?_map, hm, Option.map_some] at h5
      exact h5
    simp only [World.cell?, hb]
    rw [Array.getElem?_toList] at hci
    exact hci
theorem Nums.bks {w : World} {xs : List Bk} {R : Option Addr} {g lo : Nat} (h : Nums w (bkNums xs) R g) (hlo : lo ≤ g) : Bks w lo xs R := fun hp => by
  obtain ⟨e, _, hc⟩ := h (by rw [bkNums_len]; omega)
  refine ⟨g, 0, e, hlo, fun i x hx => ?_⟩
  obtain ⟨h0, h1⟩ := bkNums_get hx
  rw [Nat.zero_add]
  exact ⟨hc _ _ h0, hc _ _ h1, Nat.le_refl _⟩
theorem nums_nil (w : World) (R : Option Addr) (g : Nat) : Nums w (bkNums []) R g := fun hp => absurd hp (by simp [bkNums])
theorem ownBk_nil (w : World) (base : Nat) : OwnBk w base [] none 0 0 := ⟨rfl, World.ownsRow_nil _ _ _ _⟩
theorem ownBk_new (w : World) (base : Nat) (hb : base ≤ w.heap.size) : OwnBk (w.alloc (.cells #[] 44)) base [] (some ⟨w.heap.size, 0, none⟩) 0 0 :=
  ⟨rfl, rfl, Or.inr ⟨w.heap.size, 0, #[], rfl, hb, by show (w.heap.push _)[w.heap.size]? = _; simp, Nat.le_refl _, by unfold maxLen; omega, rfl, rfl⟩⟩
theorem formB {w : World} {base : Nat} {e : TypeId} {size n : Nat} {v : Value} {xs : List Value} (h : w.ownsRow base e size v n xs) : ∃ (R : Option Addr) (cap : Nat), v = .slice R n cap := by
  rcases h.2 with ⟨rfl, rfl⟩ | ⟨g, cap, _, rfl, _⟩
  · exact ⟨none, 0, rfl⟩
  · exact ⟨_, cap, rfl⟩
set_option maxRecDepth 100000 in
theorem appB0 {w : World} {base : Nat} {v : Value} {n : Nat} {xs : List Value} (hown : w.ownsRow base 44 2 v n xs) (ca : Nat) (ty : TypeId) : (Builtin.append_ #[36, 36] ty #[v, .slice none 0 ca]).run Try.prog w = .ok v w := by
  obtain ⟨i0, hi, hz0, hz1, hz2⟩ := info_parts infoBlk2
  have ht := Try.underlying36
  rcases hown.2 with ⟨rfl, rfl⟩ | ⟨g, cap, cur, rfl, _, _, hnc, _⟩
  · simp [Builtin.append_, run_underlying ht, sizeOf, typeInfo, hi, Builtin.lenOf, Builtin.firstCells]
  · simp [Builtin.append_, run_underlying ht, sizeOf, typeInfo, hi, Builtin.lenOf, Builtin.firstCells, hnc, storeCells]
set_option maxRecDepth 100000 in
/-- One row of blocks behind another. -/
theorem appBk {w : World} {base : Nat} {xs ys : List Bk} {R R2 : Option Addr} {n c c2 lo : Nat} (h : OwnBk w base xs R n c) (h2 : Bks w lo ys R2) (hb : base ≤ w.heap.size) (hn : n + ys.length ≤ 1048576) (ty : TypeId) :
    ∃ v' w', (Builtin.append_ #[36, 36] ty #[.slice R n c, .slice R2 ys.length c2]).run Try.prog w = .ok v' w' ∧ ∃ (R' : Option Addr) (c' : Nat), v' = .slice R' (n + ys.length) c' ∧ OwnBk w' base (xs ++ ys) R' (n + ys.length) c' ∧ w.grownBy w' (Value.slice R n c).ownBlock := by
  obtain ⟨i0, hi, hz0, hz1, hz2⟩ := info_parts infoBlk2
  obtain ⟨hl, ho⟩ := h
  have main : ∀ a : Addr, (∀ j u, (bkVals ys)[j]? = some u → w.cell? (a.add j) = some u) → ∃ v' w', (Builtin.append_ #[36, 36] ty #[.slice R n c, .slice (some a) ys.length c2]).run Try.prog w = .ok v' w' ∧ ∃ (R' : Option Addr) (c' : Nat), v' = .slice R' (n + ys.length) c' ∧ OwnBk w' base (xs ++ ys) R' (n + ys.length) c' ∧ w.grownBy w' (Value.slice R n c).ownBlock := fun a ha => by
    obtain ⟨v', w', hr, ho', hg, _⟩ := run_append_own_at (P := Try.prog) w base 36 ty 44 i0 _ 2 16 Try.underlying36 hi hz0 hz1 hz2 rfl (by decide) (.slice R n c) n (bkVals xs) ho a ys.length c2 (bkVals ys) (bkVals_len ys) ha (fun u hu => by
      rw [bkVals_nums] at hu
      obtain ⟨x, _, rfl⟩ := List.mem_map.1 hu
      rfl) (by unfold maxLen; omega) (by omega) hb
    obtain ⟨R', c', rfl⟩ := formB ho'
    exact ⟨_, w', hr, R', c', rfl, ⟨by rw [List.length_append, hl], by rw [bkVals_append]; exact ho'⟩, hg⟩
  cases ys with
  | nil =>
    cases R2 with
    | none => exact ⟨_, w, appB0 ho c2 ty, R, c, rfl, ⟨by simpa using hl, by simpa using ho⟩, ⟨rfl, rfl, rfl, Nat.le_refl _, fun _ _ _ => rfl⟩⟩
    | some a => exact main a (fun j u hu => by simp [bkVals] at hu)
  | cons y ys =>
    obtain ⟨b, o, rfl, _, hc⟩ := h2 (by simp)
    refine main ⟨b, o, none⟩ (fun j u hu => ?_)
    rw [bkVals_nums, List.getElem?_map] at hu
    cases hj : (bkNums (y :: ys))[j]? with
    | none =>
      rw [hj] at hu
      cases hu
    | some x =>
      rw [hj] at hu
      obtain rfl : Value.int .i64 x = u := Option.some.inj hu
      have hadd : (⟨b, o, none⟩ : Addr).add j = ⟨b, o + j, none⟩ := by unfold Addr.add; split <;> simp_all
      rw [hadd]
      have hjl := (List.getElem?_eq_some_iff.1 hj).1
      rw [bkNums_len] at hjl
      have hz : (y :: ys)[j / 2]? = some ((y :: ys)[j / 2]'(by omega)) := List.getElem?_eq_getElem _
      obtain ⟨g0, g1⟩ := bkNums_get hz
      have hcc := hc _ _ hz
      rcases Nat.mod_two_eq_zero_or_one j with e | e
      · have e2 : j / 2 * 2 = j := by omega
        rw [e2, hj] at g0
        have := hcc.c0_
        rw [e2] at this
        rw [this, ← Option.some.inj g0]
      · have e2 : j / 2 * 2 + 1 = j := by omega
        rw [e2, hj] at g1
        have := hcc.c1_
        rw [Nat.add_assoc, e2] at this
        rw [this, ← Option.some.inj g1]
/-- An answer: a memory in memory of its own, and numbers. -/
def MeAns (r : Me) (ns : List Int) (w : World) (e : Ending) (w' : World) : Prop := ∃ (R : Option Addr) (c g : Nat), e = .returned (.tuple (.agg #[.string r.bytes, .slice R r.free.length c] :: ns.map (Value.int .i64)).toArray) ∧ w.heap.size ≤ g ∧ (0 < r.free.length → g < w'.heap.size) ∧ Nums w' (bkNums r.free) R g ∧ Below w.heap.size w w'
end Go.Proofs.Ytoeofhhmkkpjbaa
