/-
  A row of structs in the making: so many elements stored, some cells each. No condition.
-/
import Derived.Test.YtbjcldekapipaaaGreatDoorStrsW
import Derived.Laws.IdiomCopy
namespace Go.Proofs.YtbjcldekapipaaaGreatDoor
open Go.ChangeShapes Go.WideShapes Go.ChangeAt Go.RowKit Go.Deep

def RowGen {α : Type} (E : World → Nat → (Nat → Value) → α → Prop) (ty : TypeId) (wd g n k : Nat) (xs : List α) (wr : World) : Prop :=
  ∃ f : Nat → Value, wr.rowIs g ty (n * wd) f ∧ ∀ (j : Nat) (x : α), j < k → xs[j]? = some x → E wr (g + 1) (fun i => if i < wd then f (j * wd + i) else undef) x

theorem KeptFrom.setCells {lo b : Nat} (hb : b < lo) : ∀ (vs : List Value) (o : Nat) (w : World), KeptFrom lo w (w.setCells b o vs)
  | [], _, _ => ⟨fun _ _ _ h => h, fun _ h => h⟩
  | v :: vs, o, _ => (KeptFrom.setCell (p := ⟨b, o, none⟩) hb v).trans (KeptFrom.setCells hb vs (o + 1) _)
theorem rowIs_setCells {g : Nat} {ty : TypeId} {N : Nat} : ∀ (vs : List Value) (o : Nat) (w : World) (f : Nat → Value), w.rowIs g ty N f → (w.setCells g o vs).rowIs g ty N (fun j => if o ≤ j ∧ j < o + vs.length then vs.getD (j - o) undef else f j)
  | [], o, w, f, h => h.congr fun j _ => by
    have : ¬ (o ≤ j ∧ j < o + ([] : List Value).length) := by simp only [List.length_nil]; omega
    rw [if_neg this]
  | v :: vs, o, w, f, h => (rowIs_setCells vs (o + 1) _ _ (h.set o v)).congr fun j _ => by
    by_cases e : j = o
    · subst e
      have h1 : ¬ (j + 1 ≤ j ∧ j < j + 1 + vs.length) := by omega
      have h2 : j ≤ j ∧ j < j + (v :: vs).length := by simp
      rw [if_neg h1, if_pos h2]
      simp
    · by_cases h1 : o + 1 ≤ j ∧ j < o + 1 + vs.length
      · have h2 : o ≤ j ∧ j < o + (v :: vs).length := by simp only [List.length_cons]; omega
        rw [if_pos h1, if_pos h2]
        obtain ⟨m, rfl⟩ : ∃ m, j = o + 1 + m := ⟨j - (o + 1), by omega⟩
        have e1 : o + 1 + m - (o + 1) = m := by omega
        have e2 : o + 1 + m - o = m + 1 := by omega
        rw [e1, e2, List.getD_cons_succ]
      · have h2 : ¬ (o ≤ j ∧ j < o + (v :: vs).length) := by simp only [List.length_cons]; omega
        rw [if_neg h1, if_neg h2, if_neg e]

section
variable {α : Type} {E : World → Nat → (Nat → Value) → α → Prop} {ty : TypeId} {wd g n k : Nat} {xs : List α}
theorem RowGen.lt {wr : World} (h : RowGen E ty wd g n k xs wr) : g < wr.heap.size := by
  obtain ⟨f, hr, _⟩ := h
  exact hr.lt
theorem RowGen.below {wr w2 : World} (h : RowGen E ty wd g n k xs wr) (hE : ∀ {w w' : World} {lo : Nat} {f : Nat → Value} {x : α}, KeptFrom lo w w' → E w lo f x → E w' lo f x) (hb : Below wr.heap.size wr w2) : RowGen E ty wd g n k xs w2 := by
  obtain ⟨f, hr, hf⟩ := h
  exact ⟨f, hr.of_block (hb.block _ hr.lt), fun j x hj hx => hE (KeptFrom.below hb _) (hf j x hj hx)⟩
theorem RowGen.cells {wr : World} (h : RowGen E ty wd g n k xs wr) (hk : k < n) (j : Nat) (hj : j < wd) : ∃ v, wr.cell? ⟨g, k * wd + j, none⟩ = some v := by
  obtain ⟨f, hr, _⟩ := h
  have h1 : (k + 1) * wd ≤ n * wd := Nat.mul_le_mul_right wd hk
  rw [Nat.add_mul, Nat.one_mul] at h1
  exact ⟨_, hr.cell (by omega)⟩
theorem RowGen.free {wr : World} (h : RowGen E ty wd g n k xs wr) (i : Nat) : wr.frozen? ⟨g, i, none⟩ = false := by
  obtain ⟨f, hr, _⟩ := h
  exact hr.frozen i
theorem RowGen.start {w0 : World} {c : Array Value} (hc : c.size = n * wd) : RowGen E ty wd w0.heap.size n 0 xs (w0.alloc (.cells c ty)) := by
  refine ⟨fun i => (c[i]?).getD undef, ?_, fun j x hj _ => by omega⟩
  rw [← hc]
  exact World.rowIs_alloc _ _ _ _ fun i hi => by simp [hi]
/-- One element's cells are stored. -/
theorem RowGen.step (hE : ∀ {w w' : World} {lo : Nat} {f : Nat → Value} {x : α}, KeptFrom lo w w' → E w lo f x → E w' lo f x) {w2 : World} (h : RowGen E ty wd g n k xs w2) {x : α} (hx : xs[k]? = some x) (vs : List Value) (hvs : vs.length = wd)
    (hel : E w2 (g + 1) (fun i => vs.getD i undef) x) : RowGen E ty wd g n (k + 1) xs (w2.setCells g (k * wd) vs) := by
  obtain ⟨f, hr, hf⟩ := h
  refine ⟨_, rowIs_setCells vs (k * wd) w2 f hr, fun j y hj hy => ?_⟩
  by_cases e : j = k
  · subst e
    obtain rfl : x = y := by
      rw [hx] at hy
      exact Option.some.inj hy
    have hfe : (fun i => if i < wd then (if j * wd ≤ j * wd + i ∧ j * wd + i < j * wd + vs.length then vs.getD (j * wd + i - j * wd) undef else f (j * wd + i)) else undef) = fun i => vs.getD i undef := by
      funext i
      by_cases hi : i < wd
      · rw [if_pos hi, if_pos (by omega), Nat.add_sub_cancel_left]
      · rw [if_neg hi, List.getD_eq_getElem?_getD, List.getElem?_eq_none (by omega)]
        rfl
    rw [hfe]
    exact hE (KeptFrom.setCells (by omega) vs _ _) hel
  · have hjk : (j + 1) * wd ≤ k * wd := Nat.mul_le_mul_right wd (by omega)
    rw [Nat.add_mul, Nat.one_mul] at hjk
    have hfe : (fun i => if i < wd then (if k * wd ≤ j * wd + i ∧ j * wd + i < k * wd + vs.length then vs.getD (j * wd + i - k * wd) undef else f (j * wd + i)) else undef) = fun i => if i < wd then f (j * wd + i) else undef := by
      funext i
      by_cases hi : i < wd
      · rw [if_pos hi, if_pos hi, if_neg (by omega)]
      · rw [if_neg hi, if_neg hi]
    rw [hfe]
    exact hE (KeptFrom.setCells (by omega) vs _ _) (hf j y (by omega) hy)
end

/-- Cells of a block, stored one behind the other. -/
theorem sets_in (w : World) (b : Nat) (vs : List Value) (h : ∀ j, j < vs.length → (w.cell? ⟨b, j, none⟩).isSome = true) : ∀ j (hj : j < vs.length), (w.setCells b 0 vs).cell? ⟨b, j, none⟩ = some vs[j] := fun j hj => by
  have k := World.cell?_setCells_in b vs 0 w (fun j hj => by rw [Nat.zero_add]; exact h j hj) j hj
  rw [Nat.zero_add] at k
  exact k

/-- make, elements of several cells. -/
theorem make_row (W : World) (st et : TypeId) (wd : Nat) (zs : Array Value) (hu : Tryz.prog.underlying st = some (.slice et)) (hinfo : (Tryz.prog.info? et).map (fun i => (i.zero, i.size, decide (i.bytes ≤ 4096))) = some (some (.agg zs), wd, true)) (n : Nat) (hn : n ≤ 1048576) :
    (Instr.makeSlice st (.int .i64 (n : Int)) (.int .i64 (n : Int))).run Tryz.prog W = .ok (.slice (some ⟨W.heap.size, 0, none⟩) n n) (W.alloc (.cells (madeCells zs (n * wd)) et)) := by
  obtain ⟨i0, hi0, hzz⟩ := Option.map_eq_some_iff.1 hinfo
  simp only [Prod.mk.injEq, decide_eq_true_eq] at hzz
  obtain ⟨hz0, hz1, hz2⟩ := hzz
  have hb : (i0.bytes : Int) * (n : Int) ≤ 281474976710656 := by
    have : i0.bytes * n ≤ 4096 * 1048576 := Nat.mul_le_mul hz2 hn
    have h2 : ((i0.bytes * n : Nat) : Int) ≤ ((4096 * 1048576 : Nat) : Int) := Int.ofNat_le.2 this
    rw [Int.natCast_mul] at h2
    omega
  rw [run_make W st et i0 _ hu hi0 hz0 .i64 .i64 (n : Int) (n : Int) (by omega) (by omega) hb (by omega), hz1]
  simp [Value.cells]
end Go.Proofs.YtbjcldekapipaaaGreatDoor
