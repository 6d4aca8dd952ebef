/-
  Lists of strings: how long they are together; that they lie in memory, and stay there. No condition.
-/
import Derived.Test.YtbjcldekapipaaaGreatDoorBase
import Derived.Deep.Slices
import Derived.Deep.Strs
namespace Go.Proofs.YtbjcldekapipaaaGreatDoor
open Go.ChangeShapes Go.WideShapes Go.ChangeAt Go.RowKit

/-- What a measuring function gives: what is left, or -1. -/
def leftOr (n : Int) : Int := if n < 0 then -1 else n
theorem leftOr_neg {n : Int} (h : n < 0) : leftOr n = -1 := if_pos h
theorem leftOr_pos {n : Int} (h : 0 ≤ n) : leftOr n = n := if_neg (by omega)

/-- The chain of worlds, one step on. -/
theorem bnext {W a b : World} (h : Below W.heap.size W a) (k : Below a.heap.size a b) : Below W.heap.size W b := bchain h k h.size

/-- The strings' lengths together. -/
def sumSz : List ByteArray → Int
  | [] => 0
  | s :: ss => s.size + sumSz ss
theorem sumSz_append : ∀ xs ys : List ByteArray, sumSz (xs ++ ys) = sumSz xs + sumSz ys
  | [], ys => by simp [sumSz]
  | x :: xs, ys => by
    simp only [List.cons_append, sumSz, sumSz_append xs ys]
    omega
theorem sumSz_nonneg : ∀ xs : List ByteArray, 0 ≤ sumSz xs
  | [] => by simp [sumSz]
  | x :: xs => by
    have := sumSz_nonneg xs
    simp only [sumSz]
    omega
theorem sumSz_take {ls : List ByteArray} {k : Nat} {s : ByteArray} (h : ls[k]? = some s) : sumSz (ls.take (k + 1)) = sumSz (ls.take k) + s.size := by
  obtain ⟨hk, rfl⟩ := List.getElem?_eq_some_iff.1 h
  rw [List.take_succ_eq_append_getElem hk, sumSz_append]
  simp [sumSz]
theorem sumSz_take_le (ls : List ByteArray) (k : Nat) : sumSz (ls.take k) ≤ sumSz ls := by
  have h := sumSz_append (ls.take k) (ls.drop k)
  rw [List.take_append_drop] at h
  have := sumSz_nonneg (ls.drop k)
  omega
theorem sumSz_mem {ls : List ByteArray} {k : Nat} {s : ByteArray} (h : ls[k]? = some s) : (s.size : Int) ≤ sumSz ls := by
  have h1 := sumSz_take h
  have h2 := sumSz_take_le ls (k + 1)
  have h3 := sumSz_nonneg (ls.take k)
  omega

/-- A plain block of cells. -/
def Blk (w : World) (g : Nat) : Prop := ∃ (c : Array Value) (t : TypeId), w.heap[g]? = some (.cells c t (0, 0))
theorem Blk.free {w : World} {g : Nat} (h : Blk w g) (i : Nat) : w.frozen? ⟨g, i, none⟩ = false := by
  obtain ⟨c, t, hc⟩ := h
  simp [World.frozen?, hc]
theorem Blk.lt {w : World} {g : Nat} (h : Blk w g) : g < w.heap.size := by
  obtain ⟨c, t, hc⟩ := h
  exact (Array.getElem?_eq_some_iff.1 hc).1
theorem Blk.same {w w' : World} {g : Nat} (h : Blk w g) (e : w'.heap[g]? = w.heap[g]?) : Blk w' g := by
  obtain ⟨c, t, hc⟩ := h
  exact ⟨c, t, e.trans hc⟩
theorem Blk.below {w w' : World} {g : Nat} (h : Blk w g) (hb : Below w.heap.size w w') : Blk w' g := h.same (hb.block g h.lt)
theorem Blk.set {w : World} {g : Nat} (h : Blk w g) (p : Addr) (v : Value) : Blk (w.setCell p v) g := by
  obtain ⟨c, t, hc⟩ := h
  by_cases e : p.block = g
  · exact ⟨if p.spot.isSome then c else c.setIfInBounds p.off v, t, by simp [World.setCell, Array.getElem?_modify, e, hc]⟩
  · exact ⟨c, t, by simp [World.setCell, Array.getElem?_modify, e, hc]⟩
theorem Blk.setCell {w : World} {g : Nat} (h : Blk w g) (b i : Nat) (v : Value) : Blk (w.setCell ⟨b, i, none⟩ v) g := h.set _ v

/-- All cells from block lo on that were there are there still; plain blocks stay plain. -/
structure KeptFrom (lo : Nat) (w w' : World) : Prop where
  get : ∀ (a : Addr) (v : Value), lo ≤ a.block → w.cell? a = some v → w'.cell? a = some v
  blk : ∀ b, Blk w b → Blk w' b
instance {lo : Nat} {w w' : World} : CoeFun (KeptFrom lo w w') (fun _ => ∀ (a : Addr) (v : Value), lo ≤ a.block → w.cell? a = some v → w'.cell? a = some v) := ⟨fun h => h.get⟩
theorem KeptFrom.below {w w' : World} (h : Below w.heap.size w w') (lo : Nat) : KeptFrom lo w w' := ⟨fun _ _ _ hc => keepCell h hc, fun _ hb => hb.below h⟩
theorem KeptFrom.setCell {w : World} {lo : Nat} {p : Addr} (hp : p.block < lo) (v : Value) : KeptFrom lo w (w.setCell p v) := ⟨fun a u ha hc => by
  rw [World.cell?_setCell_other w p a v (fun e => by subst e; omega)]
  exact hc, fun g hb => hb.set p v⟩
theorem KeptFrom.trans {lo : Nat} {a b c : World} (h : KeptFrom lo a b) (k : KeptFrom lo b c) : KeptFrom lo a c := ⟨fun x v hx hc => k.get x v hx (h.get x v hx hc), fun x hx => k.blk x (h.blk x hx)⟩

/-- A slice value's strings lie in memory, no block of them below lo. -/
def Strs (w : World) (lo : Nat) (ls : List ByteArray) (A : Option Addr) : Prop :=
  0 < ls.length → ∃ b o : Nat, A = some ⟨b, o, none⟩ ∧ lo ≤ b ∧ ∀ (i : Nat) (s : ByteArray), ls[i]? = some s → w.cell? ⟨b, o + i, none⟩ = some (.string s)
theorem Strs.keep {w w' : World} {lo : Nat} {ls : List ByteArray} {A : Option Addr} (h : Strs w lo ls A) (hk : KeptFrom lo w w') : Strs w' lo ls A := fun hp => by
  obtain ⟨b, o, ha, hlo, hc⟩ := h hp
  exact ⟨b, o, ha, hlo, fun i s hs => hk _ _ hlo (hc i s hs)⟩
theorem Strs.low {w : World} {lo lo' : Nat} {ls : List ByteArray} {A : Option Addr} (h : Strs w lo ls A) (hl : lo' ≤ lo) : Strs w lo' ls A := fun hp => by
  obtain ⟨b, o, ha, hlo, hc⟩ := h hp
  exact ⟨b, o, ha, by omega, hc⟩
theorem Strs.below {w w' : World} {lo : Nat} {ls : List ByteArray} {A : Option Addr} (h : Strs w lo ls A) (hb : Below w.heap.size w w') : Strs w' lo ls A := h.keep (KeptFrom.below hb lo)
theorem Strs.at_ {w : World} {lo : Nat} {ls : List ByteArray} {A : Option Addr} (h : Strs w lo ls A) {k : Nat} (hk : k < ls.length) :
    ∃ (b o : Nat) (s : ByteArray), A = some ⟨b, o, none⟩ ∧ lo ≤ b ∧ ls[k]? = some s ∧ w.cell? ⟨b, o + k, none⟩ = some (.string s) := by
  obtain ⟨b, o, ha, hlo, hc⟩ := h (by omega)
  exact ⟨b, o, ls[k], ha, hlo, List.getElem?_eq_getElem hk, hc k _ (List.getElem?_eq_getElem hk)⟩
end Go.Proofs.YtbjcldekapipaaaGreatDoor
