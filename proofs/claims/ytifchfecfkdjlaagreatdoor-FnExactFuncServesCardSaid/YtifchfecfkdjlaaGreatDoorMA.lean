/-
  NumR, StrsP, Ty, TyPure, StrsW: in one text.
-/
import Derived.Test.YtifchfecfkdjlaaGreatDoorBase
import Derived.Lib.LaidTab
import Derived.OpenShut
import Derived.ChangeSame
import Derived.Deep.Slices
import Derived.Deep.Strs
import Derived.Deep.LoopGhost
import Derived.Deep.OwnRows
import Derived.Laws.MakeOwn
namespace Go.Proofs.YtifchfecfkdjlaaGreatDoor
open Go.ChangeShapes Go.WideShapes Go.ChangeAt Go.RowKit

/-- The ranges, at the numbers of their kinds. -/
def ranges : List (Int × Int) := [(0, 0), (0, 0), (0, 0), (0, 255), (-128, 127), (0, 65535), (-32768, 32767), (0, 4294967295), (-2147483648, 2147483647), (-9223372036854775808, 9223372036854775807)]
/-- What the row's list gives: the table's cells hold the ranges. -/
def RTable (w : World) : Prop := ∀ i a b, ranges[i]? = some (a, b) → w.cell? ⟨0, 2 * i, none⟩ = some (.int .i64 a) ∧ w.cell? ⟨0, 2 * i + 1, none⟩ = some (.int .i64 b)

theorem RTable.keep {w w' : World} (h : RTable w) (hb : Below w.heap.size w w') : RTable w' := fun i a b hi => ⟨keepCell hb (h i a b hi).1, keepCell hb (h i a b hi).2⟩

theorem gNR : Tryz.prog.globalNamed "loop.example/g00901/impl.numRanges" = some 0 := by kernel_rfl
theorem gNRType : (Tryz.prog.globals[0]?).map (·.type) = some 98 := by kernel_rfl
theorem cellsNR : Tryz.prog.cellsOf 97 = 2 := by kernel_rfl
theorem cellsI64 : Tryz.prog.cellsOf 2 = 1 := by kernel_rfl
theorem nrData : (Rows.laid_loop_example_g00901_impl_numRanges : DataW Unit) = .agg (ranges.map fun x => .agg [.lit (.int .i64 x.1), .lit (.int .i64 x.2)]) := by kernel_rfl

theorem ownDrewN {B : Nat} {a w : World} (h : Below B a w) (n : Nat) : Below B a (w.drewN n) := ⟨h.os, h.tape, h.output, h.size, h.block⟩

/-- What both NumRange answer. -/
def nrV (k : Int) : Int × Int × Bool := if 3 ≤ k ∧ k ≤ 9 then ((ranges.getD k.toNat (0, 0)).1, (ranges.getD k.toNat (0, 0)).2, true) else (0, 0, false)

theorem implNR_out (k : Int) (h : k < 3 ∨ 9 < k) (w : World) :
    Calls Tryz.prog 50 #[.int .i64 k] w fun e w' => e = .returned (.tuple #[.int .i64 0, .int .i64 0, .bool false]) ∧ Below w.heap.size w w' := by
  by_cases h1 : k < 3
  · go_enter Tryz.func50, Tryz.ntmps50
    go_wp2
    go_ret3
    exact ⟨rfl, Below.refl _ _⟩
  · have h2 : 9 < k := by omega
    clear h
    go_enter Tryz.func50, Tryz.ntmps50
    go_wp2
    go_ret3
    exact ⟨rfl, Below.refl _ _⟩
theorem specNR_out (k : Int) (h : k < 3 ∨ 9 < k) (w : World) :
    Calls Tryz.prog 66 #[.int .i64 k] w fun e w' => e = .returned (.tuple #[.int .i64 0, .int .i64 0, .bool false]) ∧ Below w.heap.size w w' := by
  have h3 : (k == 3) = false := by rw [beq_eq_false_iff_ne]; omega
  have h4 : (k == 4) = false := by rw [beq_eq_false_iff_ne]; omega
  have h5 : (k == 5) = false := by rw [beq_eq_false_iff_ne]; omega
  have h6 : (k == 6) = false := by rw [beq_eq_false_iff_ne]; omega
  have h7 : (k == 7) = false := by rw [beq_eq_false_iff_ne]; omega
  have h8 : (k == 8) = false := by rw [beq_eq_false_iff_ne]; omega
  have h9 : (k == 9) = false := by rw [beq_eq_false_iff_ne]; omega
  clear h
  go_enter Tryz.func66, Tryz.ntmps66
  go_wp2
  go_ret3
  exact ⟨rfl, Below.refl _ _⟩

theorem implNR_3 (w : World) (h0 : w.cell? ⟨0, 6, none⟩ = some (.int .i64 0)) (h1 : w.cell? ⟨0, 7, none⟩ = some (.int .i64 255)) :
    Calls Tryz.prog 50 #[.int .i64 3] w fun e w' => e = .returned (.tuple #[.int .i64 0, .int .i64 255, .bool true]) ∧ Below w.heap.size w w' := by
  go_enter Tryz.func50, Tryz.ntmps50
  go_wp2_with fail
  go_quiet (fail)
  go_wp2_with fail
  go_ret3
  exact ⟨rfl, ownDrewN (below1 _ _) _⟩
theorem specNR_3 (w : World) :
    Calls Tryz.prog 66 #[.int .i64 3] w fun e w' => e = .returned (.tuple #[.int .i64 0, .int .i64 255, .bool true]) ∧ Below w.heap.size w w' := by
  go_enter Tryz.func66, Tryz.ntmps66
  go_wp2
  go_ret3
  exact ⟨rfl, Below.refl _ _⟩

theorem implNR_4 (w : World) (h0 : w.cell? ⟨0, 8, none⟩ = some (.int .i64 (-128))) (h1 : w.cell? ⟨0, 9, none⟩ = some (.int .i64 127)) :
    Calls Tryz.prog 50 #[.int .i64 4] w fun e w' => e = .returned (.tuple #[.int .i64 (-128), .int .i64 127, .bool true]) ∧ Below w.heap.size w w' := by
  go_enter Tryz.func50, Tryz.ntmps50
  go_wp2_with fail
  go_quiet (fail)
  go_wp2_with fail
  go_ret3
  exact ⟨rfl, ownDrewN (below1 _ _) _⟩
theorem specNR_4 (w : World) :
    Calls Tryz.prog 66 #[.int .i64 4] w fun e w' => e = .returned (.tuple #[.int .i64 (-128), .int .i64 127, .bool true]) ∧ Below w.heap.size w w' := by
  go_enter Tryz.func66, Tryz.ntmps66
  go_wp2
  go_ret3
  exact ⟨rfl, Below.refl _ _⟩

theorem implNR_5 (w : World) (h0 : w.cell? ⟨0, 10, none⟩ = some (.int .i64 0)) (h1 : w.cell? ⟨0, 11, none⟩ = some (.int .i64 65535)) :
    Calls Tryz.prog 50 #[.int .i64 5] w fun e w' => e = .returned (.tuple #[.int .i64 0, .int .i64 65535, .bool true]) ∧ Below w.heap.size w w' := by
  go_enter Tryz.func50, Tryz.ntmps50
  go_wp2_with fail
  go_quiet (fail)
  go_wp2_with fail
  go_ret3
  exact ⟨rfl, ownDrewN (below1 _ _) _⟩
theorem specNR_5 (w : World) :
    Calls Tryz.prog 66 #[.int .i64 5] w fun e w' => e = .returned (.tuple #[.int .i64 0, .int .i64 65535, .bool true]) ∧ Below w.heap.size w w' := by
  go_enter Tryz.func66, Tryz.ntmps66
  go_wp2
  go_ret3
  exact ⟨rfl, Below.refl _ _⟩

theorem implNR_6 (w : World) (h0 : w.cell? ⟨0, 12, none⟩ = some (.int .i64 (-32768))) (h1 : w.cell? ⟨0, 13, none⟩ = some (.int .i64 32767)) :
    Calls Tryz.prog 50 #[.int .i64 6] w fun e w' => e = .returned (.tuple #[.int .i64 (-32768), .int .i64 32767, .bool true]) ∧ Below w.heap.size w w' := by
  go_enter Tryz.func50, Tryz.ntmps50
  go_wp2_with fail
  go_quiet (fail)
  go_wp2_with fail
  go_ret3
  exact ⟨rfl, ownDrewN (below1 _ _) _⟩
theorem specNR_6 (w : World) :
    Calls Tryz.prog 66 #[.int .i64 6] w fun e w' => e = .returned (.tuple #[.int .i64 (-32768), .int .i64 32767, .bool true]) ∧ Below w.heap.size w w' := by
  go_enter Tryz.func66, Tryz.ntmps66
  go_wp2
  go_ret3
  exact ⟨rfl, Below.refl _ _⟩

theorem implNR_7 (w : World) (h0 : w.cell? ⟨0, 14, none⟩ = some (.int .i64 0)) (h1 : w.cell? ⟨0, 15, none⟩ = some (.int .i64 4294967295)) :
    Calls Tryz.prog 50 #[.int .i64 7] w fun e w' => e = .returned (.tuple #[.int .i64 0, .int .i64 4294967295, .bool true]) ∧ Below w.heap.size w w' := by
  go_enter Tryz.func50, Tryz.ntmps50
  go_wp2_with fail
  go_quiet (fail)
  go_wp2_with fail
  go_ret3
  exact ⟨rfl, ownDrewN (below1 _ _) _⟩
theorem specNR_7 (w : World) :
    Calls Tryz.prog 66 #[.int .i64 7] w fun e w' => e = .returned (.tuple #[.int .i64 0, .int .i64 4294967295, .bool true]) ∧ Below w.heap.size w w' := by
  go_enter Tryz.func66, Tryz.ntmps66
  go_wp2
  go_ret3
  exact ⟨rfl, Below.refl _ _⟩

theorem implNR_8 (w : World) (h0 : w.cell? ⟨0, 16, none⟩ = some (.int .i64 (-2147483648))) (h1 : w.cell? ⟨0, 17, none⟩ = some (.int .i64 2147483647)) :
    Calls Tryz.prog 50 #[.int .i64 8] w fun e w' => e = .returned (.tuple #[.int .i64 (-2147483648), .int .i64 2147483647, .bool true]) ∧ Below w.heap.size w w' := by
  go_enter Tryz.func50, Tryz.ntmps50
  go_wp2_with fail
  go_quiet (fail)
  go_wp2_with fail
  go_ret3
  exact ⟨rfl, ownDrewN (below1 _ _) _⟩
theorem specNR_8 (w : World) :
    Calls Tryz.prog 66 #[.int .i64 8] w fun e w' => e = .returned (.tuple #[.int .i64 (-2147483648), .int .i64 2147483647, .bool true]) ∧ Below w.heap.size w w' := by
  go_enter Tryz.func66, Tryz.ntmps66
  go_wp2
  go_ret3
  exact ⟨rfl, Below.refl _ _⟩

theorem implNR_9 (w : World) (h0 : w.cell? ⟨0, 18, none⟩ = some (.int .i64 (-9223372036854775808))) (h1 : w.cell? ⟨0, 19, none⟩ = some (.int .i64 9223372036854775807)) :
    Calls Tryz.prog 50 #[.int .i64 9] w fun e w' => e = .returned (.tuple #[.int .i64 (-9223372036854775808), .int .i64 9223372036854775807, .bool true]) ∧ Below w.heap.size w w' := by
  go_enter Tryz.func50, Tryz.ntmps50
  go_wp2_with fail
  go_quiet (fail)
  go_wp2_with fail
  go_ret3
  exact ⟨rfl, ownDrewN (below1 _ _) _⟩
theorem specNR_9 (w : World) :
    Calls Tryz.prog 66 #[.int .i64 9] w fun e w' => e = .returned (.tuple #[.int .i64 (-9223372036854775808), .int .i64 9223372036854775807, .bool true]) ∧ Below w.heap.size w w' := by
  go_enter Tryz.func66, Tryz.ntmps66
  go_wp2
  go_ret3
  exact ⟨rfl, Below.refl _ _⟩

end Go.Proofs.YtifchfecfkdjlaaGreatDoor

namespace Go.Proofs.YtifchfecfkdjlaaGreatDoor
open Go.ChangeShapes Go.WideShapes Go.ChangeAt Go.RowKit

/-- What a measuring function gives: what is left, or -1. -/
def leftOr (n : Int) : Int := if n < 0 then -1 else n
theorem leftOr_neg {n : Int} (h : n < 0) : leftOr n = -1 := if_pos h
theorem leftOr_pos {n : Int} (h : 0 ≤ n) : leftOr n = n := if_neg (by omega)

/-- The chain of worlds, one step on. -/
theorem bnext {W a b : World} (h : Below W.heap.size W a) (k : Below a.heap.size a b) : Below W.heap.size W b := bchain h k h.size

/-- The strings' lengths together. -/
def sumSz : List ByteArray → Int
  | [] => 0
  | s :: ss => s.size + sumSz ss
theorem sumSz_append : ∀ xs ys : List ByteArray, sumSz (xs ++ ys) = sumSz xs + sumSz ys
  | [], ys => by simp [sumSz]
  | x :: xs, ys => by
    simp only [List.cons_append, sumSz, sumSz_append xs ys]
    omega
theorem sumSz_nonneg : ∀ xs : List ByteArray, 0 ≤ sumSz xs
  | [] => by simp [sumSz]
  | x :: xs => by
    have := sumSz_nonneg xs
    simp only [sumSz]
    omega
theorem sumSz_take {ls : List ByteArray} {k : Nat} {s : ByteArray} (h : ls[k]? = some s) : sumSz (ls.take (k + 1)) = sumSz (ls.take k) + s.size := by
  obtain ⟨hk, rfl⟩ := List.getElem?_eq_some_iff.1 h
  rw [List.take_succ_eq_append_getElem hk, sumSz_append]
  simp [sumSz]
theorem sumSz_take_le (ls : List ByteArray) (k : Nat) : sumSz (ls.take k) ≤ sumSz ls := by
  have h := sumSz_append (ls.take k) (ls.drop k)
  rw [List.take_append_drop] at h
  have := sumSz_nonneg (ls.drop k)
  omega
theorem sumSz_mem {ls : List ByteArray} {k : Nat} {s : ByteArray} (h : ls[k]? = some s) : (s.size : Int) ≤ sumSz ls := by
  have h1 := sumSz_take h
  have h2 := sumSz_take_le ls (k + 1)
  have h3 := sumSz_nonneg (ls.take k)
  omega

/-- A plain block of cells. -/
def Blk (w : World) (g : Nat) : Prop := ∃ (c : Array Value) (t : TypeId), w.heap[g]? = some (.cells c t (0, 0))
theorem Blk.free {w : World} {g : Nat} (h : Blk w g) (i : Nat) : w.frozen? ⟨g, i, none⟩ = false := by
  obtain ⟨c, t, hc⟩ := h
  simp [World.frozen?, hc]
theorem Blk.lt {w : World} {g : Nat} (h : Blk w g) : g < w.heap.size := by
  obtain ⟨c, t, hc⟩ := h
  exact (Array.getElem?_eq_some_iff.1 hc).1
theorem Blk.same {w w' : World} {g : Nat} (h : Blk w g) (e : w'.heap[g]? = w.heap[g]?) : Blk w' g := by
  obtain ⟨c, t, hc⟩ := h
  exact ⟨c, t, e.trans hc⟩
theorem Blk.below {w w' : World} {g : Nat} (h : Blk w g) (hb : Below w.heap.size w w') : Blk w' g := h.same (hb.block g h.lt)
theorem Blk.set {w : World} {g : Nat} (h : Blk w g) (p : Addr) (v : Value) : Blk (w.setCell p v) g := by
  obtain ⟨c, t, hc⟩ := h
  by_cases e : p.block = g
  · exact ⟨if p.spot.isSome then c else c.setIfInBounds p.off v, t, by simp [World.setCell, Array.getElem?_modify, e, hc]⟩
  · exact ⟨c, t, by simp [World.setCell, Array.getElem?_modify, e, hc]⟩
theorem Blk.setCell {w : World} {g : Nat} (h : Blk w g) (b i : Nat) (v : Value) : Blk (w.setCell ⟨b, i, none⟩ v) g := h.set _ v

/-- All cells from block lo on that were there are there still; plain blocks stay plain. -/
structure KeptFrom (lo : Nat) (w w' : World) : Prop where
  get : ∀ (a : Addr) (v : Value), lo ≤ a.block → w.cell? a = some v → w'.cell? a = some v
  blk : ∀ b, Blk w b → Blk w' b
instance {lo : Nat} {w w' : World} : CoeFun (KeptFrom lo w w') (fun _ => ∀ (a : Addr) (v : Value), lo ≤ a.block → w.cell? a = some v → w'.cell? a = some v) := ⟨fun h => h.get⟩
theorem KeptFrom.below {w w' : World} (h : Below w.heap.size w w') (lo : Nat) : KeptFrom lo w w' := ⟨fun _ _ _ hc => keepCell h hc, fun _ hb => hb.below h⟩
theorem KeptFrom.setCell {w : World} {lo : Nat} {p : Addr} (hp : p.block < lo) (v : Value) : KeptFrom lo w (w.setCell p v) := ⟨fun a u ha hc => by
  rw [World.cell?_setCell_other w p a v (fun e => by subst e; omega)]
  exact hc, fun g hb => hb.set p v⟩
theorem KeptFrom.trans {lo : Nat} {a b c : World} (h : KeptFrom lo a b) (k : KeptFrom lo b c) : KeptFrom lo a c := ⟨fun x v hx hc => k.get x v hx (h.get x v hx hc), fun x hx => k.blk x (h.blk x hx)⟩

/-- A slice value's strings lie in memory, no block of them below lo. -/
def Strs (w : World) (lo : Nat) (ls : List ByteArray) (A : Option Addr) : Prop :=
  0 < ls.length → ∃ b o : Nat, A = some ⟨b, o, none⟩ ∧ lo ≤ b ∧ ∀ (i : Nat) (s : ByteArray), ls[i]? = some s → w.cell? ⟨b, o + i, none⟩ = some (.string s)
theorem Strs.keep {w w' : World} {lo : Nat} {ls : List ByteArray} {A : Option Addr} (h : Strs w lo ls A) (hk : KeptFrom lo w w') : Strs w' lo ls A := fun hp => by
  obtain ⟨b, o, ha, hlo, hc⟩ := h hp
  exact ⟨b, o, ha, hlo, fun i s hs => hk _ _ hlo (hc i s hs)⟩
theorem Strs.low {w : World} {lo lo' : Nat} {ls : List ByteArray} {A : Option Addr} (h : Strs w lo ls A) (hl : lo' ≤ lo) : Strs w lo' ls A := fun hp => by
  obtain ⟨b, o, ha, hlo, hc⟩ := h hp
  exact ⟨b, o, ha, by omega, hc⟩
theorem Strs.below {w w' : World} {lo : Nat} {ls : List ByteArray} {A : Option Addr} (h : Strs w lo ls A) (hb : Below w.heap.size w w') : Strs w' lo ls A := h.keep (KeptFrom.below hb lo)
theorem Strs.at_ {w : World} {lo : Nat} {ls : List ByteArray} {A : Option Addr} (h : Strs w lo ls A) {k : Nat} (hk : k < ls.length) :
    ∃ (b o : Nat) (s : ByteArray), A = some ⟨b, o, none⟩ ∧ lo ≤ b ∧ ls[k]? = some s ∧ w.cell? ⟨b, o + k, none⟩ = some (.string s) := by
  obtain ⟨b, o, ha, hlo, hc⟩ := h (by omega)
  exact ⟨b, o, ls[k], ha, hlo, List.getElem?_eq_getElem hk, hc k _ (List.getElem?_eq_getElem hk)⟩
end Go.Proofs.YtifchfecfkdjlaaGreatDoor

namespace Go.Proofs.YtifchfecfkdjlaaGreatDoor
open Go.ChangeShapes Go.WideShapes Go.ChangeAt Go.RowKit

/-- A tree. -/
inductive Ty where
  | mk (kind : Int) (name : ByteArray) (labels : List ByteArray) (kids : List Ty)

def Ty.kind : Ty → Int | .mk k _ _ _ => k
def Ty.name : Ty → ByteArray | .mk _ n _ _ => n
def Ty.labels : Ty → List ByteArray | .mk _ _ l _ => l
def Ty.kids : Ty → List Ty | .mk _ _ _ k => k

mutual
def Ty.size : Ty → Nat | .mk _ _ _ ks => 1 + Ty.sizes ks
def Ty.sizes : List Ty → Nat | [] => 0 | t :: ts => t.size + Ty.sizes ts
end

theorem Ty.sizes_get : ∀ (ks : List Ty) (i : Nat) (t : Ty), ks[i]? = some t → t.size ≤ Ty.sizes ks
  | [], i, t, h => by simp at h
  | x :: xs, 0, t, h => by
    simp at h
    subst h
    unfold Ty.sizes
    omega
  | x :: xs, i + 1, t, h => by
    have := Ty.sizes_get xs i t (by simpa using h)
    unfold Ty.sizes
    omega
theorem Ty.size_kid {T t : Ty} {i : Nat} (h : T.kids[i]? = some t) : t.size < T.size := by
  cases T with
  | mk k n l ks =>
    have := Ty.sizes_get ks i t h
    rw [Ty.size]
    omega

/-- To prove it of every tree, prove it of a tree whose kids have it. -/
theorem Ty.kidInd {p : Ty → Prop} (h : ∀ T : Ty, (∀ (i : Nat) (t : Ty), T.kids[i]? = some t → p t) → p T) : ∀ T, p T := by
  have key : ∀ (n : Nat) (T : Ty), T.size ≤ n → p T := by
    intro n
    induction n with
    | zero =>
      intro T hT
      cases T with
      | mk k m l ks =>
        rw [Ty.size] at hT
        omega
    | succ n ih =>
      intro T hT
      exact h T fun i t ht => ih t (by have := Ty.size_kid ht; omega)
  exact fun T => key T.size T (Nat.le_refl _)

mutual
/-- A tree lies in memory: A, B are the addresses of its labels and its kids. -/
def Ty.At (w : World) (lo : Nat) : Ty → Option Addr → Option Addr → Prop
  | .mk _ _ ls ks, A, B => Strs w lo ls A ∧ (0 < ks.length → ∃ b o : Nat, B = some ⟨b, o, none⟩ ∧ lo ≤ b ∧ Ty.Row w lo ks b o)
/-- The kids lie one behind the other, four cells each. -/
def Ty.Row (w : World) (lo : Nat) : List Ty → Nat → Nat → Prop
  | [], _, _ => True
  | t :: ts, b, o => (∃ (A B : Option Addr) (ca cb : Nat), w.cell? ⟨b, o, none⟩ = some (.int .i64 t.kind) ∧ w.cell? ⟨b, o + 1, none⟩ = some (.string t.name) ∧ w.cell? ⟨b, o + 2, none⟩ = some (.slice A t.labels.length ca) ∧
      w.cell? ⟨b, o + 3, none⟩ = some (.slice B t.kids.length cb) ∧ Ty.At w lo t A B) ∧ Ty.Row w lo ts b (o + 4)
end

/-- One kid's cells. -/
structure Ty.Cells (w : World) (lo : Nat) (t : Ty) (b o : Nat) (A B : Option Addr) (ca cb : Nat) : Prop where
  kind : w.cell? ⟨b, o, none⟩ = some (.int .i64 t.kind)
  name : w.cell? ⟨b, o + 1, none⟩ = some (.string t.name)
  labels : w.cell? ⟨b, o + 2, none⟩ = some (.slice A t.labels.length ca)
  kids : w.cell? ⟨b, o + 3, none⟩ = some (.slice B t.kids.length cb)
  tree : Ty.At w lo t A B

theorem Ty.Row.get {w : World} {lo : Nat} : ∀ {ks : List Ty} {b o : Nat}, Ty.Row w lo ks b o → ∀ {i : Nat} {t : Ty}, ks[i]? = some t → ∃ A B ca cb, Ty.Cells w lo t b (o + 4 * i) A B ca cb
  | x :: xs, b, o, h, 0, t, ht => by
    unfold Ty.Row at h
    obtain ⟨⟨A, B, ca, cb, h1, h2, h3, h4, h5⟩, _⟩ := h
    simp at ht
    subst ht
    exact ⟨A, B, ca, cb, h1, h2, h3, h4, h5⟩
  | x :: xs, b, o, h, i + 1, t, ht => by
    unfold Ty.Row at h
    obtain ⟨A, B, ca, cb, hc⟩ := Ty.Row.get h.2 (i := i) (t := t) (by simpa using ht)
    rw [show o + 4 + 4 * i = o + 4 * (i + 1) by omega] at hc
    exact ⟨A, B, ca, cb, hc⟩
theorem Ty.Row.mk {w : World} {lo : Nat} : ∀ {ks : List Ty} {b o : Nat}, (∀ (i : Nat) (t : Ty), ks[i]? = some t → ∃ A B ca cb, Ty.Cells w lo t b (o + 4 * i) A B ca cb) → Ty.Row w lo ks b o
  | [], b, o, _ => by unfold Ty.Row; trivial
  | x :: xs, b, o, h => by
    unfold Ty.Row
    refine ⟨?_, Ty.Row.mk fun i t ht => ?_⟩
    · obtain ⟨A, B, ca, cb, hc⟩ := h 0 x rfl
      exact ⟨A, B, ca, cb, hc.kind, hc.name, hc.labels, hc.kids, hc.tree⟩
    · obtain ⟨A, B, ca, cb, hc⟩ := h (i + 1) t (by simpa using ht)
      rw [show o + 4 + 4 * i = o + 4 * (i + 1) by omega]
      exact ⟨A, B, ca, cb, hc⟩

theorem Ty.At.strs {w : World} {lo : Nat} {T : Ty} {A B : Option Addr} (h : Ty.At w lo T A B) : Strs w lo T.labels A := by
  cases T
  unfold Ty.At at h
  exact h.1
/-- Where the kids lie. -/
theorem Ty.At.row {w : World} {lo : Nat} {T : Ty} {A B : Option Addr} (h : Ty.At w lo T A B) (hp : 0 < T.kids.length) :
    ∃ b o, B = some ⟨b, o, none⟩ ∧ lo ≤ b ∧ ∀ (i : Nat) (t : Ty), T.kids[i]? = some t → ∃ A' B' ca cb, Ty.Cells w lo t b (o + 4 * i) A' B' ca cb := by
  cases T with
  | mk k n l ks =>
    unfold Ty.At at h
    obtain ⟨b, o, hb, hlo, hr⟩ := h.2 hp
    exact ⟨b, o, hb, hlo, fun i t ht => hr.get ht⟩
theorem Ty.At.mk' {w : World} {lo : Nat} {T : Ty} {A B : Option Addr} (h1 : Strs w lo T.labels A) (h2 : 0 < T.kids.length → ∃ b o : Nat, B = some ⟨b, o, none⟩ ∧ lo ≤ b ∧ ∀ (i : Nat) (t : Ty), T.kids[i]? = some t → ∃ A' B' ca cb, Ty.Cells w lo t b (o + 4 * i) A' B' ca cb) : Ty.At w lo T A B := by
  cases T with
  | mk k n l ks =>
    unfold Ty.At
    refine ⟨h1, fun hk => ?_⟩
    obtain ⟨b, o, hb, hlo, h⟩ := h2 hk
    exact ⟨b, o, hb, hlo, Ty.Row.mk h⟩

theorem Ty.At.keep {w w' : World} {lo : Nat} (hk : KeptFrom lo w w') : ∀ {T : Ty} {A B : Option Addr}, Ty.At w lo T A B → Ty.At w' lo T A B := by
  intro T
  induction T using Ty.kidInd with
  | h T ih =>
    intro A B h
    refine Ty.At.mk' (h.strs.keep hk) fun hp => ?_
    obtain ⟨b, o, hb, hlo, hr⟩ := h.row hp
    refine ⟨b, o, hb, hlo, fun i t ht => ?_⟩
    obtain ⟨A', B', ca, cb, hc⟩ := hr i t ht
    exact ⟨A', B', ca, cb, hk _ _ hlo hc.kind, hk _ _ hlo hc.name, hk _ _ hlo hc.labels, hk _ _ hlo hc.kids, ih i t ht hc.tree⟩
theorem Ty.At.low {w : World} {lo lo' : Nat} (hl : lo' ≤ lo) : ∀ {T : Ty} {A B : Option Addr}, Ty.At w lo T A B → Ty.At w lo' T A B := by
  intro T
  induction T using Ty.kidInd with
  | h T ih =>
    intro A B h
    refine Ty.At.mk' (h.strs.low hl) fun hp => ?_
    obtain ⟨b, o, hb, hlo, hr⟩ := h.row hp
    refine ⟨b, o, hb, by omega, fun i t ht => ?_⟩
    obtain ⟨A', B', ca, cb, hc⟩ := hr i t ht
    exact ⟨A', B', ca, cb, hc.kind, hc.name, hc.labels, hc.kids, ih i t ht hc.tree⟩
theorem Ty.Cells.keep {w w' : World} {lo : Nat} {t : Ty} {b o : Nat} {A B : Option Addr} {ca cb : Nat} (h : Ty.Cells w lo t b o A B ca cb) (hk : KeptFrom lo w w') (hlo : lo ≤ b) : Ty.Cells w' lo t b o A B ca cb :=
  ⟨hk _ _ hlo h.kind, hk _ _ hlo h.name, hk _ _ hlo h.labels, hk _ _ hlo h.kids, h.tree.keep hk⟩

theorem Ty.At.below {w w' : World} {lo : Nat} {T : Ty} {A B : Option Addr} (h : Ty.At w lo T A B) (hb : Below w.heap.size w w') : Ty.At w' lo T A B := h.keep (KeptFrom.below hb lo)
/-- Every string and every length of a tree is one that a machine holds. -/
def Ty.fin (T : Ty) : Prop := T.name.size ≤ maxLen ∧ T.labels.length ≤ maxLen ∧ T.kids.length ≤ maxLen ∧ (∀ s ∈ T.labels, s.size ≤ maxLen) ∧ T.kind ≤ 9223372036854775807 ∧ -9223372036854775808 ≤ T.kind
mutual
def Ty.Fin : Ty → Prop | .mk k n l ks => (Ty.mk k n l ks).fin ∧ Ty.Fins ks
def Ty.Fins : List Ty → Prop | [] => True | t :: ts => t.Fin ∧ Ty.Fins ts
end
theorem Ty.Fins.get : ∀ {ks : List Ty}, Ty.Fins ks → ∀ {i : Nat} {t : Ty}, ks[i]? = some t → t.Fin
  | x :: xs, h, 0, t, ht => by
    unfold Ty.Fins at h
    simp at ht
    subst ht
    exact h.1
  | x :: xs, h, i + 1, t, ht => by
    unfold Ty.Fins at h
    exact Ty.Fins.get h.2 (i := i) (by simpa using ht)
theorem Ty.Fins.mk : ∀ {ks : List Ty}, (∀ (i : Nat) (t : Ty), ks[i]? = some t → t.Fin) → Ty.Fins ks
  | [], _ => by unfold Ty.Fins; trivial
  | x :: xs, h => by
    unfold Ty.Fins
    exact ⟨h 0 x rfl, Ty.Fins.mk fun i t ht => h (i + 1) t (by simpa using ht)⟩
theorem Ty.Fin.own {T : Ty} (h : T.Fin) : T.fin := by
  cases T
  unfold Ty.Fin at h
  exact h.1
theorem Ty.Fin.kid {T : Ty} (h : T.Fin) {i : Nat} {t : Ty} (ht : T.kids[i]? = some t) : t.Fin := by
  cases T
  unfold Ty.Fin at h
  exact h.2.get ht
theorem Ty.Fin.mk' {T : Ty} (h : T.fin) (hk : ∀ (i : Nat) (t : Ty), T.kids[i]? = some t → t.Fin) : T.Fin := by
  cases T
  unfold Ty.Fin
  exact ⟨h, Ty.Fins.mk hk⟩

end Go.Proofs.YtifchfecfkdjlaaGreatDoor

namespace Go.Proofs.YtifchfecfkdjlaaGreatDoor
open Go.ChangeShapes Go.WideShapes Go.ChangeAt Go.RowKit

mutual
def Ty.depth : Ty → Nat | .mk _ _ _ ks => 1 + Ty.depths ks
def Ty.depths : List Ty → Nat | [] => 0 | t :: ts => max t.depth (Ty.depths ts)
end
theorem Ty.size_eq (T : Ty) : T.size = 1 + Ty.sizes T.kids := by
  cases T
  rw [Ty.size]
  rfl
theorem Ty.depth_eq (T : Ty) : T.depth = 1 + Ty.depths T.kids := by
  cases T
  rw [Ty.depth]
  rfl
theorem Ty.sizes_append : ∀ xs ys : List Ty, Ty.sizes (xs ++ ys) = Ty.sizes xs + Ty.sizes ys
  | [], ys => by simp [Ty.sizes]
  | x :: xs, ys => by simp [Ty.sizes, Ty.sizes_append xs ys, Nat.add_assoc]
theorem Ty.depths_append : ∀ xs ys : List Ty, Ty.depths (xs ++ ys) = max (Ty.depths xs) (Ty.depths ys)
  | [], ys => by simp [Ty.depths]
  | x :: xs, ys => by simp [Ty.depths, Ty.depths_append xs ys, Nat.max_assoc]
theorem Ty.take_succ {ks : List Ty} {i : Nat} {t : Ty} (h : ks[i]? = some t) : ks.take (i + 1) = ks.take i ++ [t] := by
  obtain ⟨hi, rfl⟩ := List.getElem?_eq_some_iff.1 h
  rw [List.take_succ_eq_append_getElem hi]
theorem Ty.sizes_take {ks : List Ty} {i : Nat} {t : Ty} (h : ks[i]? = some t) : Ty.sizes (ks.take (i + 1)) = Ty.sizes (ks.take i) + t.size := by
  rw [Ty.take_succ h, Ty.sizes_append]
  simp [Ty.sizes]
theorem Ty.depths_take {ks : List Ty} {i : Nat} {t : Ty} (h : ks[i]? = some t) : Ty.depths (ks.take (i + 1)) = max (Ty.depths (ks.take i)) t.depth := by
  rw [Ty.take_succ h, Ty.depths_append]
  simp [Ty.depths]
theorem Ty.sizes_take_le (ks : List Ty) (i : Nat) : Ty.sizes (ks.take i) ≤ Ty.sizes ks := by
  have := Ty.sizes_append (ks.take i) (ks.drop i)
  rw [List.take_append_drop] at this
  omega
theorem Ty.depths_take_le (ks : List Ty) (i : Nat) : Ty.depths (ks.take i) ≤ Ty.depths ks := by
  have := Ty.depths_append (ks.take i) (ks.drop i)
  rw [List.take_append_drop] at this
  omega
theorem Ty.size_pos (T : Ty) : 1 ≤ T.size := by
  rw [Ty.size_eq]
  omega
theorem Ty.depth_pos (T : Ty) : 1 ≤ T.depth := by
  rw [Ty.depth_eq]
  omega
theorem Ty.length_le : ∀ ks : List Ty, ks.length ≤ Ty.sizes ks
  | [] => by simp
  | x :: xs => by
    have := Ty.length_le xs
    have := x.size_pos
    simp [Ty.sizes]
    omega
theorem Ty.depths_get : ∀ {ks : List Ty} {i : Nat} {t : Ty}, ks[i]? = some t → t.depth ≤ Ty.depths ks
  | x :: xs, 0, t, h => by
    simp at h
    subst h
    simp [Ty.depths]
    omega
  | x :: xs, i + 1, t, h => by
    have := Ty.depths_get (ks := xs) (i := i) (t := t) (by simpa using h)
    simp [Ty.depths]
    omega

/-- The tree is small enough, its root being at that level. -/
def Ty.fits (T : Ty) (d : Nat) : Prop := d + T.depth ≤ 5 ∧ T.size ≤ 24
instance (T : Ty) (d : Nat) : Decidable (T.fits d) := inferInstanceAs (Decidable (_ ∧ _))
theorem Ty.fits_kid {T t : Ty} {d i : Nat} (h : T.fits d) (ht : T.kids[i]? = some t) : t.fits (d + 1) := by
  have h1 := Ty.depths_get ht
  have h2 := Ty.sizes_get _ _ _ ht
  have h3 := T.depth_eq
  have h4 := T.size_eq
  unfold Ty.fits at *
  omega
/-- The kids fit, as far as they were looked at, and there are no more: the tree fits. -/
theorem Ty.fits_of {T : Ty} {d : Nat} (hd : d ≤ 4) (hk : T.kids = [] ∨ d + 1 + Ty.depths T.kids ≤ 5) (hs : 1 + Ty.sizes T.kids ≤ 24) : T.fits d := by
  have h3 := T.depth_eq
  have h4 := T.size_eq
  unfold Ty.fits
  rcases hk with hk | hk
  · rw [hk] at h3
    simp [Ty.depths] at h3
    omega
  · omega

mutual
/-- Some part's kind is one of these. -/
def Ty.has (p : Int → Bool) : Ty → Bool | .mk k _ _ ks => p k || Ty.hass p ks
def Ty.hass (p : Int → Bool) : List Ty → Bool | [] => false | t :: ts => t.has p || Ty.hass p ts
end
theorem Ty.has_eq (p : Int → Bool) (T : Ty) : T.has p = (p T.kind || Ty.hass p T.kids) := by
  cases T
  rw [Ty.has]
  rfl
theorem Ty.hass_append (p : Int → Bool) : ∀ xs ys : List Ty, Ty.hass p (xs ++ ys) = (Ty.hass p xs || Ty.hass p ys)
  | [], ys => by simp [Ty.hass]
  | x :: xs, ys => by simp [Ty.hass, Ty.hass_append p xs ys, Bool.or_assoc]
theorem Ty.hass_take {p : Int → Bool} {ks : List Ty} {i : Nat} {t : Ty} (h : ks[i]? = some t) : Ty.hass p (ks.take (i + 1)) = (Ty.hass p (ks.take i) || t.has p) := by
  rw [Ty.take_succ h, Ty.hass_append]
  simp [Ty.hass]
theorem Ty.hass_of_take {p : Int → Bool} {ks : List Ty} {i : Nat} (h : Ty.hass p (ks.take i) = true) : Ty.hass p ks = true := by
  have := Ty.hass_append p (ks.take i) (ks.drop i)
  rw [List.take_append_drop, h] at this
  simpa using this

mutual
/-- The parts, from left to right. -/
def Ty.parts : Ty → List Ty | .mk k n l ks => .mk k n l ks :: Ty.partss ks
def Ty.partss : List Ty → List Ty | [] => [] | t :: ts => t.parts ++ Ty.partss ts
end
theorem Ty.parts_eq (T : Ty) : T.parts = T :: Ty.partss T.kids := by
  cases T
  rw [Ty.parts]
  rfl
theorem Ty.partss_append : ∀ xs ys : List Ty, Ty.partss (xs ++ ys) = Ty.partss xs ++ Ty.partss ys
  | [], ys => by simp [Ty.partss]
  | x :: xs, ys => by simp [Ty.partss, Ty.partss_append xs ys, List.append_assoc]
theorem Ty.partss_take {ks : List Ty} {i : Nat} {t : Ty} (h : ks[i]? = some t) : Ty.partss (ks.take (i + 1)) = Ty.partss (ks.take i) ++ t.parts := by
  rw [Ty.take_succ h, Ty.partss_append]
  simp [Ty.partss]
theorem Ty.partss_length_of {ks : List Ty} (h : ∀ (i : Nat) (t : Ty), ks[i]? = some t → t.parts.length = t.size) : (Ty.partss ks).length = Ty.sizes ks := by
  induction ks with
  | nil => rfl
  | cons x xs ih =>
    simp only [Ty.partss, Ty.sizes, List.length_append]
    rw [h 0 x rfl, ih fun i t ht => h (i + 1) t (by simpa using ht)]
theorem Ty.parts_length : ∀ T : Ty, T.parts.length = T.size := by
  intro T
  induction T using Ty.kidInd with
  | h T ih =>
    rw [Ty.parts_eq, Ty.size_eq, List.length_cons, Ty.partss_length_of ih]
    omega
theorem Ty.partss_length (ks : List Ty) : (Ty.partss ks).length = Ty.sizes ks := Ty.partss_length_of fun _ t _ => t.parts_length
end Go.Proofs.YtifchfecfkdjlaaGreatDoor

namespace Go.Proofs.YtifchfecfkdjlaaGreatDoor
open Go.ChangeShapes Go.WideShapes Go.ChangeAt Go.RowKit

theorem szStringS_any (ls : List ByteArray) (A : Option Addr) (cap : Nat) (left : Int) (h0 : 0 ≤ left) (h1 : left ≤ 1048576) (hl : ls.length ≤ maxLen) (hs : ∀ s ∈ ls, s.size ≤ maxLen) (lo : Nat) (w : World) (h : Strs w lo ls A) :
    Calls Tryz.prog 22 #[.slice A ls.length cap, .int .i64 left] w fun e w' => e = .returned (.int .i64 (leftOr (left - ls.length - sumSz ls))) ∧ w = w' := by
  unfold maxLen at hl hs
  have hsum := sumSz_nonneg ls
  have HS := Lib.hid hs
  have H := Lib.hid h
  clear hs h
  by_cases hn : left - (ls.length : Int) < 0
  · have hr := leftOr_neg (n := left - ls.length - sumSz ls) (by omega)
    rw [hr]
    go_enter Tryz.func22, Tryz.ntmps22
    go_wp2
    go_ret
    exact ⟨rfl, rfl⟩
  · have hn' : (ls.length : Int) ≤ left := by omega
    obtain ⟨R, hR⟩ : ∃ R, leftOr (left - ls.length - sumSz ls) = R := ⟨_, rfl⟩
    rw [hR]
    have HR := Lib.hid hR
    clear hR hn
    go_enter Tryz.func22, Tryz.ntmps22
    go_wp2
    go_loop [1, 5] (fun l i => ∃ k : Nat, k ≤ ls.length ∧ i = .int .i64 k ∧ ∃ L : Int, l = .int .i64 L ∧ 0 ≤ L ∧ L ≤ 1048576 ∧ Hid (L = left - ls.length - sumSz (ls.take k))) (fun _ i => ls.length - (intOf i).toNat)
    case atStart => exact ⟨0, Nat.zero_le _, rfl, _, rfl, by omega, by omega, by simp [Hid, sumSz]⟩
    case round =>
      obtain ⟨k, hk, rfl, L, rfl, L0, L1, hL⟩ := hrel
      by_cases hlt : k < ls.length
      · obtain ⟨b, o, s, rfl, _, hsk, hc⟩ := H.out.at_ hlt
        have hsz := HS.out s (List.mem_of_getElem? hsk)
        have hst := sumSz_take hsk
        have hle := sumSz_take_le ls (k + 1)
        have HST := Lib.hid hst
        clear hst
        by_cases hneg : L - (s.size : Int) < 0
        · go_wp2
          go_ret
          refine ⟨ret_int ?_, rfl⟩
          rw [← HR.out, leftOr_neg]
          have := hL.out
          have := HST.out
          omega
        · have hneg' : (s.size : Int) ≤ L := by omega
          clear hneg
          go_wp2
          go_round
          case rel => exact ⟨k + 1, by omega, by go_num, _, rfl, by omega, by omega, by have := hL.out; have := HST.out; simp only [Hid]; omega⟩
          case measure => simp [intOf]; omega
      · have hk' : k = ls.length := by omega
        go_wp2
        go_ret
        refine ⟨ret_int ?_, rfl⟩
        have e := hL.out
        rw [hk', List.take_length] at e
        rw [← HR.out, leftOr_pos (by omega)]
        exact e

theorem drewN0 (w : World) : w = w.drewN 0 := rfl

theorem eqStringS_same (ls : List ByteArray) (A B : Option Addr) (ca cb : Nat) (hl : ls.length ≤ maxLen) (lo lo' : Nat) (w : World) (h : Strs w lo ls A) (h' : Strs w lo' ls B) :
    Calls Tryz.prog 29 #[.slice A ls.length ca, .slice B ls.length cb] w fun e w' => e = .returned (.bool true) ∧ ∃ n, w' = w.drewN n := by
  unfold maxLen at hl
  have H := Lib.hid h
  have H' := Lib.hid h'
  clear h h'
  go_enter Tryz.func29, Tryz.ntmps29
  go_wp2
  go_loopw [5] (fun i wr => ∃ k : Nat, k ≤ ls.length ∧ i = .int .i64 k ∧ ∃ n, wr = w.drewN n) (fun i _ => ls.length - (intOf i).toNat)
  case atStart => exact ⟨0, Nat.zero_le _, rfl, 0, rfl⟩
  case round =>
    obtain ⟨k, hk, rfl, n, rfl⟩ := hrel
    by_cases hlt : k < ls.length
    · obtain ⟨b, o, s, rfl, _, hsk, hc⟩ := H.out.at_ hlt
      obtain ⟨b', o', s', rfl, _, hsk', hc'⟩ := H'.out.at_ hlt
      obtain rfl : s = s' := by
        rw [hsk] at hsk'
        exact Option.some.inj hsk'
      clear hsk hsk'
      have hli : (k : Int) < (ls.length : Int) := by omega
      go_wp2_with fail
      go_quiet (fail)
      go_wp2_with fail
      go_roundw
      case rel => exact ⟨k + 1, by omega, by go_num, _, rfl⟩
      case measure => simp [intOf]; omega
    · have hk' : k = ls.length := by omega
      go_wp2
      go_ret
      exact ⟨rfl, _, rfl⟩

theorem infoString : (Tryz.prog.info? 9).map (fun i => (i.zero, i.size, i.bytes)) = some (some (.string ⟨#[]⟩), 1, 16) := by kernel_rfl

theorem toStringS_any (ls : List ByteArray) (A : Option Addr) (cap : Nat) (hl : ls.length ≤ 1048576) (lo : Nat) (w : World) (h : Strs w lo ls A) :
    Calls Tryz.prog 26 #[.slice A ls.length cap] w fun e w' => e = .returned (.slice (some ⟨w.heap.size, 0, none⟩) ls.length ls.length) ∧ Strs w' w.heap.size ls (some ⟨w.heap.size, 0, none⟩) ∧ Below w.heap.size w w' := by
  have H := Lib.hid h
  clear h
  obtain ⟨F, hF⟩ : ∃ F : Nat → Nat → Value, F = fun k j => if j < k then .string (ls.getD j ByteArray.empty) else .string ⟨#[]⟩ := ⟨_, rfl⟩
  have HF := Lib.hid hF
  clear hF
  have hmk := run_make_row' (P := Tryz.prog) 22 9 (.string ⟨#[]⟩) 16 Tryz.underlying22 infoString rfl .i64 .i64 ls.length (by omega) (by omega)
  go_enter Tryz.func26, Tryz.ntmps26
  go_wp2
  go_loopw [4] (fun i wr => ∃ k : Nat, k ≤ ls.length ∧ i = .int .i64 k ∧ wr.rowIs w.heap.size 9 ls.length (F k) ∧ Below w.heap.size w wr) (fun i _ => ls.length - (intOf i).toNat)
  case atStart => exact ⟨0, Nat.zero_le _, rfl, (World.rowIs_made _ _ _ _).congr (fun i _ => by rw [HF.out]; simp), below1 _ _⟩
  case round =>
    obtain ⟨k, hk, rfl, hrow, hbel⟩ := hrel
    by_cases hlt : k < ls.length
    · obtain ⟨b, o, s, rfl, _, hsk, hc0⟩ := H.out.at_ hlt
      have hc := keepCell hbel hc0
      have hg := hrow.cell hlt
      have hfz := hrow.frozen k
      have HR := Lib.hid hrow
      have hs : ls.getD k ByteArray.empty = s := by simp [List.getD, hsk]
      have HS := Lib.hid hs
      have hli : (k : Int) < (ls.length : Int) := by omega
      have HB := Lib.hid hbel
      clear hs hsk hc0 hrow hbel hmk
      go_wp2_with fail
      go_roundw
      case rel => exact ⟨k + 1, by omega, by go_num, ((HR.out.set k (.string s)).congr (fun j hj => by
          rw [HF.out]
          by_cases e : j = k
          · subst e
            simp [← HS.out]
          · by_cases hjk : j < k
            · simp [e, hjk, show j < k + 1 by omega]
            · simp [e, hjk, show ¬ j < k + 1 by omega])), HB.out.setCell (Nat.le_refl _) _⟩
      case measure => simp [intOf]; omega
    · have hk' : k = ls.length := by omega
      have HR := Lib.hid hrow
      have HB := Lib.hid hbel
      clear hrow hbel hmk
      go_wp2
      go_ret
      refine ⟨rfl, fun hp => ⟨_, 0, rfl, Nat.le_refl _, fun i s hs => ?_⟩, HB.out⟩
      obtain ⟨hi, hs'⟩ := List.getElem?_eq_some_iff.1 hs
      rw [Nat.zero_add, HR.out.cell hi, HF.out]
      simp [hk', hi, hs']
end Go.Proofs.YtifchfecfkdjlaaGreatDoor

