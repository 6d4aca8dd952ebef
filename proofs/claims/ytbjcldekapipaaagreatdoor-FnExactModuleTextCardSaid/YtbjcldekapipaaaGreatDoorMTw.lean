/-
  TyW, TyW2, TyW3, TyW4: in one text.
-/
import Derived.Test.YtbjcldekapipaaaGreatDoorTyPure
import Derived.Test.YtbjcldekapipaaaGreatDoorStrsW
import Derived.Laws.IdiomCopy
import Derived.Deep.RegionHeld3
namespace Go.Proofs.YtbjcldekapipaaaGreatDoor
open Go.ChangeShapes Go.WideShapes Go.ChangeAt Go.RowKit

/-- Where a row of trees lies. -/
def Ty.RowAt (w : World) (lo : Nat) (ks : List Ty) (B : Option Addr) : Prop := 0 < ks.length → ∃ b o : Nat, B = some ⟨b, o, none⟩ ∧ lo ≤ b ∧ ∀ (i : Nat) (t : Ty), ks[i]? = some t → ∃ A' B' ca cb, Ty.Cells w lo t b (o + i * 4) A' B' ca cb
theorem Ty.At.rowAt {w : World} {lo : Nat} {T : Ty} {A B : Option Addr} (h : Ty.At w lo T A B) : Ty.RowAt w lo T.kids B := fun hp => by
  obtain ⟨b, o, hb, hlo, hr⟩ := h.row hp
  refine ⟨b, o, hb, hlo, fun i t ht => ?_⟩
  rw [Nat.mul_comm i 4]
  exact hr i t ht
theorem Ty.RowAt.keep {w w' : World} {lo : Nat} {ks : List Ty} {B : Option Addr} (h : Ty.RowAt w lo ks B) (hk : KeptFrom lo w w') : Ty.RowAt w' lo ks B := fun hp => by
  obtain ⟨b, o, hb, hlo, hr⟩ := h hp
  refine ⟨b, o, hb, hlo, fun i t ht => ?_⟩
  obtain ⟨A', B', ca, cb, hc⟩ := hr i t ht
  exact ⟨A', B', ca, cb, hc.keep hk hlo⟩
theorem Ty.RowAt.below {w w' : World} {lo : Nat} {ks : List Ty} {B : Option Addr} (h : Ty.RowAt w lo ks B) (hb : Below w.heap.size w w') : Ty.RowAt w' lo ks B := h.keep (KeptFrom.below hb lo)
theorem Ty.RowAt.at_ {w : World} {lo : Nat} {ks : List Ty} {B : Option Addr} (h : Ty.RowAt w lo ks B) {k : Nat} (hk : k < ks.length) :
    ∃ (b o : Nat) (t : Ty) (A' B' : Option Addr) (ca cb : Nat), B = some ⟨b, o, none⟩ ∧ lo ≤ b ∧ ks[k]? = some t ∧ Ty.Cells w lo t b (o + k * 4) A' B' ca cb := by
  obtain ⟨b, o, ha, hlo, hc⟩ := h (by omega)
  obtain ⟨A', B', ca, cb, h⟩ := hc k _ (List.getElem?_eq_getElem hk)
  exact ⟨b, o, ks[k], A', B', ca, cb, ha, hlo, List.getElem?_eq_getElem hk, h⟩

mutual
/-- The weight of a tree. -/
def Ty.wt : Ty → Int | .mk _ n l ks => n.size + l.length + sumSz l + ks.length + Ty.wts ks
def Ty.wts : List Ty → Int | [] => 0 | t :: ts => t.wt + Ty.wts ts
end
theorem Ty.wt_eq (T : Ty) : T.wt = T.name.size + T.labels.length + sumSz T.labels + T.kids.length + Ty.wts T.kids := by
  cases T
  rw [Ty.wt]
  rfl
theorem Ty.wts_append : ∀ xs ys : List Ty, Ty.wts (xs ++ ys) = Ty.wts xs + Ty.wts ys
  | [], ys => by simp [Ty.wts]
  | x :: xs, ys => by
    simp only [List.cons_append, Ty.wts, Ty.wts_append xs ys]
    omega
theorem Ty.wts_nonneg_of {ks : List Ty} (h : ∀ (i : Nat) (t : Ty), ks[i]? = some t → 0 ≤ t.wt) : 0 ≤ Ty.wts ks := by
  induction ks with
  | nil => simp [Ty.wts]
  | cons x xs ih =>
    have h0 := h 0 x rfl
    have h1 := ih fun i t ht => h (i + 1) t (by simpa using ht)
    simp only [Ty.wts]
    omega
theorem Ty.wt_nonneg : ∀ T : Ty, 0 ≤ T.wt := by
  intro T
  induction T using Ty.kidInd with
  | h T ih =>
    have h1 := Ty.wts_nonneg_of ih
    have h2 := sumSz_nonneg T.labels
    rw [Ty.wt_eq]
    omega
theorem Ty.wts_nonneg (ks : List Ty) : 0 ≤ Ty.wts ks := Ty.wts_nonneg_of fun _ t _ => t.wt_nonneg
theorem Ty.wts_take {ks : List Ty} {i : Nat} {t : Ty} (h : ks[i]? = some t) : Ty.wts (ks.take (i + 1)) = Ty.wts (ks.take i) + t.wt := by
  rw [Ty.take_succ h, Ty.wts_append]
  simp [Ty.wts]
theorem Ty.wts_take_le (ks : List Ty) (i : Nat) : Ty.wts (ks.take i) ≤ Ty.wts ks := by
  have := Ty.wts_append (ks.take i) (ks.drop i)
  rw [List.take_append_drop] at this
  have := Ty.wts_nonneg (ks.drop i)
  omega

end Go.Proofs.YtbjcldekapipaaaGreatDoor

namespace Go.Proofs.YtbjcldekapipaaaGreatDoor
open Go.ChangeShapes Go.WideShapes Go.ChangeAt Go.RowKit Go.Deep

/-- A tree by value. -/
def Ty.v (T : Ty) (A B : Option Addr) (ca cb : Nat) : Value := .agg #[.int .i64 T.kind, .string T.name, .slice A T.labels.length ca, .slice B T.kids.length cb]

/-- What copying a tree leaves: the same tree in new memory. -/
def ToTyPost (T : Ty) (w : World) (e : Ending) (w' : World) : Prop := ∃ A B : Option Addr, e = .returned (.agg #[.int .i64 T.kind, .string T.name, .slice A T.labels.length T.labels.length, .slice B T.kids.length T.kids.length]) ∧ Ty.At w' w.heap.size T A B ∧ Below w.heap.size w w'
end Go.Proofs.YtbjcldekapipaaaGreatDoor

namespace Go.Proofs.YtbjcldekapipaaaGreatDoor
open Go.ChangeShapes Go.WideShapes Go.ChangeAt Go.RowKit Go.Deep

theorem Ty.len_le {T : Ty} (h : T.wt ≤ 1048576) : T.labels.length ≤ 1048576 ∧ T.kids.length ≤ 1048576 ∧ (∀ (i : Nat) (t : Ty), T.kids[i]? = some t → t.wt ≤ 1048576) ∧ T.name.size ≤ 1048576 ∧ ∀ s ∈ T.labels, s.size ≤ 1048576 := by
  have h1 := T.wt_eq
  have h2 := sumSz_nonneg T.labels
  have h3 := Ty.wts_nonneg T.kids
  refine ⟨by omega, by omega, fun i t ht => ?_, by omega, fun s hs => ?_⟩
  · have h4 := Ty.wts_take ht
    have h5 := Ty.wts_take_le T.kids (i + 1)
    have h6 := Ty.wts_nonneg (T.kids.take i)
    omega
  · obtain ⟨i, hi⟩ := List.getElem?_of_mem hs
    have := sumSz_mem hi
    omega

theorem Ty.RowAt.low {w : World} {lo lo' : Nat} {ks : List Ty} {B : Option Addr} (h : Ty.RowAt w lo ks B) (hl : lo' ≤ lo) : Ty.RowAt w lo' ks B := fun hp => by
  obtain ⟨b, o, hb, hlo, hr⟩ := h hp
  refine ⟨b, o, hb, by omega, fun i t ht => ?_⟩
  obtain ⟨A', B', ca, cb, hc⟩ := hr i t ht
  exact ⟨A', B', ca, cb, hc.kind, hc.name, hc.labels, hc.kids, hc.tree.low hl⟩
theorem Ty.At.of_row {w : World} {lo : Nat} {T : Ty} {A B : Option Addr} (h1 : Strs w lo T.labels A) (h2 : Ty.RowAt w lo T.kids B) : Ty.At w lo T A B := Ty.At.mk' h1 fun hp => by
  obtain ⟨b, o, hb, hlo, hr⟩ := h2 hp
  refine ⟨b, o, hb, hlo, fun i t ht => ?_⟩
  rw [Nat.mul_comm 4 i]
  exact hr i t ht

/-- Four cells of a block, stored one behind the other. -/
theorem four_set (w : World) (b : Nat) (v0 v1 v2 v3 : Value) (h : ∀ j, j < 4 → (w.cell? ⟨b, j, none⟩).isSome = true) :
    ((((w.setCell ⟨b, 0, none⟩ v0).setCell ⟨b, 1, none⟩ v1).setCell ⟨b, 2, none⟩ v2).setCell ⟨b, 3, none⟩ v3).cell? ⟨b, 0, none⟩ = some v0 ∧
    ((((w.setCell ⟨b, 0, none⟩ v0).setCell ⟨b, 1, none⟩ v1).setCell ⟨b, 2, none⟩ v2).setCell ⟨b, 3, none⟩ v3).cell? ⟨b, 1, none⟩ = some v1 ∧
    ((((w.setCell ⟨b, 0, none⟩ v0).setCell ⟨b, 1, none⟩ v1).setCell ⟨b, 2, none⟩ v2).setCell ⟨b, 3, none⟩ v3).cell? ⟨b, 2, none⟩ = some v2 ∧
    ((((w.setCell ⟨b, 0, none⟩ v0).setCell ⟨b, 1, none⟩ v1).setCell ⟨b, 2, none⟩ v2).setCell ⟨b, 3, none⟩ v3).cell? ⟨b, 3, none⟩ = some v3 := by
  have k := World.cell?_setCells_in b [v0, v1, v2, v3] 0 w (fun j hj => by rw [Nat.zero_add]; exact h j hj)
  exact ⟨k 0 (by simp), k 1 (by simp), k 2 (by simp), k 3 (by simp)⟩

end Go.Proofs.YtbjcldekapipaaaGreatDoor

namespace Go.Proofs.YtbjcldekapipaaaGreatDoor
open Go.ChangeShapes Go.WideShapes Go.ChangeAt Go.RowKit Go.Deep

theorem belowN {W a : World} (h : Below W.heap.size W a) (n : Nat) : Below W.heap.size W (a.drewN n) := ⟨h.os, h.tape, h.output, h.size, h.block⟩

end Go.Proofs.YtbjcldekapipaaaGreatDoor

