/-
  Walks of measuring, copying and comparing types' trees.
-/
import Derived.Test.YtbjcldekapipaaaTyPure
import Derived.Test.YtbjcldekapipaaaStrsW
namespace Go.Proofs.Ytbjcldekapipaaa
open Go.ChangeShapes Go.WideShapes Go.ChangeAt Go.RowKit

/-- Where a row of trees lies. -/
def Ty.RowAt (w : World) (lo : Nat) (ks : List Ty) (B : Option Addr) : Prop := 0 < ks.length → ∃ b o : Nat, B = some ⟨b, o, none⟩ ∧ lo ≤ b ∧ ∀ (i : Nat) (t : Ty), ks[i]? = some t → ∃ A' B' ca cb, Ty.Cells w lo t b (o + i * 4) A' B' ca cb
theorem Ty.At.rowAt {w : World} {lo : Nat} {T : Ty} {A B : Option Addr} (h : Ty.At w lo T A B) : Ty.RowAt w lo T.kids B := fun hp => by
  obtain ⟨b, o, hb, hlo, hr⟩ := h.row hp
  refine ⟨b, o, hb, hlo, fun i t ht => ?_⟩
  rw [Nat.mul_comm i 4]
  exact hr i t ht
theorem Ty.RowAt.keep {w w' : World} {lo : Nat} {ks : List Ty} {B : Option Addr} (h : Ty.RowAt w lo ks B) (hk : KeptFrom lo w w') : Ty.RowAt w' lo ks B := fun hp => by
  obtain ⟨b, o, hb, hlo, hr⟩ := h hp
  refine ⟨b, o, hb, hlo, fun i t ht => ?_⟩
  obtain ⟨A', B', ca, cb, hc⟩ := hr i t ht
  exact ⟨A', B', ca, cb, hc.keep hk hlo⟩
theorem Ty.RowAt.below {w w' : World} {lo : Nat} {ks : List Ty} {B : Option Addr} (h : Ty.RowAt w lo ks B) (hb : Below w.heap.size w w') : Ty.RowAt w' lo ks B := h.keep (KeptFrom.below hb lo)
theorem Ty.RowAt.at_ {w : World} {lo : Nat} {ks : List Ty} {B : Option Addr} (h : Ty.RowAt w lo ks B) {k : Nat} (hk : k < ks.length) :
    ∃ (b o : Nat) (t : Ty) (A' B' : Option Addr) (ca cb : Nat), B = some ⟨b, o, none⟩ ∧ lo ≤ b ∧ ks[k]? = some t ∧ Ty.Cells w lo t b (o + k * 4) A' B' ca cb := by
  obtain ⟨b, o, ha, hlo, hc⟩ := h (by omega)
  obtain ⟨A', B', ca, cb, h⟩ := hc k _ (List.getElem?_eq_getElem hk)
  exact ⟨b, o, ks[k], A', B', ca, cb, ha, hlo, List.getElem?_eq_getElem hk, h⟩

mutual
/-- The weight of a tree. -/
def Ty.wt : Ty → Int | .mk _ n l ks => n.size + l.length + sumSz l + ks.length + Ty.wts ks
def Ty.wts : List Ty → Int | [] => 0 | t :: ts => t.wt + Ty.wts ts
end
theorem Ty.wt_eq (T : Ty) : T.wt = T.name.size + T.labels.length + sumSz T.labels + T.kids.length + Ty.wts T.kids := by
  cases T
  rw [Ty.wt]
  rfl
theorem Ty.wts_append : ∀ xs ys : List Ty, Ty.wts (xs ++ ys) = Ty.wts xs + Ty.wts ys
  | [], ys => by simp [Ty.wts]
  | x :: xs, ys => by
    simp only [List.cons_append, Ty.wts, Ty.wts_append xs ys]
    omega
theorem Ty.wts_nonneg_of {ks : List Ty} (h : ∀ (i : Nat) (t : Ty), ks[i]? = some t → 0 ≤ t.wt) : 0 ≤ Ty.wts ks := by
  induction ks with
  | nil => simp [Ty.wts]
  | cons x xs ih =>
    have h0 := h 0 x rfl
    have h1 := ih fun i t ht => h (i + 1) t (by simpa using ht)
    simp only [Ty.wts]
    omega
theorem Ty.wt_nonneg : ∀ T : Ty, 0 ≤ T.wt := by
  intro T
  induction T using Ty.kidInd with
  | h T ih =>
    have h1 := Ty.wts_nonneg_of ih
    have h2 := sumSz_nonneg T.labels
    rw [Ty.wt_eq]
    omega
theorem Ty.wts_nonneg (ks : List Ty) : 0 ≤ Ty.wts ks := Ty.wts_nonneg_of fun _ t _ => t.wt_nonneg
theorem Ty.wts_take {ks : List Ty} {i : Nat} {t : Ty} (h : ks[i]? = some t) : Ty.wts (ks.take (i + 1)) = Ty.wts (ks.take i) + t.wt := by
  rw [Ty.take_succ h, Ty.wts_append]
  simp [Ty.wts]
theorem Ty.wts_take_le (ks : List Ty) (i : Nat) : Ty.wts (ks.take i) ≤ Ty.wts ks := by
  have := Ty.wts_append (ks.take i) (ks.drop i)
  rw [List.take_append_drop] at this
  have := Ty.wts_nonneg (ks.drop i)
  omega

end Go.Proofs.Ytbjcldekapipaaa
