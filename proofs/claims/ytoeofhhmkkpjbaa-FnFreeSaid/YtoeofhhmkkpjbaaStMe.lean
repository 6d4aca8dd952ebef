/-
  Memory by value and in slices: what it means that one lies in memory, and that it stays there. No condition.
-/
import Derived.Test.YtoeofhhmkkpjbaaStBk
namespace Go.Proofs.Ytoeofhhmkkpjbaa
open Go.ChangeShapes Go.WideShapes Go.ChangeAt Go.RowKit Go.Deep

structure Me where
  bytes : ByteArray
  free : List Bk
/-- The weight. -/
def Me.wt (x : Me) : Int := (x.bytes.size : Int) + ((x.free.length : Int) + Bk.wts x.free)
def Me.wts : List Me → Int | [] => 0 | x :: xs => x.wt + Me.wts xs
theorem Me.wt_nonneg (x : Me) : 0 ≤ x.wt := by
  have := Bk.wts_nonneg x.free
  unfold Me.wt
  omega
theorem Me.wts_append : ∀ xs ys : List Me, Me.wts (xs ++ ys) = Me.wts xs + Me.wts ys
  | [], ys => by simp [Me.wts]
  | x :: xs, ys => by
    simp only [List.cons_append, Me.wts, Me.wts_append xs ys]
    omega
theorem Me.wts_nonneg : ∀ xs : List Me, 0 ≤ Me.wts xs
  | [] => by simp [Me.wts]
  | x :: xs => by
    have h1 := x.wt_nonneg
    have h2 := Me.wts_nonneg xs
    simp only [Me.wts]
    omega
theorem Me.wts_take {xs : List Me} {i : Nat} {x : Me} (h : xs[i]? = some x) : Me.wts (xs.take (i + 1)) = Me.wts (xs.take i) + x.wt := by
  obtain ⟨hi, rfl⟩ := List.getElem?_eq_some_iff.1 h
  rw [List.take_succ_eq_append_getElem hi, Me.wts_append]
  simp [Me.wts]
theorem Me.wts_take_le (xs : List Me) (i : Nat) : Me.wts (xs.take i) ≤ Me.wts xs := by
  have h := Me.wts_append (xs.take i) (xs.drop i)
  rw [List.take_append_drop] at h
  have := Me.wts_nonneg (xs.drop i)
  omega
theorem Me.wt_mem {xs : List Me} {i : Nat} {x : Me} (h : xs[i]? = some x) : x.wt ≤ Me.wts xs := by
  have h1 := Me.wts_take h
  have h2 := Me.wts_take_le xs (i + 1)
  have h3 := Me.wts_nonneg (xs.take i)
  omega
/-- What a machine holds. -/
def Me.Fin (x : Me) : Prop := x.bytes.size ≤ maxLen ∧ (x.free.length ≤ maxLen ∧ ∀ y ∈ x.free, Bk.Fin y)
/-- What the value points to lies in memory. -/
def Me.At (w : World) (lo : Nat) (x : Me) (Rfree : Option Addr) : Prop := Bks w lo x.free Rfree
theorem Me.At.keep {w w' : World} {lo : Nat} {x : Me} {Rfree : Option Addr} (h : Me.At w lo x Rfree) (hk : KeptFrom lo w w') : Me.At w' lo x Rfree := by
  have h0 := h
  exact Bks.keep h0 hk
theorem Me.At.low {w : World} {lo lo' : Nat} {x : Me} {Rfree : Option Addr} (h : Me.At w lo x Rfree) (hl : lo' ≤ lo) : Me.At w lo' x Rfree := by
  have h0 := h
  exact Bks.low h0 hl
theorem Me.At.below {w w' : World} {lo : Nat} {x : Me} {Rfree : Option Addr} (h : Me.At w lo x Rfree) (hb : Below w.heap.size w w') : Me.At w' lo x Rfree := h.keep (KeptFrom.below hb lo)
/-- One element's cells. -/
structure Me.Cells (w : World) (lo : Nat) (x : Me) (b o : Nat) (Rfree : Option Addr) (cfree : Nat) : Prop where
  c0_ : w.cell? ⟨b, o, none⟩ = some (.string x.bytes)
  c1_ : w.cell? ⟨b, o + 1, none⟩ = some (.slice Rfree x.free.length cfree)
  at_ : Me.At w lo x Rfree
theorem Me.Cells.keep {w w' : World} {lo : Nat} {x : Me} {b o : Nat} {Rfree : Option Addr} {cfree : Nat} (h : Me.Cells w lo x b o Rfree cfree) (hk : KeptFrom lo w w') (hlo : lo ≤ b) : Me.Cells w' lo x b o Rfree cfree :=
  ⟨hk _ _ hlo h.c0_, hk _ _ hlo h.c1_, h.at_.keep hk⟩
/-- A slice's elements lie in memory, no block of them below lo. -/
def Mes (w : World) (lo : Nat) (xs : List Me) (R : Option Addr) : Prop := 0 < xs.length → ∃ b o : Nat, R = some ⟨b, o, none⟩ ∧ lo ≤ b ∧ ∀ (i : Nat) (x : Me), xs[i]? = some x → ∃ (Rfree : Option Addr), ∃ (cfree : Nat), Me.Cells w lo x b (o + i * 2) Rfree cfree
theorem Mes.keep {w w' : World} {lo : Nat} {xs : List Me} {R : Option Addr} (h : Mes w lo xs R) (hk : KeptFrom lo w w') : Mes w' lo xs R := fun hp => by
  obtain ⟨b, o, hb, hlo, hr⟩ := h hp
  refine ⟨b, o, hb, hlo, fun i x hx => ?_⟩
  obtain ⟨Rfree, cfree, hc⟩ := hr i x hx
  exact ⟨_, _, hc.keep hk hlo⟩
theorem Mes.low {w : World} {lo lo' : Nat} {xs : List Me} {R : Option Addr} (h : Mes w lo xs R) (hl : lo' ≤ lo) : Mes w lo' xs R := fun hp => by
  obtain ⟨b, o, hb, hlo, hr⟩ := h hp
  refine ⟨b, o, hb, by omega, fun i x hx => ?_⟩
  obtain ⟨Rfree, cfree, hc⟩ := hr i x hx
  exact ⟨_, _, ⟨hc.c0_, hc.c1_, hc.at_.low hl⟩⟩
theorem Mes.below {w w' : World} {lo : Nat} {xs : List Me} {R : Option Addr} (h : Mes w lo xs R) (hb : Below w.heap.size w w') : Mes w' lo xs R := h.keep (KeptFrom.below hb lo)
theorem Mes.at_ {w : World} {lo : Nat} {xs : List Me} {R : Option Addr} (h : Mes w lo xs R) {k : Nat} (hk : k < xs.length) : ∃ (b o : Nat) (x : Me), ∃ (Rfree : Option Addr), ∃ (cfree : Nat), R = some ⟨b, o, none⟩ ∧ lo ≤ b ∧ xs[k]? = some x ∧ Me.Cells w lo x b (o + k * 2) Rfree cfree := by
  obtain ⟨b, o, ha, hlo, hc⟩ := h (by omega)
  obtain ⟨Rfree, cfree, hc⟩ := hc k _ (List.getElem?_eq_getElem hk)
  exact ⟨b, o, xs[k], _, _, ha, hlo, List.getElem?_eq_getElem hk, hc⟩
end Go.Proofs.Ytoeofhhmkkpjbaa
