/-
  CoreFrame by value and in slices: what it means that one lies in memory, and that it stays there. No condition.
-/
import Derived.Test.YtbjcldekapipaaaStIv
namespace Go.Proofs.Ytbjcldekapipaaa
open Go.ChangeShapes Go.WideShapes Go.ChangeAt Go.RowKit Go.Deep

structure Fr where
  core : Int
  pc : Int
  base : Int
  locals : List Iv
/-- The weight. -/
def Fr.wt (x : Fr) : Int := ((x.locals.length : Int) + Iv.wts x.locals)
def Fr.wts : List Fr → Int | [] => 0 | x :: xs => x.wt + Fr.wts xs
theorem Fr.wt_nonneg (x : Fr) : 0 ≤ x.wt := by
  have := Iv.wts_nonneg x.locals
  unfold Fr.wt
  omega
theorem Fr.wts_append : ∀ xs ys : List Fr, Fr.wts (xs ++ ys) = Fr.wts xs + Fr.wts ys
  | [], ys => by simp [Fr.wts]
  | x :: xs, ys => by
    simp only [List.cons_append, Fr.wts, Fr.wts_append xs ys]
    omega
theorem Fr.wts_nonneg : ∀ xs : List Fr, 0 ≤ Fr.wts xs
  | [] => by simp [Fr.wts]
  | x :: xs => by
    have h1 := x.wt_nonneg
    have h2 := Fr.wts_nonneg xs
    simp only [Fr.wts]
    omega
theorem Fr.wts_take {xs : List Fr} {i : Nat} {x : Fr} (h : xs[i]? = some x) : Fr.wts (xs.take (i + 1)) = Fr.wts (xs.take i) + x.wt := by
  obtain ⟨hi, rfl⟩ := List.getElem?_eq_some_iff.1 h
  rw [List.take_succ_eq_append_getElem hi, Fr.wts_append]
  simp [Fr.wts]
theorem Fr.wts_take_le (xs : List Fr) (i : Nat) : Fr.wts (xs.take i) ≤ Fr.wts xs := by
  have h := Fr.wts_append (xs.take i) (xs.drop i)
  rw [List.take_append_drop] at h
  have := Fr.wts_nonneg (xs.drop i)
  omega
theorem Fr.wt_mem {xs : List Fr} {i : Nat} {x : Fr} (h : xs[i]? = some x) : x.wt ≤ Fr.wts xs := by
  have h1 := Fr.wts_take h
  have h2 := Fr.wts_take_le xs (i + 1)
  have h3 := Fr.wts_nonneg (xs.take i)
  omega
/-- What a machine holds. -/
def Fr.Fin (x : Fr) : Prop := (-9223372036854775808 ≤ x.core ∧ x.core ≤ 9223372036854775807) ∧ (-9223372036854775808 ≤ x.pc ∧ x.pc ≤ 9223372036854775807) ∧ (-9223372036854775808 ≤ x.base ∧ x.base ≤ 9223372036854775807) ∧ (x.locals.length ≤ maxLen ∧ ∀ y ∈ x.locals, Iv.Fin y)
/-- What the value points to lies in memory. -/
def Fr.At (w : World) (lo : Nat) (x : Fr) (Rlocals : Option Addr) : Prop := Ivs w lo x.locals Rlocals
theorem Fr.At.keep {w w' : World} {lo : Nat} {x : Fr} {Rlocals : Option Addr} (h : Fr.At w lo x Rlocals) (hk : KeptFrom lo w w') : Fr.At w' lo x Rlocals := by
  have h0 := h
  exact Ivs.keep h0 hk
theorem Fr.At.low {w : World} {lo lo' : Nat} {x : Fr} {Rlocals : Option Addr} (h : Fr.At w lo x Rlocals) (hl : lo' ≤ lo) : Fr.At w lo' x Rlocals := by
  have h0 := h
  exact Ivs.low h0 hl
theorem Fr.At.below {w w' : World} {lo : Nat} {x : Fr} {Rlocals : Option Addr} (h : Fr.At w lo x Rlocals) (hb : Below w.heap.size w w') : Fr.At w' lo x Rlocals := h.keep (KeptFrom.below hb lo)
/-- One element's cells. -/
structure Fr.Cells (w : World) (lo : Nat) (x : Fr) (b o : Nat) (Rlocals : Option Addr) (clocals : Nat) : Prop where
  c0_ : w.cell? ⟨b, o, none⟩ = some (.int .i64 x.core)
  c1_ : w.cell? ⟨b, o + 1, none⟩ = some (.int .i64 x.pc)
  c2_ : w.cell? ⟨b, o + 2, none⟩ = some (.int .i64 x.base)
  c3_ : w.cell? ⟨b, o + 3, none⟩ = some (.slice Rlocals x.locals.length clocals)
  at_ : Fr.At w lo x Rlocals
theorem Fr.Cells.keep {w w' : World} {lo : Nat} {x : Fr} {b o : Nat} {Rlocals : Option Addr} {clocals : Nat} (h : Fr.Cells w lo x b o Rlocals clocals) (hk : KeptFrom lo w w') (hlo : lo ≤ b) : Fr.Cells w' lo x b o Rlocals clocals :=
  ⟨hk _ _ hlo h.c0_, hk _ _ hlo h.c1_, hk _ _ hlo h.c2_, hk _ _ hlo h.c3_, h.at_.keep hk⟩
/-- A slice's elements lie in memory, no block of them below lo. -/
def Frs (w : World) (lo : Nat) (xs : List Fr) (R : Option Addr) : Prop := 0 < xs.length → ∃ b o : Nat, R = some ⟨b, o, none⟩ ∧ lo ≤ b ∧ ∀ (i : Nat) (x : Fr), xs[i]? = some x → ∃ (Rlocals : Option Addr), ∃ (clocals : Nat), Fr.Cells w lo x b (o + i * 4) Rlocals clocals
theorem Frs.keep {w w' : World} {lo : Nat} {xs : List Fr} {R : Option Addr} (h : Frs w lo xs R) (hk : KeptFrom lo w w') : Frs w' lo xs R := fun hp => by
  obtain ⟨b, o, hb, hlo, hr⟩ := h hp
  refine ⟨b, o, hb, hlo, fun i x hx => ?_⟩
  obtain ⟨Rlocals, clocals, hc⟩ := hr i x hx
  exact ⟨_, _, hc.keep hk hlo⟩
theorem Frs.low {w : World} {lo lo' : Nat} {xs : List Fr} {R : Option Addr} (h : Frs w lo xs R) (hl : lo' ≤ lo) : Frs w lo' xs R := fun hp => by
  obtain ⟨b, o, hb, hlo, hr⟩ := h hp
  refine ⟨b, o, hb, by omega, fun i x hx => ?_⟩
  obtain ⟨Rlocals, clocals, hc⟩ := hr i x hx
  exact ⟨_, _, ⟨hc.c0_, hc.c1_, hc.c2_, hc.c3_, hc.at_.low hl⟩⟩
theorem Frs.below {w w' : World} {lo : Nat} {xs : List Fr} {R : Option Addr} (h : Frs w lo xs R) (hb : Below w.heap.size w w') : Frs w' lo xs R := h.keep (KeptFrom.below hb lo)
theorem Frs.at_ {w : World} {lo : Nat} {xs : List Fr} {R : Option Addr} (h : Frs w lo xs R) {k : Nat} (hk : k < xs.length) : ∃ (b o : Nat) (x : Fr), ∃ (Rlocals : Option Addr), ∃ (clocals : Nat), R = some ⟨b, o, none⟩ ∧ lo ≤ b ∧ xs[k]? = some x ∧ Fr.Cells w lo x b (o + k * 4) Rlocals clocals := by
  obtain ⟨b, o, ha, hlo, hc⟩ := h (by omega)
  obtain ⟨Rlocals, clocals, hc⟩ := hc k _ (List.getElem?_eq_getElem hk)
  exact ⟨b, o, xs[k], _, _, ha, hlo, List.getElem?_eq_getElem hk, hc⟩
end Go.Proofs.Ytbjcldekapipaaa
