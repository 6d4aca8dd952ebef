/-
  Core by value and in slices: what it means that one lies in memory, and that it stays there. No condition.
-/
import Derived.Test.YtbjcldekapipaaaGreatDoorStIn
namespace Go.Proofs.YtbjcldekapipaaaGreatDoor
open Go.ChangeShapes Go.WideShapes Go.ChangeAt Go.RowKit Go.Deep

structure Co where
  name : ByteArray
  params : Int
  locals : Int
  result : Bool
  code : List In
/-- The weight. -/
def Co.wt (x : Co) : Int := (x.name.size : Int) + ((x.code.length : Int) + In.wts x.code)
def Co.wts : List Co → Int | [] => 0 | x :: xs => x.wt + Co.wts xs
theorem Co.wt_nonneg (x : Co) : 0 ≤ x.wt := by
  have := In.wts_nonneg x.code
  unfold Co.wt
  omega
theorem Co.wts_append : ∀ xs ys : List Co, Co.wts (xs ++ ys) = Co.wts xs + Co.wts ys
  | [], ys => by simp [Co.wts]
  | x :: xs, ys => by
    simp only [List.cons_append, Co.wts, Co.wts_append xs ys]
    omega
theorem Co.wts_nonneg : ∀ xs : List Co, 0 ≤ Co.wts xs
  | [] => by simp [Co.wts]
  | x :: xs => by
    have h1 := x.wt_nonneg
    have h2 := Co.wts_nonneg xs
    simp only [Co.wts]
    omega
theorem Co.wts_take {xs : List Co} {i : Nat} {x : Co} (h : xs[i]? = some x) : Co.wts (xs.take (i + 1)) = Co.wts (xs.take i) + x.wt := by
  obtain ⟨hi, rfl⟩ := List.getElem?_eq_some_iff.1 h
  rw [List.take_succ_eq_append_getElem hi, Co.wts_append]
  simp [Co.wts]
theorem Co.wts_take_le (xs : List Co) (i : Nat) : Co.wts (xs.take i) ≤ Co.wts xs := by
  have h := Co.wts_append (xs.take i) (xs.drop i)
  rw [List.take_append_drop] at h
  have := Co.wts_nonneg (xs.drop i)
  omega
theorem Co.wt_mem {xs : List Co} {i : Nat} {x : Co} (h : xs[i]? = some x) : x.wt ≤ Co.wts xs := by
  have h1 := Co.wts_take h
  have h2 := Co.wts_take_le xs (i + 1)
  have h3 := Co.wts_nonneg (xs.take i)
  omega
/-- What a machine holds. -/
def Co.Fin (x : Co) : Prop := x.name.size ≤ maxLen ∧ (-9223372036854775808 ≤ x.params ∧ x.params ≤ 9223372036854775807) ∧ (-9223372036854775808 ≤ x.locals ∧ x.locals ≤ 9223372036854775807) ∧ (x.code.length ≤ maxLen ∧ ∀ y ∈ x.code, In.Fin y)
/-- What the value points to lies in memory. -/
def Co.At (w : World) (lo : Nat) (x : Co) (Rcode : Option Addr) : Prop := Ins w lo x.code Rcode
theorem Co.At.keep {w w' : World} {lo : Nat} {x : Co} {Rcode : Option Addr} (h : Co.At w lo x Rcode) (hk : KeptFrom lo w w') : Co.At w' lo x Rcode := by
  have h0 := h
  exact Ins.keep h0 hk
theorem Co.At.low {w : World} {lo lo' : Nat} {x : Co} {Rcode : Option Addr} (h : Co.At w lo x Rcode) (hl : lo' ≤ lo) : Co.At w lo' x Rcode := by
  have h0 := h
  exact Ins.low h0 hl
theorem Co.At.below {w w' : World} {lo : Nat} {x : Co} {Rcode : Option Addr} (h : Co.At w lo x Rcode) (hb : Below w.heap.size w w') : Co.At w' lo x Rcode := h.keep (KeptFrom.below hb lo)
/-- One element's cells. -/
structure Co.Cells (w : World) (lo : Nat) (x : Co) (b o : Nat) (Rcode : Option Addr) (ccode : Nat) : Prop where
  c0_ : w.cell? ⟨b, o, none⟩ = some (.string x.name)
  c1_ : w.cell? ⟨b, o + 1, none⟩ = some (.int .i64 x.params)
  c2_ : w.cell? ⟨b, o + 2, none⟩ = some (.int .i64 x.locals)
  c3_ : w.cell? ⟨b, o + 3, none⟩ = some (.bool x.result)
  c4_ : w.cell? ⟨b, o + 4, none⟩ = some (.slice Rcode x.code.length ccode)
  at_ : Co.At w lo x Rcode
theorem Co.Cells.keep {w w' : World} {lo : Nat} {x : Co} {b o : Nat} {Rcode : Option Addr} {ccode : Nat} (h : Co.Cells w lo x b o Rcode ccode) (hk : KeptFrom lo w w') (hlo : lo ≤ b) : Co.Cells w' lo x b o Rcode ccode :=
  ⟨hk _ _ hlo h.c0_, hk _ _ hlo h.c1_, hk _ _ hlo h.c2_, hk _ _ hlo h.c3_, hk _ _ hlo h.c4_, h.at_.keep hk⟩
/-- A slice's elements lie in memory, no block of them below lo. -/
def Cos (w : World) (lo : Nat) (xs : List Co) (R : Option Addr) : Prop := 0 < xs.length → ∃ b o : Nat, R = some ⟨b, o, none⟩ ∧ lo ≤ b ∧ ∀ (i : Nat) (x : Co), xs[i]? = some x → ∃ (Rcode : Option Addr), ∃ (ccode : Nat), Co.Cells w lo x b (o + i * 5) Rcode ccode
theorem Cos.keep {w w' : World} {lo : Nat} {xs : List Co} {R : Option Addr} (h : Cos w lo xs R) (hk : KeptFrom lo w w') : Cos w' lo xs R := fun hp => by
  obtain ⟨b, o, hb, hlo, hr⟩ := h hp
  refine ⟨b, o, hb, hlo, fun i x hx => ?_⟩
  obtain ⟨Rcode, ccode, hc⟩ := hr i x hx
  exact ⟨_, _, hc.keep hk hlo⟩
theorem Cos.low {w : World} {lo lo' : Nat} {xs : List Co} {R : Option Addr} (h : Cos w lo xs R) (hl : lo' ≤ lo) : Cos w lo' xs R := fun hp => by
  obtain ⟨b, o, hb, hlo, hr⟩ := h hp
  refine ⟨b, o, hb, by omega, fun i x hx => ?_⟩
  obtain ⟨Rcode, ccode, hc⟩ := hr i x hx
  exact ⟨_, _, ⟨hc.c0_, hc.c1_, hc.c2_, hc.c3_, hc.c4_, hc.at_.low hl⟩⟩
theorem Cos.below {w w' : World} {lo : Nat} {xs : List Co} {R : Option Addr} (h : Cos w lo xs R) (hb : Below w.heap.size w w') : Cos w' lo xs R := h.keep (KeptFrom.below hb lo)
theorem Cos.at_ {w : World} {lo : Nat} {xs : List Co} {R : Option Addr} (h : Cos w lo xs R) {k : Nat} (hk : k < xs.length) : ∃ (b o : Nat) (x : Co), ∃ (Rcode : Option Addr), ∃ (ccode : Nat), R = some ⟨b, o, none⟩ ∧ lo ≤ b ∧ xs[k]? = some x ∧ Co.Cells w lo x b (o + k * 5) Rcode ccode := by
  obtain ⟨b, o, ha, hlo, hc⟩ := h (by omega)
  obtain ⟨Rcode, ccode, hc⟩ := hc k _ (List.getElem?_eq_getElem hk)
  exact ⟨b, o, xs[k], _, _, ha, hlo, List.getElem?_eq_getElem hk, hc⟩
end Go.Proofs.YtbjcldekapipaaaGreatDoor
