/-
  Trees of types (a kind, a name, labels, kids): what it means that one lies in memory, and that it stays there. No condition.
-/
import Derived.Test.YtbjcldekapipaaaGreatDoorStrsP
namespace Go.Proofs.YtbjcldekapipaaaGreatDoor
open Go.ChangeShapes Go.WideShapes Go.ChangeAt Go.RowKit

/-- A tree. -/
inductive Ty where
  | mk (kind : Int) (name : ByteArray) (labels : List ByteArray) (kids : List Ty)

def Ty.kind : Ty → Int | .mk k _ _ _ => k
def Ty.name : Ty → ByteArray | .mk _ n _ _ => n
def Ty.labels : Ty → List ByteArray | .mk _ _ l _ => l
def Ty.kids : Ty → List Ty | .mk _ _ _ k => k

mutual
def Ty.size : Ty → Nat | .mk _ _ _ ks => 1 + Ty.sizes ks
def Ty.sizes : List Ty → Nat | [] => 0 | t :: ts => t.size + Ty.sizes ts
end

theorem Ty.sizes_get : ∀ (ks : List Ty) (i : Nat) (t : Ty), ks[i]? = some t → t.size ≤ Ty.sizes ks
  | [], i, t, h => by simp at h
  | x :: xs, 0, t, h => by
    simp at h
    subst h
    unfold Ty.sizes
    omega
  | x :: xs, i + 1, t, h => by
    have := Ty.sizes_get xs i t (by simpa using h)
    unfold Ty.sizes
    omega
theorem Ty.size_kid {T t : Ty} {i : Nat} (h : T.kids[i]? = some t) : t.size < T.size := by
  cases T with
  | mk k n l ks =>
    have := Ty.sizes_get ks i t h
    rw [Ty.size]
    omega

/-- To prove it of every tree, prove it of a tree whose kids have it. -/
theorem Ty.kidInd {p : Ty → Prop} (h : ∀ T : Ty, (∀ (i : Nat) (t : Ty), T.kids[i]? = some t → p t) → p T) : ∀ T, p T := by
  have key : ∀ (n : Nat) (T : Ty), T.size ≤ n → p T := by
    intro n
    induction n with
    | zero =>
      intro T hT
      cases T with
      | mk k m l ks =>
        rw [Ty.size] at hT
        omega
    | succ n ih =>
      intro T hT
      exact h T fun i t ht => ih t (by have := Ty.size_kid ht; omega)
  exact fun T => key T.size T (Nat.le_refl _)

mutual
/-- A tree lies in memory: A, B are the addresses of its labels and its kids. -/
def Ty.At (w : World) (lo : Nat) : Ty → Option Addr → Option Addr → Prop
  | .mk _ _ ls ks, A, B => Strs w lo ls A ∧ (0 < ks.length → ∃ b o : Nat, B = some ⟨b, o, none⟩ ∧ lo ≤ b ∧ Ty.Row w lo ks b o)
/-- The kids lie one behind the other, four cells each. -/
def Ty.Row (w : World) (lo : Nat) : List Ty → Nat → Nat → Prop
  | [], _, _ => True
  | t :: ts, b, o => (∃ (A B : Option Addr) (ca cb : Nat), w.cell? ⟨b, o, none⟩ = some (.int .i64 t.kind) ∧ w.cell? ⟨b, o + 1, none⟩ = some (.string t.name) ∧ w.cell? ⟨b, o + 2, none⟩ = some (.slice A t.labels.length ca) ∧
      w.cell? ⟨b, o + 3, none⟩ = some (.slice B t.kids.length cb) ∧ Ty.At w lo t A B) ∧ Ty.Row w lo ts b (o + 4)
end

/-- One kid's cells. -/
structure Ty.Cells (w : World) (lo : Nat) (t : Ty) (b o : Nat) (A B : Option Addr) (ca cb : Nat) : Prop where
  kind : w.cell? ⟨b, o, none⟩ = some (.int .i64 t.kind)
  name : w.cell? ⟨b, o + 1, none⟩ = some (.string t.name)
  labels : w.cell? ⟨b, o + 2, none⟩ = some (.slice A t.labels.length ca)
  kids : w.cell? ⟨b, o + 3, none⟩ = some (.slice B t.kids.length cb)
  tree : Ty.At w lo t A B

theorem Ty.Row.get {w : World} {lo : Nat} : ∀ {ks : List Ty} {b o : Nat}, Ty.Row w lo ks b o → ∀ {i : Nat} {t : Ty}, ks[i]? = some t → ∃ A B ca cb, Ty.Cells w lo t b (o + 4 * i) A B ca cb
  | x :: xs, b, o, h, 0, t, ht => by
    unfold Ty.Row at h
    obtain ⟨⟨A, B, ca, cb, h1, h2, h3, h4, h5⟩, _⟩ := h
    simp at ht
    subst ht
    exact ⟨A, B, ca, cb, h1, h2, h3, h4, h5⟩
  | x :: xs, b, o, h, i + 1, t, ht => by
    unfold Ty.Row at h
    obtain ⟨A, B, ca, cb, hc⟩ := Ty.Row.get h.2 (i := i) (t := t) (by simpa using ht)
    rw [show o + 4 + 4 * i = o + 4 * (i + 1) by omega] at hc
    exact ⟨A, B, ca, cb, hc⟩
theorem Ty.Row.mk {w : World} {lo : Nat} : ∀ {ks : List Ty} {b o : Nat}, (∀ (i : Nat) (t : Ty), ks[i]? = some t → ∃ A B ca cb, Ty.Cells w lo t b (o + 4 * i) A B ca cb) → Ty.Row w lo ks b o
  | [], b, o, _ => by unfold Ty.Row; trivial
  | x :: xs, b, o, h => by
    unfold Ty.Row
    refine ⟨?_, Ty.Row.mk fun i t ht => ?_⟩
    · obtain ⟨A, B, ca, cb, hc⟩ := h 0 x rfl
      exact ⟨A, B, ca, cb, hc.kind, hc.name, hc.labels, hc.kids, hc.tree⟩
    · obtain ⟨A, B, ca, cb, hc⟩ := h (i + 1) t (by simpa using ht)
      rw [show o + 4 + 4 * i = o + 4 * (i + 1) by omega]
      exact ⟨A, B, ca, cb, hc⟩

theorem Ty.At.strs {w : World} {lo : Nat} {T : Ty} {A B : Option Addr} (h : Ty.At w lo T A B) : Strs w lo T.labels A := by
  cases T
  unfold Ty.At at h
  exact h.1
/-- Where the kids lie. -/
theorem Ty.At.row {w : World} {lo : Nat} {T : Ty} {A B : Option Addr} (h : Ty.At w lo T A B) (hp : 0 < T.kids.length) :
    ∃ b o, B = some ⟨b, o, none⟩ ∧ lo ≤ b ∧ ∀ (i : Nat) (t : Ty), T.kids[i]? = some t → ∃ A' B' ca cb, Ty.Cells w lo t b (o + 4 * i) A' B' ca cb := by
  cases T with
  | mk k n l ks =>
    unfold Ty.At at h
    obtain ⟨b, o, hb, hlo, hr⟩ := h.2 hp
    exact ⟨b, o, hb, hlo, fun i t ht => hr.get ht⟩
theorem Ty.At.mk' {w : World} {lo : Nat} {T : Ty} {A B : Option Addr} (h1 : Strs w lo T.labels A) (h2 : 0 < T.kids.length → ∃ b o : Nat, B = some ⟨b, o, none⟩ ∧ lo ≤ b ∧ ∀ (i : Nat) (t : Ty), T.kids[i]? = some t → ∃ A' B' ca cb, Ty.Cells w lo t b (o + 4 * i) A' B' ca cb) : Ty.At w lo T A B := by
  cases T with
  | mk k n l ks =>
    unfold Ty.At
    refine ⟨h1, fun hk => ?_⟩
    obtain ⟨b, o, hb, hlo, h⟩ := h2 hk
    exact ⟨b, o, hb, hlo, Ty.Row.mk h⟩

theorem Ty.At.keep {w w' : World} {lo : Nat} (hk : KeptFrom lo w w') : ∀ {T : Ty} {A B : Option Addr}, Ty.At w lo T A B → Ty.At w' lo T A B := by
  intro T
  induction T using Ty.kidInd with
  | h T ih =>
    intro A B h
    refine Ty.At.mk' (h.strs.keep hk) fun hp => ?_
    obtain ⟨b, o, hb, hlo, hr⟩ := h.row hp
    refine ⟨b, o, hb, hlo, fun i t ht => ?_⟩
    obtain ⟨A', B', ca, cb, hc⟩ := hr i t ht
    exact ⟨A', B', ca, cb, hk _ _ hlo hc.kind, hk _ _ hlo hc.name, hk _ _ hlo hc.labels, hk _ _ hlo hc.kids, ih i t ht hc.tree⟩
theorem Ty.At.low {w : World} {lo lo' : Nat} (hl : lo' ≤ lo) : ∀ {T : Ty} {A B : Option Addr}, Ty.At w lo T A B → Ty.At w lo' T A B := by
  intro T
  induction T using Ty.kidInd with
  | h T ih =>
    intro A B h
    refine Ty.At.mk' (h.strs.low hl) fun hp => ?_
    obtain ⟨b, o, hb, hlo, hr⟩ := h.row hp
    refine ⟨b, o, hb, by omega, fun i t ht => ?_⟩
    obtain ⟨A', B', ca, cb, hc⟩ := hr i t ht
    exact ⟨A', B', ca, cb, hc.kind, hc.name, hc.labels, hc.kids, ih i t ht hc.tree⟩
theorem Ty.Cells.keep {w w' : World} {lo : Nat} {t : Ty} {b o : Nat} {A B : Option Addr} {ca cb : Nat} (h : Ty.Cells w lo t b o A B ca cb) (hk : KeptFrom lo w w') (hlo : lo ≤ b) : Ty.Cells w' lo t b o A B ca cb :=
  ⟨hk _ _ hlo h.kind, hk _ _ hlo h.name, hk _ _ hlo h.labels, hk _ _ hlo h.kids, h.tree.keep hk⟩

theorem Ty.At.below {w w' : World} {lo : Nat} {T : Ty} {A B : Option Addr} (h : Ty.At w lo T A B) (hb : Below w.heap.size w w') : Ty.At w' lo T A B := h.keep (KeptFrom.below hb lo)
/-- Every string and every length of a tree is one that a machine holds. -/
def Ty.fin (T : Ty) : Prop := T.name.size ≤ maxLen ∧ T.labels.length ≤ maxLen ∧ T.kids.length ≤ maxLen ∧ (∀ s ∈ T.labels, s.size ≤ maxLen) ∧ T.kind ≤ 9223372036854775807 ∧ -9223372036854775808 ≤ T.kind
mutual
def Ty.Fin : Ty → Prop | .mk k n l ks => (Ty.mk k n l ks).fin ∧ Ty.Fins ks
def Ty.Fins : List Ty → Prop | [] => True | t :: ts => t.Fin ∧ Ty.Fins ts
end
theorem Ty.Fins.get : ∀ {ks : List Ty}, Ty.Fins ks → ∀ {i : Nat} {t : Ty}, ks[i]? = some t → t.Fin
  | x :: xs, h, 0, t, ht => by
    unfold Ty.Fins at h
    simp at ht
    subst ht
    exact h.1
  | x :: xs, h, i + 1, t, ht => by
    unfold Ty.Fins at h
    exact Ty.Fins.get h.2 (i := i) (by simpa using ht)
theorem Ty.Fins.mk : ∀ {ks : List Ty}, (∀ (i : Nat) (t : Ty), ks[i]? = some t → t.Fin) → Ty.Fins ks
  | [], _ => by unfold Ty.Fins; trivial
  | x :: xs, h => by
    unfold Ty.Fins
    exact ⟨h 0 x rfl, Ty.Fins.mk fun i t ht => h (i + 1) t (by simpa using ht)⟩
theorem Ty.Fin.own {T : Ty} (h : T.Fin) : T.fin := by
  cases T
  unfold Ty.Fin at h
  exact h.1
theorem Ty.Fin.kid {T : Ty} (h : T.Fin) {i : Nat} {t : Ty} (ht : T.kids[i]? = some t) : t.Fin := by
  cases T
  unfold Ty.Fin at h
  exact h.2.get ht
theorem Ty.Fin.mk' {T : Ty} (h : T.fin) (hk : ∀ (i : Nat) (t : Ty), T.kids[i]? = some t → t.Fin) : T.Fin := by
  cases T
  unfold Ty.Fin
  exact ⟨h, Ty.Fins.mk hk⟩

end Go.Proofs.YtbjcldekapipaaaGreatDoor
