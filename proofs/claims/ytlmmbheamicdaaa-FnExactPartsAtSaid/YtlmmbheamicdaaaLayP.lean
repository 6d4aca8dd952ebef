/-
  Sizes, alignments and places of types' trees. No condition.
-/
import Derived.Test.YtlmmbheamicdaaaNumSz
import Derived.Test.YtlmmbheamicdaaaTyParts
namespace Go.Proofs.Ytlmmbheamicdaaa

/-- The least multiple of a that is no less than x. -/
def up (x a : Int) : Int := Int.tdiv (x + a - 1) a * a
theorem up_le {x a : Int} (hx : 0 ≤ x) (ha : 1 ≤ a) : x ≤ up x a ∧ up x a ≤ x + a - 1 := by
  unfold up
  rw [Int.tdiv_eq_ediv_of_nonneg (by omega)]
  have h1 := Int.mul_ediv_add_emod (x + a - 1) a
  have h2 := Int.emod_nonneg (x + a - 1) (b := a) (by omega)
  have h3 := Int.emod_lt_of_pos (x + a - 1) (b := a) (by omega)
  rw [Int.mul_comm]
  generalize a * ((x + a - 1) / a) = q at *
  omega
mutual
def Ty.lay : Ty → Int × Int
  | .mk k _ ls ks =>
    if 0 < numSz k then (numSz k, numSz k)
    else if k = 11 ∨ k = 12 then (8, 4)
    else if k = 18 then (1, 1)
    else if k = 19 then (if 8 < (ls.length : Int) then (2, 2) else (1, 1))
    else if k = 15 ∨ k = 16 then (up (Ty.layRow 0 1 ks).1 (Ty.layRow 0 1 ks).2, (Ty.layRow 0 1 ks).2)
    else if k = 13 ∨ k = 14 ∨ k = 17 then (up (up 1 (Ty.layMost 0 1 ks).2 + (Ty.layMost 0 1 ks).1) (Ty.layMost 0 1 ks).2, (Ty.layMost 0 1 ks).2)
    else (0, 1)
/-- Where a row of them ends, and its alignment, from a place and an alignment on. -/
def Ty.layRow : Int → Int → List Ty → Int × Int
  | e, a, [] => (e, a)
  | e, a, t :: ts => Ty.layRow (up e t.lay.2 + t.lay.1) (max a t.lay.2) ts
/-- The greatest size and the greatest alignment. -/
def Ty.layMost : Int → Int → List Ty → Int × Int
  | m, a, [] => (m, a)
  | m, a, t :: ts => Ty.layMost (max m t.lay.1) (max a t.lay.2) ts
end
/-- Where each begins. -/
def Ty.offs : Int → List Ty → List Int
  | _, [] => []
  | e, t :: ts => up e t.lay.2 :: Ty.offs (up e t.lay.2 + t.lay.1) ts
theorem Ty.offs_length : ∀ (e : Int) (ts : List Ty), (Ty.offs e ts).length = ts.length
  | _, [] => rfl
  | e, t :: ts => by simp [Ty.offs, Ty.offs_length _ ts]
theorem Ty.lay_eq (T : Ty) : T.lay = if 0 < numSz T.kind then (numSz T.kind, numSz T.kind)
    else if T.kind = 11 ∨ T.kind = 12 then (8, 4)
    else if T.kind = 18 then (1, 1)
    else if T.kind = 19 then (if 8 < (T.labels.length : Int) then (2, 2) else (1, 1))
    else if T.kind = 15 ∨ T.kind = 16 then (up (Ty.layRow 0 1 T.kids).1 (Ty.layRow 0 1 T.kids).2, (Ty.layRow 0 1 T.kids).2)
    else if T.kind = 13 ∨ T.kind = 14 ∨ T.kind = 17 then (up (up 1 (Ty.layMost 0 1 T.kids).2 + (Ty.layMost 0 1 T.kids).1) (Ty.layMost 0 1 T.kids).2, (Ty.layMost 0 1 T.kids).2)
    else (0, 1) := by
  cases T
  rw [Ty.lay]
  rfl
theorem Ty.layRow_cons (e a : Int) (t : Ty) (ts : List Ty) : Ty.layRow e a (t :: ts) = Ty.layRow (up e t.lay.2 + t.lay.1) (max a t.lay.2) ts := by rw [Ty.layRow]
theorem Ty.layRow_nil (e a : Int) : Ty.layRow e a [] = (e, a) := by rw [Ty.layRow]
theorem Ty.layMost_cons (m a : Int) (t : Ty) (ts : List Ty) : Ty.layMost m a (t :: ts) = Ty.layMost (max m t.lay.1) (max a t.lay.2) ts := by rw [Ty.layMost]
theorem Ty.layMost_nil (m a : Int) : Ty.layMost m a [] = (m, a) := by rw [Ty.layMost]
theorem numSz_le (k : Int) : 0 ≤ numSz k ∧ numSz k ≤ 8 := by
  unfold numSz
  (repeat' split) <;> omega

/-- A size's bound, and an alignment's. -/
def LayIn (T : Ty) : Prop := 0 ≤ T.lay.1 ∧ T.lay.1 ≤ 24 * (T.size : Int) - 8 ∧ 1 ≤ T.lay.2 ∧ T.lay.2 ≤ 8
theorem Ty.layRow_in : ∀ (ks : List Ty) (_ : ∀ (i : Nat) (t : Ty), ks[i]? = some t → LayIn t) (e a : Int), 0 ≤ e → 1 ≤ a → a ≤ 8 → e ≤ (Ty.layRow e a ks).1 ∧ (Ty.layRow e a ks).1 ≤ e + 24 * (Ty.sizes ks : Int) ∧ 1 ≤ (Ty.layRow e a ks).2 ∧ (Ty.layRow e a ks).2 ≤ 8
  | [], _, e, a, h1, h2, h3 => by
    rw [Ty.layRow_nil]
    simp only [Ty.sizes]
    omega
  | t :: ts, h, e, a, h1, h2, h3 => by
    have ht := h 0 t rfl
    unfold LayIn at ht
    have hu := up_le h1 ht.2.2.1
    have := Ty.layRow_in ts (fun i u hu => h (i + 1) u (by simpa using hu)) (up e t.lay.2 + t.lay.1) (max a t.lay.2) (by omega) (by omega) (by omega)
    rw [Ty.layRow_cons]
    simp only [Ty.sizes]
    omega
theorem Ty.layMost_in : ∀ (ks : List Ty) (_ : ∀ (i : Nat) (t : Ty), ks[i]? = some t → LayIn t) (m a : Int), 0 ≤ m → 1 ≤ a → a ≤ 8 → m ≤ (Ty.layMost m a ks).1 ∧ (Ty.layMost m a ks).1 ≤ m + 24 * (Ty.sizes ks : Int) ∧ 1 ≤ (Ty.layMost m a ks).2 ∧ (Ty.layMost m a ks).2 ≤ 8
  | [], _, m, a, h1, h2, h3 => by
    rw [Ty.layMost_nil]
    simp only [Ty.sizes]
    omega
  | t :: ts, h, m, a, h1, h2, h3 => by
    have ht := h 0 t rfl
    unfold LayIn at ht
    have := Ty.layMost_in ts (fun i u hu => h (i + 1) u (by simpa using hu)) (max m t.lay.1) (max a t.lay.2) (by omega) (by omega) (by omega)
    rw [Ty.layMost_cons]
    simp only [Ty.sizes]
    omega
theorem Ty.lay_in (T : Ty) : LayIn T := by
  induction T using Ty.kidInd with
  | h T ih =>
    have hs := T.size_eq
    have hn := numSz_le T.kind
    have hr := Ty.layRow_in T.kids ih 0 1 (by omega) (by omega) (by omega)
    have hm := Ty.layMost_in T.kids ih 0 1 (by omega) (by omega) (by omega)
    have u1 := up_le hr.1 hr.2.2.1
    have u2 := up_le (x := 1) (by omega) hm.2.2.1
    have u3 := up_le (x := up 1 (Ty.layMost 0 1 T.kids).2 + (Ty.layMost 0 1 T.kids).1) (by omega) hm.2.2.1
    unfold LayIn
    rw [Ty.lay_eq]
    (repeat' split) <;> (try dsimp only) <;> omega
theorem Ty.Ok.lay {T : Ty} (h : T.Ok) : 0 ≤ T.lay.1 ∧ T.lay.1 ≤ 600 ∧ 1 ≤ T.lay.2 ∧ T.lay.2 ≤ 8 := by
  have h1 := T.lay_in
  have h2 := h.1.2
  unfold LayIn at h1
  omega
end Go.Proofs.Ytlmmbheamicdaaa
