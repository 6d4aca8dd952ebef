/-
  Memory's blocks: when they are in order, how many bytes are free; facts on lists. No condition.
-/
import Derived.Test.YtoeofhhmkkpjbaaStMe
namespace Go.Proofs.Ytoeofhhmkkpjbaa

/-- The blocks lie in order behind a place, in n bytes. -/
def okFrom (n : Int) : Int → List Bk → Bool
  | _, [] => true
  | last, b :: bs => decide (1 ≤ b.size ∧ last < b.pos ∧ b.pos ≤ n ∧ b.size ≤ n - b.pos) && okFrom n (b.pos + b.size) bs
theorem okFrom_len {n : Int} : ∀ {last : Int} {bs : List Bk}, okFrom n last bs = true → bs = [] ∨ last + 2 * (bs.length : Int) ≤ n
  | _, [], _ => .inl rfl
  | last, b :: bs, h => by
    simp only [okFrom, Bool.and_eq_true, decide_eq_true_eq] at h
    obtain ⟨⟨h1, h2, h3, h4⟩, h5⟩ := h
    right
    rcases okFrom_len h5 with e | e
    · subst e
      simp only [List.length_cons, List.length_nil]
      omega
    · simp only [List.length_cons]
      omega
theorem okFrom_last {n last : Int} {b : Bk} {bs : List Bk} : okFrom n last (b :: bs) = true ↔ (1 ≤ b.size ∧ last < b.pos ∧ b.pos ≤ n ∧ b.size ≤ n - b.pos) ∧ okFrom n (b.pos + b.size) bs = true := by
  simp only [okFrom, Bool.and_eq_true, decide_eq_true_eq]
/-- How many bytes the blocks hold. -/
def sumBk : List Bk → Int
  | [] => 0
  | b :: bs => b.size + sumBk bs
theorem sumBk_append : ∀ xs ys : List Bk, sumBk (xs ++ ys) = sumBk xs + sumBk ys
  | [], ys => by simp [sumBk]
  | x :: xs, ys => by
    simp only [List.cons_append, sumBk, sumBk_append xs ys]
    omega
theorem sumBk_take {xs : List Bk} {i : Nat} {x : Bk} (h : xs[i]? = some x) : sumBk (xs.take (i + 1)) = sumBk (xs.take i) + x.size := by
  obtain ⟨hi, rfl⟩ := List.getElem?_eq_some_iff.1 h
  rw [List.take_succ_eq_append_getElem hi, sumBk_append]
  simp [sumBk]
theorem okFrom_take {n : Int} : ∀ {last : Int} {bs : List Bk} (k : Nat), okFrom n last bs = true → okFrom n last (bs.take k) = true
  | _, [], k, _ => by simp [okFrom]
  | last, b :: bs, 0, _ => by simp [okFrom]
  | last, b :: bs, k + 1, h => by
    obtain ⟨h1, h2⟩ := okFrom_last.1 h
    rw [List.take_succ_cons]
    exact okFrom_last.2 ⟨h1, okFrom_take k h2⟩
theorem sumBk_le {n : Int} : ∀ {last : Int} {bs : List Bk}, okFrom n last bs = true → last ≤ n → 0 ≤ sumBk bs ∧ sumBk bs ≤ n - last
  | _, [], _, h => by
    simp only [sumBk]
    omega
  | last, b :: bs, h, hl => by
    obtain ⟨⟨h1, h2, h3, h4⟩, h5⟩ := okFrom_last.1 h
    have := sumBk_le h5 (by omega)
    simp only [sumBk]
    omega
theorem okFrom_get {n last : Int} {bs : List Bk} (h : okFrom n last bs = true) {k : Nat} {b : Bk} (hb : bs[k]? = some b) : 1 ≤ b.size ∧ last < b.pos ∧ b.pos ≤ n ∧ b.size ≤ n - b.pos := by
  induction bs generalizing last k with
  | nil => simp at hb
  | cons c cs ih =>
    obtain ⟨h1, h2⟩ := okFrom_last.1 h
    cases k with
    | zero =>
      simp at hb
      subst hb
      exact h1
    | succ k =>
      have := ih h2 (k := k) (by simpa using hb)
      omega
/-- A memory is right. -/
def memOk (m : Me) : Bool := decide ((m.bytes.size : Int) ≤ 4096) && okFrom m.bytes.size 7 m.free
theorem memOk_iff {m : Me} : memOk m = true ↔ (m.bytes.size : Int) ≤ 4096 ∧ okFrom m.bytes.size 7 m.free = true := by
  simp only [memOk, Bool.and_eq_true, decide_eq_true_eq]
theorem memOk_len {m : Me} (h : memOk m = true) : m.free.length ≤ 4096 := by
  obtain ⟨h1, h2⟩ := memOk_iff.1 h
  rcases okFrom_len h2 with e | e
  · rw [e]
    simp
  · omega
theorem drop_cons {α : Type} {xs : List α} {k : Nat} {x : α} (h : xs[k]? = some x) : xs.drop k = x :: xs.drop (k + 1) := by
  obtain ⟨hi, rfl⟩ := List.getElem?_eq_some_iff.1 h
  exact List.drop_eq_getElem_cons hi
/-- How many bytes are free. -/
def memFree (m : Me) : Int := if memOk m = true then sumBk m.free else 0
/-- What reading gives. -/
def memIn (m : Me) (p n : Int) : Prop := 0 ≤ n ∧ 0 ≤ p ∧ n ≤ (m.bytes.size : Int) - p
end Go.Proofs.Ytoeofhhmkkpjbaa
