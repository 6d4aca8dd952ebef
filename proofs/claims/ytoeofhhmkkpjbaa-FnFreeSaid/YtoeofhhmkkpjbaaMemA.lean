/-
  Taking from and giving to rows of free blocks: the pure part. No condition.
-/
import Derived.Test.YtoeofhhmkkpjbaaMemPure
namespace Go.Proofs.Ytoeofhhmkkpjbaa

def upTo (x a : Int) : Int := (x + a - 1) / a * a
def Bk.end_ (b : Bk) : Int := b.pos + b.size
/-- What is left of a block from which a range is taken. -/
def splitBk (p size : Int) (b : Bk) : List Bk :=
  (if b.pos < p then [⟨b.pos, p - b.pos⟩] else []) ++ (if 0 < b.pos + b.size - p - size then [⟨p + size, b.pos + b.size - p - size⟩] else [])
def fitsBk (size al : Int) (b : Bk) : Prop := size ≤ b.pos + b.size - upTo b.pos al
instance (size al : Int) (b : Bk) : Decidable (fitsBk size al b) := inferInstanceAs (Decidable (_ ≤ _))
/-- The first block that has room is split. -/
def allocL (size al : Int) : List Bk → Option (Int × List Bk)
  | [] => none
  | b :: bs => if fitsBk size al b then some (upTo b.pos al, splitBk (upTo b.pos al) size b ++ bs) else (allocL size al bs).map fun r => (r.1, b :: r.2)
theorem allocL_hit {size al : Int} {b : Bk} {ys : List Bk} (hb : fitsBk size al b) : ∀ {xs : List Bk}, (∀ x ∈ xs, ¬ fitsBk size al x) → allocL size al (xs ++ b :: ys) = some (upTo b.pos al, xs ++ (splitBk (upTo b.pos al) size b ++ ys))
  | [], _ => by rw [List.nil_append, allocL, if_pos hb, List.nil_append]
  | x :: xs, h => by
    rw [List.cons_append, allocL, if_neg (h x (by simp)), allocL_hit hb (fun z hz => h z (by simp [hz]))]
    rfl
theorem allocL_miss {size al : Int} : ∀ {xs : List Bk}, (∀ x ∈ xs, ¬ fitsBk size al x) → allocL size al xs = none
  | [], _ => rfl
  | x :: xs, h => by
    rw [allocL, if_neg (h x (by simp)), allocL_miss (fun z hz => h z (by simp [hz]))]
    rfl
/-- A block joined with what lies behind it. -/
def joinL (c : Bk) : List Bk → List Bk
  | [] => [c]
  | d :: ds => if c.pos + c.size = d.pos then ⟨c.pos, c.size + d.size⟩ :: ds else c :: d :: ds
/-- A block among free ones. -/
def giveL (c : Bk) : List Bk → List Bk
  | [] => [c]
  | b :: bs => if b.pos + b.size < c.pos then b :: giveL c bs else if b.pos + b.size = c.pos then joinL ⟨b.pos, b.size + c.size⟩ bs else joinL c (b :: bs)
theorem giveL_pre {c : Bk} {ys : List Bk} : ∀ {xs : List Bk}, (∀ x ∈ xs, x.pos + x.size < c.pos) → giveL c (xs ++ ys) = xs ++ giveL c ys
  | [], _ => rfl
  | x :: xs, h => by
    rw [List.cons_append, giveL, if_pos (h x (by simp)), giveL_pre (fun z hz => h z (by simp [hz]))]
    rfl
/-- A block ahead of what begins behind it. -/
theorem giveL_at {c : Bk} (hc : 0 < c.size) : ∀ {ys : List Bk}, (∀ d, ys.head? = some d → c.pos + c.size ≤ d.pos ∧ 1 ≤ d.size) → giveL c ys = joinL c ys
  | [], _ => rfl
  | d :: ds, h => by
    have := h d rfl
    rw [giveL, if_neg (by omega), if_neg (by omega)]
/-- As the program does it: behind the block a, first with what follows, then with a. -/
def joinA (a c : Bk) (ys : List Bk) : List Bk := if a.pos + a.size = c.pos then joinL ⟨a.pos, a.size + c.size⟩ ys else a :: joinL c ys
theorem joinL_two {a c : Bk} (ys : List Bk) (h : a.pos + a.size = c.pos) : ∃ c2 ds, joinL c ys = c2 :: ds ∧ c2.pos = c.pos ∧ joinL ⟨a.pos, a.size + c.size⟩ ys = ⟨a.pos, a.size + c2.size⟩ :: ds := by
  cases ys with
  | nil => exact ⟨c, [], rfl, rfl, rfl⟩
  | cons d ds =>
    by_cases e : c.pos + c.size = d.pos
    · refine ⟨⟨c.pos, c.size + d.size⟩, ds, by rw [joinL, if_pos e], rfl, ?_⟩
      rw [joinL, if_pos (by simp only; omega)]
      simp only [Int.add_assoc]
    · refine ⟨c, d :: ds, by rw [joinL, if_neg e], rfl, ?_⟩
      rw [joinL, if_neg (by simp only; omega)]
theorem joinL_cons {c : Bk} (ys : List Bk) : ∃ c2 ds, joinL c ys = c2 :: ds ∧ c2.pos = c.pos := by
  cases ys with
  | nil => exact ⟨c, [], rfl, rfl⟩
  | cons d ds =>
    by_cases e : c.pos + c.size = d.pos
    · exact ⟨⟨c.pos, c.size + d.size⟩, ds, by rw [joinL, if_pos e], rfl⟩
    · exact ⟨c, d :: ds, by rw [joinL, if_neg e], rfl⟩
theorem giveL_behind {a c : Bk} {ys : List Bk} (hc : 0 < c.size) (ha : a.pos + a.size ≤ c.pos) (hy : ∀ d, ys.head? = some d → c.pos + c.size ≤ d.pos ∧ 1 ≤ d.size) : giveL c (a :: ys) = joinA a c ys := by
  unfold joinA
  by_cases e : a.pos + a.size = c.pos
  · rw [giveL, if_neg (by omega), if_pos e, if_pos e]
  · rw [giveL, if_pos (by omega), if_neg e, giveL_at hc hy]

theorem okFrom_mem {n last : Int} {bs : List Bk} (h : okFrom n last bs = true) {b : Bk} (hb : b ∈ bs) : 1 ≤ b.size ∧ last < b.pos ∧ b.pos ≤ n ∧ b.size ≤ n - b.pos := by
  obtain ⟨i, hi⟩ := List.getElem?_of_mem hb
  exact okFrom_get h hi
theorem okFrom_lt {n : Int} {y : Bk} {ys : List Bk} : ∀ {last : Int} {xs : List Bk}, okFrom n last (xs ++ y :: ys) = true → ∀ x ∈ xs, x.pos + x.size < y.pos
  | _, [], _, x, hx => by simp at hx
  | last, z :: zs, h, x, hx => by
    rw [List.cons_append] at h
    obtain ⟨h1, h2⟩ := okFrom_last.1 h
    rcases List.mem_cons.1 hx with rfl | hx
    · exact (okFrom_mem h2 (b := y) (by simp)).2.1
    · exact okFrom_lt h2 x hx
theorem okFrom_back {n : Int} {ys : List Bk} : ∀ {last : Int} {xs : List Bk}, okFrom n last (xs ++ ys) = true → ∃ l', last ≤ l' ∧ okFrom n l' ys = true
  | last, [], h => ⟨last, Int.le_refl _, h⟩
  | last, z :: zs, h => by
    rw [List.cons_append] at h
    obtain ⟨h1, h2⟩ := okFrom_last.1 h
    obtain ⟨l', h3, h4⟩ := okFrom_back h2
    exact ⟨l', by omega, h4⟩
/-- No byte of a range is free. -/
def taken (l : List Bk) (p size : Int) : Prop := ∀ b ∈ l, ¬ (b.pos < p + size ∧ p < b.pos + b.size)
/-- What the program looks at. -/
def takenP (xs ys : List Bk) (p size : Int) : Prop := (∀ a, xs.getLast? = some a → a.pos + a.size ≤ p) ∧ (∀ d, ys.head? = some d → p + size ≤ d.pos)
theorem taken_iff {n last p size : Int} (hs : 0 < size) {xs ys : List Bk} (h : okFrom n last (xs ++ ys) = true) (hx : ∀ x ∈ xs, x.pos < p) (hy : ∀ d, ys.head? = some d → p ≤ d.pos) : taken (xs ++ ys) p size ↔ takenP xs ys p size := by
  constructor
  · intro ht
    constructor
    · intro a ha
      have hm := List.mem_of_getLast? ha
      have h1 := ht a (by simp [hm])
      have h2 := hx a hm
      omega
    · intro d hd
      have hm := List.mem_of_head? hd
      have h1 := ht d (by simp [hm])
      have h2 := hy d hd
      have h3 := okFrom_mem h (b := d) (by simp [hm])
      omega
  · rintro ⟨h1, h2⟩ b hb ⟨h3, h4⟩
    rcases List.mem_append.1 hb with hb | hb
    · rcases List.eq_nil_or_concat xs with e | ⟨xs', a, e⟩
      · rw [e] at hb
        simp at hb
      · rw [List.concat_eq_append] at e
        have h5 := h1 a (by rw [e]; simp)
        rw [e] at hb
        rcases List.mem_append.1 hb with hb | hb
        · rw [e, List.append_assoc, List.singleton_append] at h
          have h6 := okFrom_lt h b hb
          have h7 := hx a (by rw [e]; simp)
          omega
        · rw [List.mem_singleton] at hb
          subst hb
          omega
    · cases ys with
      | nil => simp at hb
      | cons d ds =>
        have h5 := h2 d rfl
        rcases List.mem_cons.1 hb with rfl | hb
        · omega
        · obtain ⟨l', _, h6⟩ := okFrom_back h
          obtain ⟨h7, h8⟩ := okFrom_last.1 h6
          have h9 := (okFrom_mem h8 hb).2.1
          omega
/-- The program's way of giving is the model's. -/
def giveP (xs : List Bk) (c : Bk) (ys : List Bk) : List Bk := match xs.getLast? with
  | none => joinL c ys
  | some a => xs.dropLast ++ joinA a c ys
theorem giveP_eq {n last : Int} {xs ys : List Bk} {c : Bk} (hs : 0 < c.size) (h : okFrom n last (xs ++ ys) = true) (hx : ∀ x ∈ xs, x.pos < c.pos) (ht : takenP xs ys c.pos c.size) : giveP xs c ys = giveL c (xs ++ ys) := by
  have hy : ∀ d, ys.head? = some d → c.pos + c.size ≤ d.pos ∧ 1 ≤ d.size := fun d hd => ⟨ht.2 d hd, (okFrom_mem h (b := d) (by simp [List.mem_of_head? hd])).1⟩
  rcases List.eq_nil_or_concat xs with e | ⟨xs', a, e⟩
  · subst e
    rw [List.nil_append, giveL_at hs hy]
    rfl
  · rw [List.concat_eq_append] at e
    subst e
    have h1 : (xs' ++ [a]).getLast? = some a := by simp
    unfold giveP
    rw [h1]
    simp only [List.dropLast_concat]
    rw [List.append_assoc, List.singleton_append] at h ⊢
    have hlt := okFrom_lt h
    have ha := hx a (by simp)
    rw [giveL_pre (fun x hx' => by have := hlt x hx'; omega), giveL_behind hs (ht.1 a h1) hy]
/-- An answer: a memory and a code. -/
def noMe : Me := ⟨⟨#[]⟩, []⟩
noncomputable def memAlloc (x : Me) (size al : Int) : Me × Int × Int :=
  if memOk x = true then (if size < 0 ∨ ¬ (al = 1 ∨ al = 2 ∨ al = 4 ∨ al = 8) then (noMe, 0, 2) else if size = 0 then (x, 0, 0) else match allocL size al x.free with
    | none => (noMe, 0, 4)
    | some r => (⟨x.bytes, r.2⟩, r.1, 0)) else (noMe, 0, 1)
end Go.Proofs.Ytoeofhhmkkpjbaa
