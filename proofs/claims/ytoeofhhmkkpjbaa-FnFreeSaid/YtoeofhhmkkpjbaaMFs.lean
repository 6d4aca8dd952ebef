/-
  FreeTk, MeSet, MeInv, FreeSt: in one text.
-/
import Derived.Test.YtoeofhhmkkpjbaaBkOwn
import Derived.Test.YtoeofhhmkkpjbaaMeAlQ
import Derived.Test.YtoeofhhmkkpjbaaMemA
import Derived.Test.YtoeofhhmkkpjbaaMeReP
import Derived.Test.YtoeofhhmkkpjbaaMeToOwn
import Derived.Test.YtoeofhhmkkpjbaaMeAlS
import Derived.Test.YtoeofhhmkkpjbaaMeReI
namespace Go.Proofs.Ytoeofhhmkkpjbaa
open Go.ChangeShapes Go.WideShapes Go.ChangeAt Go.RowKit Go.Deep

set_option maxRecDepth 100000 in
/-- One block behind a row; the row lies in its elder block or in a new one. -/
theorem app1t {W : World} {base : Nat} {xs : List Bk} {R : Option Addr} {n c : Nat} (h : OwnBk W base xs R n c) (hb : base ≤ W.heap.size) (hn : n + 1 ≤ 1048576) (d : Bk) (ty : TypeId) :
    ∃ v' w', (Builtin.append_ #[36, 36] ty #[.slice R n c, .slice (some ⟨W.heap.size, 0, none⟩) 1 1]).run Try.prog (W.alloc (.cells #[.int .i64 d.pos, .int .i64 d.size] 44)) = .ok v' w' ∧ ∃ (R' : Option Addr) (c' : Nat), v' = .slice R' (n + 1) c' ∧ OwnBk w' base (xs ++ [d]) R' (n + 1) c' ∧ (W.alloc (.cells #[.int .i64 d.pos, .int .i64 d.size] 44)).grownBy w' (Value.slice R n c).ownBlock ∧ ((Value.slice R' (n + 1) c').ownBlock = (Value.slice R n c).ownBlock ∨ (Value.slice R' (n + 1) c').ownBlock = some (W.heap.size + 1)) := by
  obtain ⟨i0, hi, hz0, hz1, hz2⟩ := info_parts infoBlk2
  have h' := h.keep (below1 W (.cells #[.int .i64 d.pos, .int .i64 d.size] 44))
  obtain ⟨hl, ho⟩ := h'
  obtain ⟨v', w', hr, ho', hg, _, hwh⟩ := run_append_own_at (P := Try.prog) (W.alloc (.cells #[.int .i64 d.pos, .int .i64 d.size] 44)) base 36 ty 44 i0 _ 2 16 Try.underlying36 hi hz0 hz1 hz2 rfl (by decide) (.slice R n c) n (bkVals xs) ho ⟨W.heap.size, 0, none⟩ 1 1 (bkVals [d]) (bkVals_len [d]) (World.news_of_block (cs := #[.int .i64 d.pos, .int .i64 d.size]) (t := 44) (fr := (0, 0)) (heap_alloc_new W _)) (fun u hu => by
      rw [bkVals_nums] at hu
      obtain ⟨x, _, rfl⟩ := List.mem_map.1 hu
      rfl) (by unfold maxLen; omega) (by omega) (by simp; omega)
  obtain ⟨R', c', rfl⟩ := formB ho'
  refine ⟨_, w', hr, R', c', rfl, ⟨by rw [List.length_append, hl]; rfl, by rw [bkVals_append]; exact ho'⟩, hg, ?_⟩
  simpa using hwh
end Go.Proofs.Ytoeofhhmkkpjbaa

namespace Go.Proofs.Ytoeofhhmkkpjbaa

/-- A byte lies in one of the blocks. -/
def cov (l : List Bk) (q : Int) : Prop := ∃ b ∈ l, b.pos ≤ q ∧ q < b.pos + b.size
theorem cov_nil (q : Int) : ¬ cov [] q := by
  rintro ⟨b, hb, _⟩
  simp at hb
theorem cov_cons (b : Bk) (bs : List Bk) (q : Int) : cov (b :: bs) q ↔ (b.pos ≤ q ∧ q < b.pos + b.size) ∨ cov bs q := by
  unfold cov
  simp
theorem cov_append (xs ys : List Bk) (q : Int) : cov (xs ++ ys) q ↔ cov xs q ∨ cov ys q := by
  unfold cov
  constructor
  · rintro ⟨b, hb, h⟩
    rcases List.mem_append.1 hb with hb | hb
    · exact .inl ⟨b, hb, h⟩
    · exact .inr ⟨b, hb, h⟩
  · rintro (⟨b, hb, h⟩ | ⟨b, hb, h⟩)
    · exact ⟨b, List.mem_append.2 (.inl hb), h⟩
    · exact ⟨b, List.mem_append.2 (.inr hb), h⟩
theorem cov_from {n last : Int} {l : List Bk} {q : Int} (h : okFrom n last l = true) (hq : cov l q) : last < q ∧ q < n := by
  obtain ⟨b, hb, h1, h2⟩ := hq
  have := okFrom_mem h hb
  omega
/-- Two right rows of one set are the same. -/
theorem okFrom_eq {n : Int} : ∀ {last last' : Int} {l l' : List Bk}, okFrom n last l = true → okFrom n last' l' = true → (∀ q, cov l q ↔ cov l' q) → l = l'
  | _, _, [], [], _, _, _ => rfl
  | _, _, [], c :: cs, _, h', e => by
    obtain ⟨h1, _⟩ := okFrom_last.1 h'
    exact absurd ((e c.pos).2 ((cov_cons _ _ _).2 (.inl ⟨Int.le_refl _, by omega⟩))) (cov_nil _)
  | _, _, b :: bs, [], h, _, e => by
    obtain ⟨h1, _⟩ := okFrom_last.1 h
    exact absurd ((e b.pos).1 ((cov_cons _ _ _).2 (.inl ⟨Int.le_refl _, by omega⟩))) (cov_nil _)
  | _, _, b :: bs, c :: cs, h, h', e => by
    obtain ⟨h1, h2⟩ := okFrom_last.1 h
    obtain ⟨h3, h4⟩ := okFrom_last.1 h'
    have p1 : c.pos ≤ b.pos := by
      rcases (cov_cons _ _ _).1 ((e b.pos).1 ((cov_cons _ _ _).2 (.inl ⟨Int.le_refl _, by omega⟩))) with k | k
      · exact k.1
      · have := cov_from h4 k
        omega
    have p2 : b.pos ≤ c.pos := by
      rcases (cov_cons _ _ _).1 ((e c.pos).2 ((cov_cons _ _ _).2 (.inl ⟨Int.le_refl _, by omega⟩))) with k | k
      · exact k.1
      · have := cov_from h2 k
        omega
    have s1 : c.size ≤ b.size := by
      rcases Int.lt_or_le b.size c.size with k | k
      · rcases (cov_cons _ _ _).1 ((e (b.pos + b.size)).2 ((cov_cons _ _ _).2 (.inl ⟨by omega, by omega⟩))) with j | j
        · omega
        · have := cov_from h2 j
          omega
      · exact k
    have s2 : b.size ≤ c.size := by
      rcases Int.lt_or_le c.size b.size with k | k
      · rcases (cov_cons _ _ _).1 ((e (c.pos + c.size)).1 ((cov_cons _ _ _).2 (.inl ⟨by omega, by omega⟩))) with j | j
        · omega
        · have := cov_from h4 j
          omega
      · exact k
    have hbc : b = c := by
      cases b
      cases c
      simp only at p1 p2 s1 s2
      rw [Int.le_antisymm p2 p1, Int.le_antisymm s2 s1]
    subst hbc
    rw [okFrom_eq h2 h4 fun q => ?_]
    constructor
    · intro k
      have := cov_from h2 k
      rcases (cov_cons _ _ _).1 ((e q).1 ((cov_cons _ _ _).2 (.inr k))) with j | j
      · omega
      · exact j
    · intro k
      have := cov_from h4 k
      rcases (cov_cons _ _ _).1 ((e q).2 ((cov_cons _ _ _).2 (.inr k))) with j | j
      · omega
      · exact j
theorem cov_one (c : Bk) (q : Int) : cov [c] q ↔ c.pos ≤ q ∧ q < c.pos + c.size := by
  rw [cov_cons]
  exact ⟨fun h => h.elim id fun k => absurd k (cov_nil q), .inl⟩
theorem joinL_ok {n : Int} {c : Bk} (hc : 1 ≤ c.size) (hn : c.pos + c.size ≤ n) {last last' : Int} {l : List Bk} (h : okFrom n last' l = true) (hl : last < c.pos) (hd : ∀ d, l.head? = some d → c.pos + c.size ≤ d.pos) :
    okFrom n last (joinL c l) = true ∧ ∀ q, cov (joinL c l) q ↔ cov l q ∨ (c.pos ≤ q ∧ q < c.pos + c.size) := by
  cases l with
  | nil =>
    refine ⟨okFrom_last.2 ⟨⟨hc, hl, by omega, by omega⟩, rfl⟩, fun q => ?_⟩
    rw [joinL, cov_one]
    exact ⟨.inr, fun k => k.elim (fun k => absurd k (cov_nil q)) id⟩
  | cons d ds =>
    have hd := hd d rfl
    obtain ⟨h1, h2⟩ := okFrom_last.1 h
    rw [joinL]
    by_cases e : c.pos + c.size = d.pos
    · rw [if_pos e]
      refine ⟨okFrom_last.2 ⟨⟨by simp only; omega, hl, by simp only; omega, by simp only; omega⟩, ?_⟩, fun q => ?_⟩
      · have e2 : c.pos + (c.size + d.size) = d.pos + d.size := by omega
        simp only [e2]
        exact h2
      · rw [cov_cons, cov_cons]
        simp only
        constructor
        · rintro (⟨k1, k2⟩ | k)
          · rcases Int.lt_or_le q (c.pos + c.size) with k3 | k3
            · exact .inr ⟨k1, k3⟩
            · exact .inl (.inl ⟨by omega, by omega⟩)
          · exact .inl (.inr k)
        · rintro ((⟨k1, k2⟩ | k) | ⟨k1, k2⟩)
          · exact .inl ⟨by omega, by omega⟩
          · exact .inr k
          · exact .inl ⟨by omega, by omega⟩
    · rw [if_neg e]
      refine ⟨okFrom_last.2 ⟨⟨hc, hl, by omega, by omega⟩, okFrom_last.2 ⟨⟨h1.1, by omega, h1.2.2.1, h1.2.2.2⟩, h2⟩⟩, fun q => ?_⟩
      rw [cov_cons]
      exact Or.comm
theorem giveL_ok {n : Int} {c : Bk} (hc : 1 ≤ c.size) (hn : c.pos + c.size ≤ n) : ∀ {last : Int} {l : List Bk}, okFrom n last l = true → last < c.pos → taken l c.pos c.size →
    okFrom n last (giveL c l) = true ∧ ∀ q, cov (giveL c l) q ↔ cov l q ∨ (c.pos ≤ q ∧ q < c.pos + c.size)
  | last, [], _, hl, _ => by
    refine ⟨okFrom_last.2 ⟨⟨hc, hl, by omega, by omega⟩, rfl⟩, fun q => ?_⟩
    rw [giveL, cov_one]
    exact ⟨.inr, fun k => k.elim (fun k => absurd k (cov_nil q)) id⟩
  | last, b :: bs, h, hl, ht => by
    obtain ⟨h1, h2⟩ := okFrom_last.1 h
    have hb := ht b (by simp)
    rw [giveL]
    by_cases e1 : b.pos + b.size < c.pos
    · rw [if_pos e1]
      obtain ⟨i1, i2⟩ := giveL_ok hc hn h2 e1 fun x hx => ht x (by simp [hx])
      refine ⟨okFrom_last.2 ⟨h1, i1⟩, fun q => ?_⟩
      rw [cov_cons, cov_cons, i2]
      exact or_assoc.symm
    · rw [if_neg e1]
      by_cases e2 : b.pos + b.size = c.pos
      · rw [if_pos e2]
        obtain ⟨i1, i2⟩ := joinL_ok (c := ⟨b.pos, b.size + c.size⟩) (n := n) (last := last) (by simp only; omega) (by simp only; omega) h2 (by simp only; omega) (fun d hd => by
          have hm := List.mem_of_head? hd
          have k1 := ht d (by simp [hm])
          have k2 := okFrom_mem h2 hm
          simp only
          omega)
        refine ⟨i1, fun q => ?_⟩
        rw [i2, cov_cons]
        simp only
        constructor
        · rintro (k | ⟨k1, k2⟩)
          · exact .inl (.inr k)
          · rcases Int.lt_or_le q (b.pos + b.size) with k3 | k3
            · exact .inl (.inl ⟨k1, k3⟩)
            · exact .inr ⟨by omega, by omega⟩
        · rintro ((⟨k1, k2⟩ | k) | ⟨k1, k2⟩)
          · exact .inr ⟨by omega, by omega⟩
          · exact .inl k
          · exact .inr ⟨by omega, by omega⟩
      · rw [if_neg e2]
        exact joinL_ok hc hn h hl fun d hd => by
          simp only [List.head?_cons, Option.some.injEq] at hd
          subst hd
          omega
theorem upTo_ge8 (x a : Int) (ha : 1 ≤ a) : x ≤ upTo x a ∧ upTo x a % a = 0 := by
  unfold upTo
  have h1 := Int.emod_add_mul_ediv (x + a - 1) a
  have h2 := Int.emod_lt_of_pos (x + a - 1) (show 0 < a by omega)
  rw [Int.mul_comm] at h1
  exact ⟨by omega, Int.mul_emod_left _ _⟩
theorem allocL_ok {n s al : Int} (hs : 0 < s) (hal : 1 ≤ al) : ∀ {last : Int} {l : List Bk} {p : Int} {l' : List Bk}, okFrom n last l = true → allocL s al l = some (p, l') →
    okFrom n last l' = true ∧ last < p ∧ p + s ≤ n ∧ p % al = 0 ∧ (∀ q, p ≤ q → q < p + s → cov l q) ∧ (∀ q, cov l' q ↔ cov l q ∧ ¬ (p ≤ q ∧ q < p + s))
  | _, [], _, _, _, h => by
    rw [allocL] at h
    cases h
  | last, b :: bs, p, l', h, ha => by
    obtain ⟨h1, h2⟩ := okFrom_last.1 h
    obtain ⟨u1, u2⟩ := upTo_ge8 b.pos al hal
    rw [allocL] at ha
    by_cases hf : fitsBk s al b
    · rw [if_pos hf] at ha
      unfold fitsBk at hf
      generalize upTo b.pos al = u at *
      injection ha with ha
      injection ha with e1 e2
      subst e1
      subst e2
      have tail : okFrom n (u + s + (b.pos + b.size - u - s)) bs = true := by
        rw [show u + s + (b.pos + b.size - u - s) = b.pos + b.size by omega]
        exact h2
      have low : ∀ m, m ≤ b.pos + b.size → okFrom n m bs = true := fun m hm => by
        cases bs with
        | nil => rfl
        | cons d ds =>
          obtain ⟨k1, k2⟩ := okFrom_last.1 h2
          exact okFrom_last.2 ⟨⟨k1.1, by omega, k1.2.2⟩, k2⟩
      refine ⟨?_, by omega, by omega, u2, fun q q1 q2 => (cov_cons _ _ _).2 (.inl ⟨by omega, by omega⟩), fun q => ?_⟩
      · unfold splitBk
        by_cases c1 : b.pos < u
        · rw [if_pos c1]
          by_cases c2 : 0 < b.pos + b.size - u - s
          · rw [if_pos c2]
            exact okFrom_last.2 ⟨⟨by simp only; omega, by simp only; omega, by simp only; omega, by simp only; omega⟩, okFrom_last.2 ⟨⟨by simp only; omega, by simp only; omega, by simp only; omega, by simp only; omega⟩, tail⟩⟩
          · rw [if_neg c2]
            exact okFrom_last.2 ⟨⟨by simp only; omega, by simp only; omega, by simp only; omega, by simp only; omega⟩, low _ (by simp only; omega)⟩
        · rw [if_neg c1]
          by_cases c2 : 0 < b.pos + b.size - u - s
          · rw [if_pos c2]
            exact okFrom_last.2 ⟨⟨by simp only; omega, by simp only; omega, by simp only; omega, by simp only; omega⟩, tail⟩
          · rw [if_neg c2]
            exact low _ (by omega)
      · have split : cov (splitBk u s b) q ↔ (b.pos ≤ q ∧ q < b.pos + b.size) ∧ ¬ (u ≤ q ∧ q < u + s) := by
          unfold splitBk
          rw [cov_append]
          by_cases c1 : b.pos < u
          · rw [if_pos c1, cov_one]
            by_cases c2 : 0 < b.pos + b.size - u - s
            · rw [if_pos c2, cov_one]
              simp only
              omega
            · rw [if_neg c2]
              simp only [cov_nil, or_false]
              omega
          · rw [if_neg c1]
            by_cases c2 : 0 < b.pos + b.size - u - s
            · rw [if_pos c2, cov_one]
              simp only [cov_nil, false_or]
              omega
            · rw [if_neg c2]
              simp only [cov_nil, or_false, false_iff]
              omega
        rw [cov_append, split, cov_cons]
        constructor
        · rintro (⟨k1, k2⟩ | k)
          · exact ⟨.inl k1, k2⟩
          · have := cov_from h2 k
            exact ⟨.inr k, by omega⟩
        · rintro ⟨k1 | k1, k2⟩
          · exact .inl ⟨k1, k2⟩
          · exact .inr k1
    · rw [if_neg hf] at ha
      cases ht : allocL s al bs with
      | none =>
        rw [ht] at ha
        cases ha
      | some r =>
        rw [ht] at ha
        injection ha with ha
        injection ha with e1 e2
        subst e1
        subst e2
        obtain ⟨p', l''⟩ := r
        obtain ⟨i1, i2, i3, i4, i5, i6⟩ := allocL_ok hs hal h2 ht
        simp only at *
        refine ⟨okFrom_last.2 ⟨h1, i1⟩, by omega, i3, i4, fun q q1 q2 => (cov_cons _ _ _).2 (.inr (i5 q q1 q2)), fun q => ?_⟩
        rw [cov_cons, cov_cons, i6]
        constructor
        · rintro (k | ⟨k1, k2⟩)
          · exact ⟨.inl k, by omega⟩
          · exact ⟨.inr k1, k2⟩
        · rintro ⟨k1 | k1, k2⟩
          · exact .inl k1
          · exact .inr ⟨k1, k2⟩
end Go.Proofs.Ytoeofhhmkkpjbaa

namespace Go.Proofs.Ytoeofhhmkkpjbaa

def Bk.dj (a b : Bk) : Prop := a.pos + a.size ≤ b.pos ∨ b.pos + b.size ≤ a.pos
/-- The free blocks F and the taken ranges tk part the bytes from 8 to n. -/
structure FreeInv (n : Int) (F tk : List Bk) : Prop where
  ok : okFrom n 7 F = true
  inn : ∀ t ∈ tk, 1 ≤ t.size ∧ 8 ≤ t.pos ∧ t.pos + t.size ≤ n
  out : ∀ t ∈ tk, ∀ q, t.pos ≤ q → q < t.pos + t.size → ¬ cov F q
  dj : tk.Pairwise Bk.dj
  all : ∀ q, 8 ≤ q → q < n → cov F q ∨ cov tk q
theorem FreeInv.give {n : Int} {F xs ys : List Bk} {t : Bk} (h : FreeInv n F (xs ++ t :: ys)) : taken F t.pos t.size ∧ FreeInv n (giveL t F) (xs ++ ys) := by
  have ht : t ∈ xs ++ t :: ys := by simp
  have hi := h.inn t ht
  have hk : taken F t.pos t.size := fun b hb hc => by
    have hb2 := okFrom_mem h.ok hb
    rcases Int.lt_or_le b.pos t.pos with k | k
    · exact h.out t ht t.pos (Int.le_refl _) (by omega) ⟨b, hb, by omega, by omega⟩
    · exact h.out t ht b.pos k (by omega) ⟨b, hb, Int.le_refl _, by omega⟩
  obtain ⟨g1, g2⟩ := giveL_ok hi.1 hi.2.2 h.ok (by omega) hk
  have hmem : ∀ x, x ∈ xs ++ ys → x ∈ xs ++ t :: ys := fun x hx => by
    rcases List.mem_append.1 hx with k | k
    · simp [k]
    · simp [k]
  have hdj : ∀ x, x ∈ xs ++ ys → Bk.dj x t := by
    have hp := h.dj
    rw [List.pairwise_append] at hp
    obtain ⟨_, p2, p3⟩ := hp
    rw [List.pairwise_cons] at p2
    intro x hx
    rcases List.mem_append.1 hx with k | k
    · exact p3 x k t (by simp)
    · exact (p2.1 x k).symm
  refine ⟨hk, g1, fun x hx => h.inn x (hmem x hx), fun x hx q q1 q2 hc => ?_, h.dj.sublist (List.Sublist.append_left (List.sublist_cons_self _ _) _), fun q q1 q2 => ?_⟩
  · rcases (g2 q).1 hc with k | ⟨k1, k2⟩
    · exact h.out x (hmem x hx) q q1 q2 k
    · have := hdj x hx
      unfold Bk.dj at this
      omega
  · rw [g2]
    rcases h.all q q1 q2 with k | k
    · exact .inl (.inl k)
    · rw [cov_append, cov_cons] at k
      rcases k with k | k | k
      · exact .inr ((cov_append _ _ _).2 (.inl k))
      · exact .inl (.inr k)
      · exact .inr ((cov_append _ _ _).2 (.inr k))
theorem FreeInv.take {n : Int} {F tk F' : List Bk} {s al p : Int} (h : FreeInv n F tk) (hs : 0 < s) (hal : 1 ≤ al) (ha : allocL s al F = some (p, F')) :
    8 ≤ p ∧ p + s ≤ n ∧ p % al = 0 ∧ (∀ t ∈ tk, ¬ (p < t.pos + t.size ∧ t.pos < p + s)) ∧ FreeInv n F' (tk ++ [⟨p, s⟩]) := by
  obtain ⟨a1, a2, a3, a4, a5, a6⟩ := allocL_ok hs hal h.ok ha
  have hno : ∀ t ∈ tk, ¬ (p < t.pos + t.size ∧ t.pos < p + s) := fun t ht hc => by
    have hi := h.inn t ht
    rcases Int.lt_or_le p t.pos with k | k
    · exact h.out t ht t.pos (Int.le_refl _) (by omega) (a5 _ (by omega) (by omega))
    · exact h.out t ht p k (by omega) (a5 _ (Int.le_refl _) (by omega))
  refine ⟨by omega, a3, a4, hno, a1, fun t ht => ?_, fun t ht q q1 q2 hc => ?_, ?_, fun q q1 q2 => ?_⟩
  · rcases List.mem_append.1 ht with k | k
    · exact h.inn t k
    · rw [List.mem_singleton] at k
      subst k
      exact ⟨by simp only; omega, by simp only; omega, by simp only; omega⟩
  · obtain ⟨c1, c2⟩ := (a6 q).1 hc
    rcases List.mem_append.1 ht with k | k
    · exact h.out t k q q1 q2 c1
    · rw [List.mem_singleton] at k
      subst k
      exact c2 ⟨q1, q2⟩
  · rw [List.pairwise_append]
    refine ⟨h.dj, by simp, fun x hx y hy => ?_⟩
    rw [List.mem_singleton] at hy
    subst hy
    have := hno x hx
    unfold Bk.dj
    simp only
    omega
  · rcases h.all q q1 q2 with k | k
    · by_cases hq : p ≤ q ∧ q < p + s
      · exact .inr ((cov_append _ _ _).2 (.inr ((cov_one _ _).2 hq)))
      · exact .inl ((a6 q).2 ⟨k, hq⟩)
    · exact .inr ((cov_append _ _ _).2 (.inl k))
/-- A new memory's free blocks. -/
def newF (n : Int) : List Bk := if 8 < n then [⟨8, n - 8⟩] else []
theorem newF_ok (n : Int) : okFrom n 7 (newF n) = true ∧ ∀ q, cov (newF n) q ↔ 8 ≤ q ∧ q < n := by
  unfold newF
  by_cases h : 8 < n
  · rw [if_pos h]
    refine ⟨okFrom_last.2 ⟨⟨by simp only; omega, by simp only; omega, by simp only; omega, by simp only; omega⟩, rfl⟩, fun q => ?_⟩
    rw [cov_one]
    simp only
    omega
  · rw [if_neg h]
    refine ⟨rfl, fun q => ⟨fun k => absurd k (cov_nil q), fun k => by omega⟩⟩
theorem FreeInv.new (n : Int) : FreeInv n (newF n) [] :=
  ⟨(newF_ok n).1, by simp, by simp, .nil, fun q q1 q2 => .inl (((newF_ok n).2 q).2 ⟨q1, q2⟩)⟩
theorem FreeInv.end_ {n : Int} {F : List Bk} (h : FreeInv n F []) : F = newF n :=
  okFrom_eq h.ok (newF_ok n).1 fun q => by
    rw [(newF_ok n).2]
    constructor
    · intro k
      have := cov_from h.ok k
      omega
    · intro k
      exact (h.all q k.1 k.2).elim id fun j => absurd j (cov_nil q)
theorem FreeInv.release {n : Int} {x : Me} {xs ys : List Bk} {t : Bk} (hb : (x.bytes.size : Int) = n) (hn : n ≤ 4096) (h : FreeInv n x.free (xs ++ t :: ys)) :
    memRelease x t.pos t.size = (⟨x.bytes, giveL t x.free⟩, 0) := by
  have hi := h.inn t (by simp)
  unfold memRelease
  rw [if_pos (memOk_iff.2 ⟨by omega, by rw [hb]; exact h.ok⟩), if_neg (by omega), if_pos ⟨by omega, ⟨by omega, by omega, by omega⟩, h.give.1⟩]
theorem FreeInv.alloc {n : Int} {x : Me} {tk : List Bk} {s al : Int} (hb : (x.bytes.size : Int) = n) (hn : n ≤ 4096) (h : FreeInv n x.free tk) (hs : 0 < s) (ha : al = 1 ∨ al = 2 ∨ al = 4 ∨ al = 8) :
    (memAlloc x s al).2.2 ≠ 0 ∨ ∃ (p : Int) (F' : List Bk), memAlloc x s al = (⟨x.bytes, F'⟩, p, 0) ∧ allocL s al x.free = some (p, F') := by
  unfold memAlloc
  rw [if_pos (memOk_iff.2 ⟨by omega, by rw [hb]; exact h.ok⟩), if_neg (by omega), if_neg (by omega)]
  cases e : allocL s al x.free with
  | none => exact .inl (by simp)
  | some r => exact .inr ⟨r.1, r.2, rfl, rfl⟩
end Go.Proofs.Ytoeofhhmkkpjbaa

namespace Go.Proofs.Ytoeofhhmkkpjbaa
open Go.ChangeShapes Go.WideShapes Go.ChangeAt Go.RowKit Go.Deep

/-- A row of blocks in a block of memory that is there. -/
def RowIn (W : World) (L : List Bk) (R : Option Addr) (g : Nat) : Prop := Nums W (bkNums L) R g ∧ g < W.heap.size
theorem RowIn.same {W W' : World} {L : List Bk} {R : Option Addr} {g : Nat} (h : RowIn W L R g) (e : W'.heap[g]? = W.heap[g]?) (hs : W.heap.size ≤ W'.heap.size) : RowIn W' L R g := ⟨h.1.same fun _ => e, Nat.lt_of_lt_of_le h.2 hs⟩
theorem RowIn.below {W W' : World} {L : List Bk} {R : Option Addr} {g : Nat} (h : RowIn W L R g) (hb : Below W.heap.size W W') : RowIn W' L R g := h.same (hb.block g h.2) hb.size

structure FS (w0 : World) (G : Nat) (Z : ByteArray) (N0 : List Bk) (Rw : Option Addr) (cw gw : Nat) (F tk : List Bk) (Rm : Option Addr) (cm gm : Nat) (Rt : Option Addr) (ct : Nat) (W : World) : Prop where
  bel : Below w0.heap.size w0 W
  lo : w0.heap.size ≤ G
  m0 : W.cell? ⟨G, 0, none⟩ = some (.string Z)
  m1 : W.cell? ⟨G, 1, none⟩ = some (.slice Rm F.length cm)
  f0 : W.frozen? ⟨G, 0, none⟩ = false
  f1 : W.frozen? ⟨G, 1, none⟩ = false
  q0 : W.cell? ⟨G + 1, 0, none⟩ = some (.string Z)
  q1 : W.cell? ⟨G + 1, 1, none⟩ = some (.slice Rw N0.length cw)
  rm : RowIn W F Rm gm
  rw_ : RowIn W N0 Rw gw
  nm : gm ≠ G
  nw : gw ≠ G
  own : OwnBk W w0.heap.size tk Rt tk.length ct
  sep : ∀ k, (Value.slice Rt tk.length ct).ownBlock = some k → k ≠ G ∧ k ≠ G + 1 ∧ k ≠ gm ∧ k ≠ gw ∧ k < W.heap.size
section
variable {w0 : World} {G : Nat} {Z : ByteArray} {N0 : List Bk} {Rw : Option Addr} {cw gw : Nat} {F tk : List Bk} {Rm : Option Addr} {cm gm : Nat} {Rt : Option Addr} {ct : Nat} {W W' : World}
theorem FS.lt (h : FS w0 G Z N0 Rw cw gw F tk Rm cm gm Rt ct W) : G + 1 < W.heap.size := World.block_lt_of_cell? W _ h.q0
theorem FS.below (h : FS w0 G Z N0 Rw cw gw F tk Rm cm gm Rt ct W) (hb : Below W.heap.size W W') : FS w0 G Z N0 Rw cw gw F tk Rm cm gm Rt ct W' :=
  have hl := h.lt
  ⟨bchain h.bel hb h.bel.size, h.lo, keepCell hb h.m0, keepCell hb h.m1, (hb.frozen (by dsimp only; omega)).trans h.f0, (hb.frozen (by dsimp only; omega)).trans h.f1, keepCell hb h.q0, keepCell hb h.q1, h.rm.below hb, h.rw_.below hb, h.nm, h.nw, h.own.keep hb, fun k hk => by
    obtain ⟨a, b, c, d, e⟩ := h.sep k hk
    exact ⟨a, b, c, d, Nat.lt_of_lt_of_le e hb.size⟩⟩
/-- The memory's box is given another memory of the same bytes. -/
theorem FS.store (h : FS w0 G Z N0 Rw cw gw F tk Rm cm gm Rt ct W) {F' : List Bk} {R' : Option Addr} {g' : Nat} (c' : Nat) (hr : RowIn W F' R' g') (hg : g' ≠ G) (hs : ∀ k, (Value.slice Rt tk.length ct).ownBlock = some k → k ≠ g') :
    FS w0 G Z N0 Rw cw gw F' tk R' c' g' Rt ct ((W.setCell ⟨G, 0, none⟩ (.string Z)).setCell ⟨G, 1, none⟩ (.slice R' F'.length c')) := by
  have hl := h.lt
  have hbl : Below G W ((W.setCell ⟨G, 0, none⟩ (.string Z)).setCell ⟨G, 1, none⟩ (.slice R' F'.length c')) := ((Below.refl G W).setCell (p := ⟨G, 0, none⟩) (Nat.le_refl _) _).setCell (p := ⟨G, 1, none⟩) (Nat.le_refl _) _
  have hk : ∀ k, k ≠ G → ((W.setCell ⟨G, 0, none⟩ (.string Z)).setCell ⟨G, 1, none⟩ (.slice R' F'.length c')).heap[k]? = W.heap[k]? := fun k e => by
    rw [Below.heap_setCell _ _ _ _ (fun x => e x), Below.heap_setCell _ _ _ _ (fun x => e x)]
  have hz : ((W.setCell ⟨G, 0, none⟩ (.string Z)).setCell ⟨G, 1, none⟩ (.slice R' F'.length c')).heap.size = W.heap.size := by simp
  have hc : ∀ x : Addr, x.block ≠ G → ((W.setCell ⟨G, 0, none⟩ (.string Z)).setCell ⟨G, 1, none⟩ (.slice R' F'.length c')).cell? x = W.cell? x := fun x e => by simp only [World.cell?, hk _ e]
  refine ⟨h.bel.trans (hbl.mono h.lo), h.lo, ?_, ?_, ?_, ?_, (hc _ (by simp)).trans h.q0, (hc _ (by simp)).trans h.q1, hr.same (hk _ hg) (by omega), h.rw_.same (hk _ h.nw) (by omega), hg, h.nw, ?_, fun k hk' => ?_⟩
  · rw [World.cell?_setCell_other _ _ _ _ (by simp), World.cell?_setCell_same _ _ _ h.m0]
  · rw [World.cell?_setCell_same _ _ _ (by rw [World.cell?_setCell_other _ _ _ _ (by simp)]; exact h.m1)]
  · simpa using h.f0
  · simpa using h.f1
  · obtain ⟨o1, o2, o3⟩ := h.own
    refine ⟨o1, o2, ?_⟩
    rcases o3 with e | ⟨g, cap, cur, hv, hg', hh, r⟩
    · exact Or.inl e
    · exact Or.inr ⟨g, cap, cur, hv, hg', (hk g (h.sep g (by rw [hv]; rfl)).1).trans hh, r⟩
  · obtain ⟨a, b, _, d, e⟩ := h.sep k hk'
    exact ⟨a, b, hs k hk', d, by omega⟩
/-- The taken ranges' row is another one; only its own block has turned. -/
theorem FS.take (h : FS w0 G Z N0 Rw cw gw F tk Rm cm gm Rt ct W) {tk' : List Bk} {Rt' : Option Addr} {ct' : Nat} (hch : ∀ k, k < W.heap.size → (Value.slice Rt tk.length ct).ownBlock ≠ some k → W'.heap[k]? = W.heap[k]?) (hb : Below w0.heap.size W W') (hz : W.heap.size ≤ W'.heap.size)
    (ho : OwnBk W' w0.heap.size tk' Rt' tk'.length ct') (hs : ∀ k, (Value.slice Rt' tk'.length ct').ownBlock = some k → ((Value.slice Rt tk.length ct).ownBlock = some k ∨ W.heap.size ≤ k) ∧ k < W'.heap.size) :
    FS w0 G Z N0 Rw cw gw F tk' Rm cm gm Rt' ct' W' := by
  have hl := h.lt
  have nG : (Value.slice Rt tk.length ct).ownBlock ≠ some G := fun e => (h.sep _ e).1 rfl
  have nG1 : (Value.slice Rt tk.length ct).ownBlock ≠ some (G + 1) := fun e => (h.sep _ e).2.1 rfl
  have ngm : (Value.slice Rt tk.length ct).ownBlock ≠ some gm := fun e => (h.sep _ e).2.2.1 rfl
  have ngw : (Value.slice Rt tk.length ct).ownBlock ≠ some gw := fun e => (h.sep _ e).2.2.2.1 rfl
  have eG := hch G (by omega) nG
  have eG1 := hch (G + 1) hl nG1
  have c0 : ∀ o, W'.cell? ⟨G, o, none⟩ = W.cell? ⟨G, o, none⟩ := fun o => by simp only [World.cell?, eG]
  have c1 : ∀ o, W'.cell? ⟨G + 1, o, none⟩ = W.cell? ⟨G + 1, o, none⟩ := fun o => by simp only [World.cell?, eG1]
  have fz : ∀ o, W'.frozen? ⟨G, o, none⟩ = W.frozen? ⟨G, o, none⟩ := fun o => by simp only [World.frozen?, eG]
  refine ⟨h.bel.trans hb, h.lo, (c0 _).trans h.m0, (c0 _).trans h.m1, (fz _).trans h.f0, (fz _).trans h.f1, (c1 _).trans h.q0, (c1 _).trans h.q1, h.rm.same (hch _ h.rm.2 ngm) hz, h.rw_.same (hch _ h.rw_.2 ngw) hz, h.nm, h.nw, ho, fun k hk => ?_⟩
  obtain ⟨k1, k2⟩ := hs k hk
  rcases k1 with k1 | k1
  · obtain ⟨a, b, c, d, _⟩ := h.sep k k1
    exact ⟨a, b, c, d, k2⟩
  · have := h.rm.2
    have := h.rw_.2
    exact ⟨by omega, by omega, by omega, by omega, k2⟩
end
theorem FreeInv.me {n : Int} {F tk : List Bk} {Z : ByteArray} (h : FreeInv n F tk) (hz : (Z.size : Int) = n) (hn : n ≤ 4096) : (⟨Z, F⟩ : Me).wt ≤ 1048576 ∧ (⟨Z, F⟩ : Me).Fin := by
  have hok : memOk ⟨Z, F⟩ = true := memOk_iff.2 ⟨by show (Z.size : Int) ≤ 4096; omega, by show okFrom (Z.size : Int) 7 F = true; rw [hz]; exact h.ok⟩
  have hl : F.length ≤ 4096 := memOk_len hok
  refine ⟨?_, ?_, ?_, fun y hy => ?_⟩
  · show (Z.size : Int) + ((F.length : Int) + Bk.wts F) ≤ 1048576
    rw [Bk.wts_zero]
    omega
  · show Z.size ≤ maxLen
    unfold maxLen
    omega
  · show F.length ≤ maxLen
    unfold maxLen
    omega
  · have := okFrom_mem h.ok hy
    unfold Bk.Fin
    omega
theorem rel_step {n : Int} {F xs ys : List Bk} {t : Bk} {Z : ByteArray} (h : FreeInv n F (xs ++ t :: ys)) (hz : (Z.size : Int) = n) (hn : n ≤ 4096) (R : Option Addr) (c : Nat) (w : World) (hat : Bks w 0 F R) :
    Calls Try.prog 14 #[.agg #[.string Z, .slice R F.length c], .int .i64 t.pos, .int .i64 t.size] w (MeAns2 ⟨Z, giveL t F⟩ 0 w) := by
  obtain ⟨h1, h2⟩ := h.me hz hn
  have hi := h.inn t (by simp)
  have hc := implRelease_any ⟨Z, F⟩ h1 h2 R c t.pos (by omega) t.size 0 w hat
  have e : memRelease ⟨Z, F⟩ t.pos t.size = (⟨Z, giveL t F⟩, 0) := FreeInv.release (x := ⟨Z, F⟩) hz hn h
  rw [e] at hc
  exact hc
theorem alloc_step {n : Int} {F tk : List Bk} {Z : ByteArray} {s al : Int} (h : FreeInv n F tk) (hz : (Z.size : Int) = n) (hn : n ≤ 4096) (hs : 0 < s) (hs2 : s ≤ 1000) (ha : al = 1 ∨ al = 2 ∨ al = 4 ∨ al = 8) :
    ∃ (M : Me) (p k : Int), (∀ (R : Option Addr) (c : Nat) (w : World), Bks w 0 F R → Calls Try.prog 15 #[.agg #[.string Z, .slice R F.length c], .int .i64 s, .int .i64 al] w (MeAns3 M p k w)) ∧
      (k ≠ 0 ∨ k = 0 ∧ ∃ F', M = ⟨Z, F'⟩ ∧ allocL s al F = some (p, F')) := by
  obtain ⟨h1, h2⟩ := h.me hz hn
  refine ⟨(memAlloc ⟨Z, F⟩ s al).1, (memAlloc ⟨Z, F⟩ s al).2.1, (memAlloc ⟨Z, F⟩ s al).2.2, fun R c w hat => implAlloc_any ⟨Z, F⟩ h1 h2 R c s (by omega) al 0 w hat, ?_⟩
  rcases FreeInv.alloc (x := ⟨Z, F⟩) hz hn h hs ha with e | ⟨p, F', e, hl⟩
  · exact .inl e
  · rw [e]
    exact .inr ⟨rfl, F', rfl, hl⟩
theorem OwnBk.cap8 {w : World} {base : Nat} {xs : List Bk} {R : Option Addr} {n c : Nat} (h : OwnBk w base xs R n c) : n ≤ c := by
  rcases h.2.2 with ⟨e, _⟩ | ⟨g, cap, cur, e, _, _, hnc, _⟩
  · injection e with _ e2 e3
    omega
  · injection e with _ _ e3
    omega
theorem Bks.take {w : World} {xs : List Bk} {R : Option Addr} (h : Bks w 0 xs R) (k : Nat) : Bks w 0 (xs.take k) R := fun hp => by
  rw [List.length_take] at hp
  obtain ⟨b, o, e, h1, h2⟩ := h (by omega)
  refine ⟨b, o, e, h1, fun i x hx => h2 i x ?_⟩
  rw [List.getElem?_take] at hx
  split at hx
  · exact hx
  · cases hx
/-- One row of blocks behind another that lies in new memory. -/
theorem appStep {W0 W : World} {xs ys : List Bk} {R R2 : Option Addr} {c c2 n m : Nat} (hb : Below W0.heap.size W0 W) (ho : OwnBk W W0.heap.size xs R n c) (h2 : Bks W 0 ys R2) (hm : ys.length = m) (hn : n + m ≤ 1048576) (ty : TypeId) :
    ∃ v' w', (Builtin.append_ #[36, 36] ty #[.slice R n c, .slice R2 m c2]).run Try.prog W = .ok v' w' ∧ ∃ (R' : Option Addr) (c' : Nat), v' = .slice R' (n + m) c' ∧ OwnBk w' W0.heap.size (xs ++ ys) R' (n + m) c' ∧ Below W0.heap.size W0 w' := by
  subst hm
  obtain ⟨v', w', h1, R', c', h3, h4, h5⟩ := appBk ho h2 hb.size hn ty (c2 := c2)
  have hB : Below W0.heap.size W w' := (Below.refl _ W).grown h5 hb.size ho.blk
  exact ⟨v', w', h1, R', c', h3, h4, hb.trans hB⟩
end Go.Proofs.Ytoeofhhmkkpjbaa

