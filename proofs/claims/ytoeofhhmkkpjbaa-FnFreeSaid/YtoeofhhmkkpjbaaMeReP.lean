/-
  Release: what it answers; facts of the list. No walk.
-/
import Derived.Test.YtoeofhhmkkpjbaaMeGiveS
import Derived.Test.YtoeofhhmkkpjbaaChainB
import Derived.Test.YtoeofhhmkkpjbaaMemA
namespace Go.Proofs.Ytoeofhhmkkpjbaa
open Go.ChangeShapes Go.WideShapes Go.ChangeAt Go.RowKit Go.Deep

instance (l : List Bk) (p s : Int) : Decidable (taken l p s) := by unfold taken; infer_instance
/-- What may be given back. -/
def relOk (x : Me) (p s : Int) : Prop := 8 ≤ p ∧ (0 ≤ p ∧ 0 ≤ s ∧ s ≤ (x.bytes.size : Int) - p) ∧ taken x.free p s
instance (x : Me) (p s : Int) : Decidable (relOk x p s) := by unfold relOk; infer_instance
def memRelease (x : Me) (p s : Int) : Me × Int :=
  if memOk x = true then (if s = 0 then (x, 0) else if relOk x p s then (⟨x.bytes, giveL ⟨p, s⟩ x.free⟩, 0) else (noMe, 10)) else (noMe, 1)
theorem ok_sm {x : Me} (h : memOk x = true) : ∀ y ∈ x.free, y.Sm ∧ y.size ≤ 100000 ∧ 1 ≤ y.size ∧ 8 ≤ y.pos := fun y hy => by
  obtain ⟨h1, h2⟩ := memOk_iff.1 h
  have := okFrom_mem h2 hy
  unfold Bk.Sm
  omega
theorem joinL_len (c : Bk) (l : List Bk) : (joinL c l).length ≤ l.length + 1 := by
  cases l with
  | nil => simp [joinL]
  | cons d ds =>
    simp only [joinL]
    split <;> simp
theorem giveL_len (c : Bk) : ∀ l : List Bk, (giveL c l).length ≤ l.length + 1
  | [] => by simp [giveL]
  | d :: ds => by
    have h1 := giveL_len c ds
    have h2 := joinL_len ⟨d.pos, d.size + c.size⟩ ds
    have h3 := joinL_len c (d :: ds)
    unfold giveL
    split
    · simp only [List.length_cons]
      omega
    · split
      · simp only [List.length_cons]
        omega
      · exact h3
theorem rel_pure {tl xs ys : Pls} {g0 g : Nat} {b : Bk} (e : (g0, Bk.mk 0 0) :: tl = xs ++ (g, b) :: ys) {p s n : Int} (hp : 8 ≤ p) (hs : 0 < s) (hok : okFrom n 7 (tl.map Prod.snd) = true) (hx : AllLow (xs ++ [(g, b)]) p) (hy : NextUp ys p) :
    (taken (tl.map Prod.snd) p s ↔ b.pos + b.size ≤ p ∧ ∀ y, ys.head? = some y → p + s ≤ y.2.pos) ∧
    (taken (tl.map Prod.snd) p s → ∀ (b' : Bk) (zs : Pls), b' :: zs.map Prod.snd = joinL b (joinL ⟨p, s⟩ (ys.map Prod.snd)) → ∃ (tl' : Pls) (b0 : Bk), xs ++ (g, b') :: zs = (g0, b0) :: tl' ∧ tl'.map Prod.snd = giveL ⟨p, s⟩ (tl.map Prod.snd)) := by
  have hyd : ∀ d, (ys.map Prod.snd).head? = some d → p ≤ d.pos := fun d hd => by
    cases ys with
    | nil => simp at hd
    | cons y ys =>
      have := hy y rfl
      simp at hd
      subst hd
      exact this
  have hT : (∀ d, (ys.map Prod.snd).head? = some d → p + s ≤ d.pos) ↔ ∀ y, ys.head? = some y → p + s ≤ y.2.pos := by
    cases ys <;> simp
  cases xs with
  | nil =>
    injection e with e1 e2
    injection e1 with e3 e4
    subst e4
    subst e2
    subst e3
    have ht := taken_iff (xs := []) (ys := tl.map Prod.snd) hs (by simpa using hok) (by simp) hyd
    rw [List.nil_append] at ht
    refine ⟨ht.trans ⟨fun h => ⟨by simp only; omega, hT.1 h.2⟩, fun h => ⟨by simp, hT.2 h.2⟩⟩, fun hk b' zs hb => ?_⟩
    have hg := giveP_eq (xs := []) (ys := tl.map Prod.snd) (c := ⟨p, s⟩) hs (by simpa using hok) (by simp) (ht.1 hk)
    rw [List.nil_append] at hg
    refine ⟨zs, b', rfl, ?_⟩
    rw [← hg]
    obtain ⟨c2, ds, h1, h2⟩ := joinL_cons (c := ⟨p, s⟩) (tl.map Prod.snd)
    rw [h1, joinL, if_neg (by simp only at h2 ⊢; omega)] at hb
    injection hb with _ h3
    rw [h3]
    unfold giveP
    simp only [List.getLast?_nil]
    exact h1.symm
  | cons z xs' =>
    rw [List.cons_append] at e
    injection e with e1 e2
    subst e1
    subst e2
    have em : ((xs' ++ (g, b) :: ys).map Prod.snd) = (xs'.map Prod.snd ++ [b]) ++ ys.map Prod.snd := by simp
    rw [em] at hok ⊢
    have hx' : ∀ x ∈ xs'.map Prod.snd ++ [b], x.pos < p := fun x hh => by
      rcases List.mem_append.1 hh with hh | hh
      · obtain ⟨q, hq, rfl⟩ := List.mem_map.1 hh
        exact hx q (by simp [hq])
      · rw [List.mem_singleton] at hh
        subst hh
        exact hx (g, x) (by simp)
    have ht := taken_iff (xs := xs'.map Prod.snd ++ [b]) (ys := ys.map Prod.snd) hs hok hx' hyd
    refine ⟨ht.trans ⟨fun h => ⟨h.1 b (by simp), hT.1 h.2⟩, fun h => ⟨fun a ha => by
      rw [List.getLast?_append, List.getLast?_singleton] at ha
      simp at ha
      subst ha
      exact h.1, hT.2 h.2⟩⟩, fun hk b' zs hb => ?_⟩
    have hg := giveP_eq (xs := xs'.map Prod.snd ++ [b]) (ys := ys.map Prod.snd) (c := ⟨p, s⟩) hs hok hx' (ht.1 hk)
    refine ⟨xs' ++ (g, b') :: zs, _, rfl, ?_⟩
    rw [← hg]
    unfold giveP
    have e5 : (xs'.map Prod.snd ++ [b]).getLast? = some b := by simp
    rw [e5]
    simp only [List.dropLast_concat, List.map_append, List.map_cons]
    rw [hb]
    congr 1
    unfold joinA
    by_cases he : b.pos + b.size = p
    · obtain ⟨c2, ds, h1, h2, h3⟩ := joinL_two (a := b) (c := ⟨p, s⟩) (ys.map Prod.snd) he
      rw [if_pos he, h3, h1, joinL, if_pos (by rw [h2]; exact he)]
    · obtain ⟨c2, ds, h1, h2⟩ := joinL_cons (c := ⟨p, s⟩) (ys.map Prod.snd)
      rw [if_neg he, h1, joinL, if_neg (by rw [h2]; exact he)]
end Go.Proofs.Ytoeofhhmkkpjbaa
