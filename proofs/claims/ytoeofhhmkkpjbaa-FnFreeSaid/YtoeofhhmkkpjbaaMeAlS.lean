/-
  The walk of the model's Alloc; both sides at once.
-/
import Derived.Test.YtoeofhhmkkpjbaaMeAlQ
namespace Go.Proofs.Ytoeofhhmkkpjbaa
open Go.ChangeShapes Go.WideShapes Go.ChangeAt Go.RowKit Go.Deep

theorem allocL_len {s al : Int} : ∀ {l : List Bk} {r : Int × List Bk}, allocL s al l = some r → r.2.length ≤ l.length + 1
  | [], _, h => by simp [allocL] at h
  | b :: bs, r, h => by
    rw [allocL] at h
    split at h
    · injection h with h
      subst h
      have := splitBk_len (upTo b.pos al) s b
      simp only [List.length_append, List.length_cons]
      omega
    · obtain ⟨q, hq, rfl⟩ := Option.map_eq_some_iff.1 h
      have := allocL_len hq
      simp only [List.length_cons]
      omega
theorem implAlloc_any (x : Me) (hT : x.wt ≤ 1048576) (hfin : x.Fin) (R : Option Addr) (c : Nat) (s : Int) (hsx : -9223372036854775808 ≤ s ∧ s ≤ 9223372036854775807) (al : Int) (lo : Nat) (w : World) (h : Me.At w lo x R) :
    Calls Try.prog 15 #[.agg #[.string x.bytes, .slice R x.free.length c], .int .i64 s, .int .i64 al] w (MeAns3 (memAlloc x s al).1 (memAlloc x s al).2.1 (memAlloc x s al).2.2 w) := by
  unfold memAlloc
  by_cases hok : memOk x = true
  · rw [if_pos hok]
    by_cases hs : s < 0
    · rw [if_pos (.inl hs)]
      exact implAl_neg x hT hfin R c s al hok hs lo w h
    · by_cases ha : (al = 1 ∨ al = 2 ∨ al = 4 ∨ al = 8)
      · rw [if_neg (fun e => e.elim hs (fun e => e ha))]
        by_cases h0 : s = 0
        · rw [if_pos h0]
          exact implAl_zero x hT hfin R c s al hok h0 ha lo w h
        · rw [if_neg h0]
          exact implAl_yes x hT hfin R c s al hok (by omega) hsx.2 ha lo w h
      · rw [if_pos (.inr ha)]
        exact implAl_al x hT hfin R c s al hok hs ha lo w h
  · rw [if_neg hok]
    exact implAl_bad x hT hfin R c s al (by simpa using hok) lo w h
theorem pureAlloc_len (x : Me) (hT : x.wt ≤ 1048576) (_hfin : x.Fin) (s al : Int) : (memAlloc x s al).1.wt ≤ 1048576 ∧ (memAlloc x s al).1.free.length ≤ 262144 := by
  unfold memAlloc
  by_cases hok : memOk x = true
  · rw [if_pos hok]
    have h1 := memOk_len hok
    have h2 := (memOk_iff.1 hok).1
    split
    · exact noMe_wt0
    · split
      · exact ⟨hT, by show x.free.length ≤ 262144; omega⟩
      · split
        · exact noMe_wt0
        · rename_i r hr
          have h3 := allocL_len hr
          refine ⟨?_, by show r.2.length ≤ 262144; omega⟩
          show (x.bytes.size : Int) + ((r.2.length : Int) + Bk.wts r.2) ≤ 1048576
          rw [Bk.wts_zero]
          omega
  · rw [if_neg hok]
    exact noMe_wt0
end Go.Proofs.Ytoeofhhmkkpjbaa
