/-
  Pure facts on what transcoding and encoding answer: transcoding back gives the bytes again, decoding what was encoded gives the text. No program is named but by imports.
-/
import Derived.Test.YthdnklhaagofhaaDoorTranscodeLaw
import Derived.Test.YthdnklhaagofhaaDoorUnitsOfLaw
namespace Go.Proofs.YthdnklhaagofhaaDoor
open Go.ChangeShapes Go.WideShapes Go.ChangeAt Go.RowKit Go.Deep

theorem decP_in {enc : Int} {b c : ByteArray} (h : (decP enc b c).2 = 0) : TxtOk c ∧ encV enc c = (b, 0) := by
  unfold decP at h
  by_cases k : TxtOk c ∧ encV enc c = (b, 0)
  · exact k
  · rw [if_neg k] at h
    cases h
theorem tran_back {p q : Int} {b x : ByteArray} (h : tranA p q b = (x, 0)) : ∃ s, tranA q p x = (b, 0) ∧ decA q x = (s, 0) ∧ decA p b = (s, 0) := by
  unfold tranA at h
  by_cases hpq : (1 ≤ p ∧ p ≤ 3) ∧ (1 ≤ q ∧ q ≤ 3)
  · rw [if_pos hpq] at h
    by_cases h0 : (decP p b (candS p b)).2 = 0
    · rw [if_pos h0] at h
      obtain ⟨h1, h2⟩ := decP_in h0
      have e1 : decP p b (candS p b) = (candS p b, 0) := decP_yes h1 h2
      rw [e1] at h
      have h3 : encV q (candS p b) = (x, 0) := h
      have c2 := candS_back q x (candS p b) h1 h3
      have e2 : decP q x (candS q x) = (candS p b, 0) := by rw [c2]; exact decP_yes h1 h3
      refine ⟨candS p b, ?_, ?_, ?_⟩
      · unfold tranA
        rw [if_pos ⟨hpq.2, hpq.1⟩, e2, if_pos rfl]
        exact h2
      · unfold decA
        rw [if_pos hpq.2, e2]
      · unfold decA
        rw [if_pos hpq.1, e1]
    · rw [if_neg h0] at h
      exact absurd (congrArg Prod.snd h) h0
  · rw [if_neg hpq] at h
    cases congrArg Prod.snd h
theorem pairB_even (n : Int) : (pairB n).size % 2 = 0 := by
  unfold pairB
  split
  · rw [strOfNums_size, fixl_length]
  · rw [ByteArray.size_append, strOfNums_size, fixl_length, strOfNums_size, fixl_length]
theorem wideB_even (P : List Int) : (wideB P).size % 2 = 0 := by
  have h : ∀ (P : List Int) (r : ByteArray), r.size % 2 = 0 → (P.foldl (fun r n => r ++ pairB n) r).size % 2 = 0 := by
    intro P
    induction P with
    | nil => intro r hr; exact hr
    | cons n ns ih =>
      intro r hr
      rw [List.foldl_cons]
      refine ih _ ?_
      have h2 := pairB_even n
      rw [ByteArray.size_append]
      omega
  exact h P ByteArray.empty rfl
theorem enc_back {enc : Int} {s b : ByteArray} (h : encA enc s = (b, 0)) : (enc = 1 ∨ enc = 2 ∨ enc = 3) ∧ TxtOk s ∧ decA enc b = (s, 0) ∧ (enc = 2 → b.size % 2 = 0) := by
  have hi := encA_in (congrArg Prod.snd h)
  have hr : 1 ≤ enc ∧ enc ≤ 3 := by omega
  unfold encA at h
  by_cases hk : (1 ≤ enc ∧ enc ≤ 3) ∧ TxtOk s
  · rw [if_pos hk] at h
    refine ⟨hi, hk.2, ?_, ?_⟩
    · unfold decA
      rw [if_pos hr, candS_back enc b s hk.2 h]
      exact decP_yes hk.2 h
    · rintro rfl
      unfold encV at h
      rw [if_neg (by decide), if_pos rfl] at h
      have e : wideB (ptsOf s) = b := congrArg Prod.fst h
      rw [← e]
      exact wideB_even _
  · rw [if_neg hk] at h
    cases congrArg Prod.snd h
end Go.Proofs.YthdnklhaagofhaaDoor
