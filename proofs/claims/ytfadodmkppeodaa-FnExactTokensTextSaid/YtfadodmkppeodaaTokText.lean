/-
  The walk of the model's TokensText.
-/
import Derived.Test.YtfadodmkppeodaaTokTextP
namespace Go.Proofs.Ytfadodmkppeodaa
open Go.ChangeShapes Go.WideShapes Go.ChangeAt Go.RowKit Go.Deep

theorem specTokText_any (ts : List Tok) (hl : ts.length ≤ 1048576) (hs : sumSz (txs ts) ≤ 1048576) (A : Option Addr) (ca lo : Nat) (w : World) (h : Toks w lo ts A) :
    Calls Try.prog 45 #[.slice A ts.length ca] w fun e w' => e = .returned (.string (joinT (keptT ts))) ∧ Below w.heap.size w w' := by
  have H := Lib.hid h
  have HS := Lib.hid hs
  clear h hs
  go_enter Try.func45, Try.ntmps45
  go_wp2_with fail
  go_loopw [3, 4, 5] (fun s b i wr => ∃ k : Nat, k ≤ ts.length ∧ i = .int .i64 k ∧ (∃ (S : ByteArray) (v : Bool), s = .string S ∧ b = .bool v ∧ S.size ≤ 2097152 ∧ Hid (S = joinT (keptT (ts.take k)) ∧ (v = false → keptT (ts.take k) = []) ∧ (v = true → keptT (ts.take k) ≠ []))) ∧ Below w.heap.size w wr) (fun _ _ i _ => ts.length - (intOf i).toNat)
  case atStart => exact ⟨0, Nat.zero_le _, rfl, ⟨⟨#[]⟩, false, rfl, rfl, Nat.zero_le _, rfl, fun _ => rfl, fun h => by cases h⟩, Below.refl _ _⟩
  case round =>
    obtain ⟨k, hk, rfl, ⟨S, v, rfl, rfl, hS, hinv⟩, hbel⟩ := hrel
    by_cases hlt : k < ts.length
    · obtain ⟨b, o, t, rfl, _, htk, c0, c1, c2⟩ := (H.out.below hbel).at_ hlt
      have HT := Lib.hid (keptT_take htk)
      have hz : (t.text.size : Int) ≤ 1048576 := by
        have h1 := sumSz_mem (txs_get htk)
        have h2 := HS.out
        omega
      have hsum := sumSz_take_le (txs ts) (k + 1)
      have HZ : Hid ((joinT (keptT (ts.take (k + 1)))).size ≤ 2097152) := Lib.hid (by
        have h1 := joinT_size (ts := ts) (k := k + 1)
        rw [txs_take] at h1
        have h2 := HS.out
        have h3 : (ts.take (k + 1)).length ≤ ts.length := List.length_take_le' _ _
        omega)
      have HB := Lib.hid hbel
      have hli : (k : Int) < (ts.length : Int) := by omega
      clear htk hbel hsum
      by_cases h4 : t.kind = 4
      · have e4 : (t.kind == 4) = true := by rw [beq_iff_eq]; exact h4
        have H4 := Lib.hid h4
        clear h4
        go_wp2_with fail
        go_roundw
        case rel => exact ⟨k + 1, by omega, by go_num, ⟨S, v, rfl, rfl, hS, by have h1 := hinv.out; rw [HT.out, if_pos H4.out, List.append_nil]; exact h1⟩, HB.out⟩
        case measure => simp [intOf]; omega
      · have e4 : (t.kind == 4) = false := by rw [beq_eq_false_iff_ne]; exact h4
        have H4 := Lib.hid h4
        clear h4
        have hn1 : ¬ (9223372036854775807 : Int) < (S.size : Int) + 1 := by omega
        have hn2 : ¬ (9223372036854775807 : Int) < (S.size : Int) + 1 + (t.text.size : Int) := by omega
        have hn3 : ¬ (9223372036854775807 : Int) < (S.size : Int) + (t.text.size : Int) := by omega
        cases v with
        | true =>
          go_wp2_with fail
          go_roundw
          case rel =>
            have hj : (S ++ spB) ++ t.text = joinT (keptT (ts.take (k + 1))) := by rw [HT.out, if_neg H4.out, joinT_snoc _ _ (hinv.out.2.2 rfl), ← hinv.out.1]
            exact ⟨k + 1, by omega, by go_num, ⟨_, true, rfl, rfl, by have h9 := HZ.out; rw [← hj] at h9; exact h9, hj, (fun h => by cases h), fun _ => by rw [HT.out, if_neg H4.out]; simp⟩, HB.out⟩
          case measure => simp [intOf]; omega
        | false =>
          go_wp2_with fail
          go_roundw
          case rel =>
            have hj : S ++ t.text = joinT (keptT (ts.take (k + 1))) := by
              rw [HT.out, if_neg H4.out, hinv.out.1, hinv.out.2.1 rfl, List.nil_append, joinT_one, joinT_nil]
              exact ByteArray.empty_append
            exact ⟨k + 1, by omega, by go_num, ⟨_, true, rfl, rfl, by have h9 := HZ.out; rw [← hj] at h9; exact h9, hj, (fun h => by cases h), fun _ => by rw [HT.out, if_neg H4.out]; simp⟩, HB.out⟩
          case measure => simp [intOf]; omega
    · have hk' : k = ts.length := by omega
      have HB := Lib.hid hbel
      clear hbel
      go_wp2
      go_ret
      refine ⟨ret_string ?_, HB.out⟩
      have e := hinv.out.1
      rw [hk', List.take_length] at e
      exact e
end Go.Proofs.Ytfadodmkppeodaa
