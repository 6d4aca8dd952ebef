/-
  UTF-8, the pure part: the model's reading of one code point, beside the decoder. No program is named.
-/
import Derived.Test.YthdnklhaagofhaaDoorBase
import Derived.Lib.TrimUEq
import Derived.Lib.ValidU
import Derived.Lib.TrimU
namespace Go.Proofs.YthdnklhaagofhaaDoor

/-- How many bytes a leading byte asks. -/
def manyB (b0 : Nat) : Nat := if 240 ≤ b0 then 4 else if 224 ≤ b0 then 3 else if 192 ≤ b0 then 2 else 1
/-- The number that the bytes tell. -/
def numB (b0 b1 b2 b3 : Nat) : Nat :=
  if 240 ≤ b0 then (b0 - 240) * 262144 + b1 % 64 * 4096 + b2 % 64 * 64 + b3 % 64
  else if 224 ≤ b0 then (b0 - 224) * 4096 + b1 % 64 * 64 + b2 % 64
  else if 192 ≤ b0 then (b0 - 192) * 64 + b1 % 64 else b0
/-- A code point. -/
def chr (n : Nat) : Prop := n ≤ 55295 ∨ (57344 ≤ n ∧ n ≤ 1114111)
/-- A number's bytes. -/
def encB (n : Nat) : List Nat :=
  if n < 128 then [n] else if n < 2048 then [192 + n / 64, 128 + n % 64]
  else if n < 65536 then [224 + n / 4096, 128 + n / 64 % 64, 128 + n % 64]
  else [240 + n / 262144, 128 + n / 4096 % 64, 128 + n / 64 % 64, 128 + n % 64]
/-- Do the bytes begin with a code point, told in its shortest form? -/
def ptOk (len b0 b1 b2 b3 : Nat) : Prop := manyB b0 ≤ len ∧ chr (numB b0 b1 b2 b3) ∧ encB (numB b0 b1 b2 b3) = [b0, b1, b2, b3].take (manyB b0)

set_option maxHeartbeats 4000000 in
theorem ptOk_iff (len b0 b1 b2 b3 : Nat) (hl : 1 ≤ len) (h0 : b0 < 256) (h1 : b1 < 256) (h2 : b2 < 256) (_h3 : b3 < 256) :
    (ptOk len b0 b1 b2 b3 → Lib.decodeN len b0 b1 b2 b3 = (numB b0 b1 b2 b3, manyB b0) ∧ ¬ (numB b0 b1 b2 b3 = 65533 ∧ manyB b0 = 1)) ∧
    (¬ ptOk len b0 b1 b2 b3 → Lib.decodeN len b0 b1 b2 b3 = (65533, 1)) := by
  unfold ptOk
  by_cases k4 : 240 ≤ b0
  · have hm : manyB b0 = 4 := by unfold manyB; rw [if_pos k4]
    have hn : numB b0 b1 b2 b3 = (b0 - 240) * 262144 + b1 % 64 * 4096 + b2 % 64 * 64 + b3 % 64 := by unfold numB; rw [if_pos k4]
    rw [hm, hn]
    unfold Lib.decodeN chr encB
    constructor
    · rintro ⟨a1, a2, a3⟩
      rw [if_neg (by omega), if_neg (by omega), if_neg (by omega)]
      split at a3
      · simp at a3
      · split at a3
        · simp at a3
        · split at a3
          · simp at a3
          · simp only [List.take_succ_cons, List.take_zero, List.cons.injEq, and_true] at a3
            rw [if_pos ⟨by omega, ⟨by omega, by omega⟩, ⟨by omega, by omega⟩, by omega, by omega⟩, if_pos ⟨by omega, by omega⟩]
            exact ⟨by rw [show b0 % 8 = b0 - 240 by omega], by omega⟩
    · intro hno
      rw [if_neg (by omega), if_neg (by omega), if_neg (by omega)]
      split
      · rename_i hc
        split
        · rename_i hd
          exfalso
          apply hno
          obtain ⟨c1, ⟨c2, c3⟩, ⟨c4, c5⟩, c6, c7⟩ := hc
          have e0 : b0 % 8 = b0 - 240 := by omega
          rw [e0] at hd
          refine ⟨by omega, by omega, ?_⟩
          rw [if_neg (by omega), if_neg (by omega), if_neg (by omega)]
          simp only [List.take_succ_cons, List.take_zero, List.cons.injEq, and_true]
          omega
        · rfl
      · rfl
  · by_cases k3 : 224 ≤ b0
    · have hm : manyB b0 = 3 := by unfold manyB; rw [if_neg k4, if_pos k3]
      have hn : numB b0 b1 b2 b3 = (b0 - 224) * 4096 + b1 % 64 * 64 + b2 % 64 := by unfold numB; rw [if_neg k4, if_pos k3]
      rw [hm, hn]
      unfold Lib.decodeN chr encB
      constructor
      · rintro ⟨a1, a2, a3⟩
        rw [if_neg (by omega), if_neg (by omega)]
        split at a3
        · simp at a3
        · split at a3
          · simp at a3
          · split at a3
            · simp only [List.take_succ_cons, List.take_zero, List.cons.injEq, and_true] at a3
              rw [if_pos ⟨by omega, ⟨by omega, by omega⟩, by omega, by omega⟩, if_pos ⟨by omega, by omega⟩]
              exact ⟨by rw [show b0 % 16 = b0 - 224 by omega], by omega⟩
            · simp at a3
      · intro hno
        rw [if_neg (by omega), if_neg (by omega)]
        split
        · rename_i hc
          split
          · rename_i hd
            exfalso
            apply hno
            obtain ⟨c1, ⟨c2, c3⟩, c4, c5⟩ := hc
            have e0 : b0 % 16 = b0 - 224 := by omega
            rw [e0] at hd
            refine ⟨by omega, by omega, ?_⟩
            rw [if_neg (by omega), if_neg (by omega), if_pos (by omega)]
            simp only [List.take_succ_cons, List.take_zero, List.cons.injEq, and_true]
            omega
          · rfl
        · rw [if_neg (by omega)]
    · by_cases k2 : 192 ≤ b0
      · have hm : manyB b0 = 2 := by unfold manyB; rw [if_neg k4, if_neg k3, if_pos k2]
        have hn : numB b0 b1 b2 b3 = (b0 - 192) * 64 + b1 % 64 := by unfold numB; rw [if_neg k4, if_neg k3, if_pos k2]
        rw [hm, hn]
        unfold Lib.decodeN chr encB
        constructor
        · rintro ⟨a1, a2, a3⟩
          rw [if_neg (by omega)]
          split at a3
          · simp at a3
          · split at a3
            · simp only [List.take_succ_cons, List.take_zero, List.cons.injEq, and_true] at a3
              rw [if_pos ⟨by omega, by omega, by omega⟩, if_pos (by omega)]
              exact ⟨by rw [show b0 % 32 = b0 - 192 by omega], by omega⟩
            · split at a3 <;> simp at a3
        · intro hno
          rw [if_neg (by omega)]
          split
          · rename_i hc
            split
            · rename_i hd
              exfalso
              apply hno
              obtain ⟨c1, c2, c3⟩ := hc
              have e0 : b0 % 32 = b0 - 192 := by omega
              rw [e0] at hd
              refine ⟨by omega, by omega, ?_⟩
              rw [if_neg (by omega), if_pos (by omega)]
              simp only [List.take_succ_cons, List.take_zero, List.cons.injEq, and_true]
              omega
            · rfl
          · rw [if_neg (by omega), if_neg (by omega)]
      · have hm : manyB b0 = 1 := by unfold manyB; rw [if_neg k4, if_neg k3, if_neg k2]
        have hn : numB b0 b1 b2 b3 = b0 := by unfold numB; rw [if_neg k4, if_neg k3, if_neg k2]
        rw [hm, hn]
        unfold Lib.decodeN chr encB
        constructor
        · rintro ⟨a1, a2, a3⟩
          split at a3
          · rename_i hlt
            rw [if_pos hlt]
            exact ⟨rfl, by omega⟩
          · split at a3
            · simp at a3
            · split at a3 <;> simp at a3
        · intro hno
          have hge : ¬ b0 < 128 := by
            intro hlt
            apply hno
            refine ⟨by omega, by omega, ?_⟩
            rw [if_pos hlt]
            rfl
          rw [if_neg hge, if_neg (by omega), if_neg (by omega), if_neg (by omega)]
end Go.Proofs.YthdnklhaagofhaaDoor
