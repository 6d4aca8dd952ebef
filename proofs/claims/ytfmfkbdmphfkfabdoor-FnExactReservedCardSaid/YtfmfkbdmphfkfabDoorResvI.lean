/-
  The walk of the program's kindOf and Reserved.
-/
import Derived.Test.YtfmfkbdmphfkfabDoorResvT
import Derived.Deep.MidRow
namespace Go.Proofs.YtfmfkbdmphfkfabDoor
open Go.ChangeShapes Go.WideShapes Go.ChangeAt Go.RowKit

/-- The string is one of the words. -/
def InWords (s : ByteArray) : Prop := ∃ i, 1 ≤ i ∧ i < 24 ∧ wordB i = s
def wordVals : List Value := (List.range 24).map fun i => .string (wordB i)
theorem wordVals_len : wordVals.length = 24 := by simp [wordVals]
theorem wordVals_get {i : Nat} (h : i < 24) : wordVals[i]? = some (.string (wordB i)) := by simp [wordVals, h]
theorem word_some : ∀ i, i < 24 → 1 ≤ i → (words.getD i []) ≠ [] := by decide
theorem word_ne {i : Nat} (h : i < 24) (h1 : 1 ≤ i) : wordB i ≠ wordB 0 := fun e => by
  have e2 := congrArg (fun b : ByteArray => b.data.toList) e
  exact word_some i h h1 e2
theorem text_ne {a b : ByteArray} (h : a ≠ b) : (a.toList == b.toList) = false := by
  rw [beq_eq_false_iff_ne]
  intro e
  apply h
  apply ByteArray.ext
  apply Array.toList_inj.mp
  rw [← ByteArray.toList_eq, ← ByteArray.toList_eq]
  exact e
theorem text_eq {a b : ByteArray} (h : a = b) : (a.toList == b.toList) = true := by rw [h, beq_iff_eq]

theorem rangeWords (w : World) (ht : Table w) : w.rangeAt 0 0 wordVals := fun j v hv => by
  have hj : j < 24 := by
    have := (List.getElem?_eq_some_iff.1 hv).1
    rw [wordVals_len] at this
    exact this
  rw [wordVals_get hj] at hv
  cases hv
  rw [Nat.zero_add]
  exact ht j hj
theorem infoWords : (Tryd.prog.info? 60).map (·.size) = some wordVals.length := by
  rw [wordVals_len]
  kernel_rfl
theorem sizeStr (W : World) : (sizeOf 9).run Tryd.prog W = .ok 1 W := by kernel_rfl
theorem aggStr (W : World) : (isAgg 9).run Tryd.prog W = .ok false W := by kernel_rfl
theorem indexWords {k : Nat} (h : k < 24) (W : World) : (Instr.index 60 (.agg wordVals.toArray) (.int .i64 (k : Int))).run Tryd.prog W = .ok (.string (wordB k)) W := by
  have hk : (0 : Int) ≤ (k : Int) ∧ (k : Int) < ((24 : Nat) : Int) := by omega
  have hv : wordVals.toArray[k]? = some (.string (wordB k)) := by rw [List.getElem?_toArray]; exact wordVals_get h
  have hu := run_underlying (P := Tryd.prog) Tryd.underlying60 W
  simp only [Instr.index, asIntOf, Sem.run_bind, Sem.run_pure, Result.andThen_ok, hu, hk, and_self, if_true, sizeStr]
  simp only [Int.toNat_natCast, Nat.mul_one, part, Sem.run_bind, aggStr, Result.andThen_ok]
  simp [hv]

set_option maxRecDepth 100000 in
theorem kindOf_any (s : ByteArray) (w : World) (ht : Table w) :
    Calls Tryd.prog 17 #[.string s] w fun e w' => ∃ v : Int, e = .returned (.int .i64 v) ∧ 0 ≤ v ∧ v ≤ 24 ∧ (v ≠ 0 ↔ InWords s) ∧ w = w' := by
  have HL := Lib.hid (rangeWords w ht)
  have HI := Lib.hid (fun k (h : k < 24) => indexWords h)
  clear ht
  go_enter Tryd.func17, Tryd.ntmps17
  go_wp2_with (refine wpList_load_mid rfl 60 (.global 0) rfl 0 0 rfl wordVals _ HL.out Tryd.underlying60 rfl infoWords ?_)
  go_loop [6] (fun i => ∃ k : Nat, k ≤ 24 ∧ i = .int .i64 k ∧ Hid (∀ j, j < k → wordB j ≠ s)) (fun i => 24 - (intOf i).toNat)
  case atStart => exact ⟨0, by omega, rfl, fun j hj => by omega⟩
  case round =>
    obtain ⟨k, hk, rfl, hno⟩ := hrel
    by_cases hlt : k < 24
    · have hix := HI.out k hlt
      by_cases he : wordB k = s
      · have e1 := text_eq he.symm
        have HE := Lib.hid he
        clear he
        go_wp2_with fail
        go_ret
        refine ⟨k, rfl, by omega, by omega, ⟨fun h => ⟨k, by omega, hlt, HE.out⟩, fun h e => ?_⟩, rfl⟩
        obtain ⟨i, h1, h2, h3⟩ := h
        have hk0 : k = 0 := by omega
        have h4 := HE.out
        rw [hk0] at h4
        exact word_ne h2 h1 (h3.trans h4.symm)
      · have e1 := text_ne (fun h : s = wordB k => he h.symm)
        have HE := Lib.hid he
        have hli : (k : Int) < 24 := by omega
        clear he
        go_wp2_with fail
        go_round
        case rel => exact ⟨k + 1, by omega, by go_num, fun j hj => by
          by_cases e : j = k
          · subst e
            exact HE.out
          · exact hno.out j (by omega)⟩
        case measure => simp [intOf]; omega
    · have hk' : k = 24 := by omega
      go_wp2
      go_ret
      refine ⟨0, rfl, by omega, by omega, ⟨fun h => absurd rfl h, fun ⟨i, h1, h2, h3⟩ => ?_⟩, rfl⟩
      exact absurd h3 (hno.out i (by omega))
end Go.Proofs.YtfmfkbdmphfkfabDoor
