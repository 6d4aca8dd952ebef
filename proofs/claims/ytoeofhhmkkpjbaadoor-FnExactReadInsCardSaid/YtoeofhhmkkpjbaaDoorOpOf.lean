/-
  A mnemonic's opcode: the walks of the program's opOf and the model's l15Op.
-/
import Derived.Test.YtoeofhhmkkpjbaaDoorIns
import Derived.Test.YtoeofhhmkkpjbaaDoorSays
import Derived.Deep.MidRow
namespace Go.Proofs.YtoeofhhmkkpjbaaDoor
open Go.ChangeShapes Go.WideShapes Go.ChangeAt Go.RowKit

/-- v is the opcode of the mnemonic s, or 0. -/
def IsOp (s : ByteArray) (v : Int) : Prop := 0 ≤ v ∧ v ≤ 40 ∧ (v ≠ 0 → opW v = s) ∧ (v = 0 → ∀ k : Nat, 1 ≤ k → k ≤ 40 → opB k ≠ s)
theorem opWs_nodup : opWs.Nodup := by decide +kernel
theorem opB_inj {i j : Nat} (hi : i ≤ 40) (hj : j ≤ 40) (h : opB i = opB j) : i = j := by
  have e := congrArg (fun b : ByteArray => b.data.toList) h
  have li : opWs.length = 41 := rfl
  simp only [opB, List.getD_eq_getElem?_getD, List.getElem?_eq_getElem (show i < opWs.length by omega), List.getElem?_eq_getElem (show j < opWs.length by omega), Option.getD_some] at e
  have hp := List.pairwise_iff_getElem.mp opWs_nodup
  rcases Nat.lt_trichotomy i j with hl | hl | hl
  · exact absurd e (hp i j (by omega) (by omega) hl)
  · exact hl
  · exact absurd e.symm (hp j i (by omega) (by omega) hl)
theorem IsOp.uniq {s : ByteArray} {v : Int} {k : Nat} (h : IsOp s v) (h1 : 1 ≤ k) (h2 : k ≤ 40) (hs : opB k = s) : v = k := by
  obtain ⟨a, b, c, d⟩ := h
  by_cases hv : v = 0
  · exact absurd hs (d hv k h1 h2)
  · obtain ⟨j, rfl⟩ : ∃ j : Nat, v = j := ⟨v.toNat, by omega⟩
    have e := c hv
    rw [opW_at j (by omega) (by omega)] at e
    have := opB_inj (by omega) h2 (e.trans hs.symm)
    omega

def opVals : List Value := (List.range 41).map fun i => .string (opB i)
theorem opVals_len : opVals.length = 41 := by simp [opVals]
theorem opVals_get {i : Nat} (h : i < 41) : opVals[i]? = some (.string (opB i)) := by simp [opVals, h]
theorem rangeOps (w : World) (ht : OpTab w) : w.rangeAt 0 0 opVals := fun j v hv => by
  have hj : j < 41 := by
    have := (List.getElem?_eq_some_iff.1 hv).1
    rw [opVals_len] at this
    exact this
  rw [opVals_get hj] at hv
  cases hv
  rw [Nat.zero_add]
  exact ht j hj
theorem infoOps : (Tryd.prog.info? 71).map (·.size) = some opVals.length := by
  rw [opVals_len]
  kernel_rfl
theorem sizeStrO (W : World) : (sizeOf 9).run Tryd.prog W = .ok 1 W := by kernel_rfl
theorem aggStrO (W : World) : (isAgg 9).run Tryd.prog W = .ok false W := by kernel_rfl
theorem indexOps {k : Nat} (h : k < 41) (W : World) : (Instr.index 71 (.agg opVals.toArray) (.int .i64 (k : Int))).run Tryd.prog W = .ok (.string (opB k)) W := by
  have hk : (0 : Int) ≤ (k : Int) ∧ (k : Int) < ((41 : Nat) : Int) := by omega
  have hv : opVals.toArray[k]? = some (.string (opB k)) := by rw [List.getElem?_toArray]; exact opVals_get h
  have hu := run_underlying (P := Tryd.prog) Tryd.underlying71 W
  simp only [Instr.index, asIntOf, Sem.run_bind, Sem.run_pure, Result.andThen_ok, hu, hk, and_self, if_true, sizeStrO]
  simp only [Int.toNat_natCast, Nat.mul_one, part, Sem.run_bind, aggStrO, Result.andThen_ok]
  simp [hv]

set_option maxRecDepth 100000 in
theorem opOf_any (s : ByteArray) (w : World) (ht : OpTab w) :
    Calls Tryd.prog 55 #[.string s] w fun e w' => ∃ v : Int, e = .returned (.int .i64 v) ∧ IsOp s v ∧ w = w' := by
  have HL := Lib.hid (rangeOps w ht)
  have HI := Lib.hid (fun k (h : k < 41) => indexOps h)
  clear ht
  go_enter Tryd.func55, Tryd.ntmps55
  go_wp2_with (refine wpList_load_mid rfl 71 (.global 0) rfl 0 0 rfl opVals _ HL.out Tryd.underlying71 rfl infoOps ?_)
  go_loop [6] (fun i => ∃ k : Nat, k ≤ 41 ∧ i = .int .i64 k ∧ Hid (∀ j, j < k → opB j ≠ s)) (fun i => 41 - (intOf i).toNat)
  case atStart => exact ⟨0, by omega, rfl, fun j hj => by omega⟩
  case round =>
    obtain ⟨k, hk, rfl, hno⟩ := hrel
    by_cases hlt : k < 41
    · have hx := HI.out k hlt
      have hli : (k : Int) < 41 := by omega
      by_cases he : opB k = s
      · have e0 : ((opB k).toList == s.toList) = true := by rw [he, beq_iff_eq]
        have e1 : (s.toList == (opB k).toList) = true := by rw [he, beq_iff_eq]
        have HE := Lib.hid he
        clear he HI
        go_wp2_with fail
        go_ret
        refine ⟨(k : Int), rfl, ⟨by omega, by omega, fun h => ?_, fun h j h1 h2 e => ?_⟩, rfl⟩
        · rw [opW_at k (by omega) (by omega)]
          exact HE.out
        · have := opB_inj (i := k) (by omega) h2 (HE.out.trans e.symm)
          omega
      · have e0 := text_neM he
        have e1 := text_neM (fun e => he e.symm)
        have HE := Lib.hid he
        clear he HI
        go_wp2_with fail
        go_round
        case rel => exact ⟨k + 1, by omega, by go_num, (fun j hj => by
          by_cases e : j = k
          · subst e
            exact HE.out
          · exact hno.out j (by omega))⟩
        case measure => simp [intOf]; omega
    · obtain rfl : k = 41 := by omega
      clear HI
      go_wp2_with fail
      go_ret
      exact ⟨0, rfl, ⟨by omega, by omega, fun h => absurd rfl h, fun _ j h1 h2 => hno.out j (by omega)⟩, rfl⟩

set_option maxRecDepth 100000 in
theorem l15Op_any (s : ByteArray) (w : World) :
    Calls Tryd.prog 93 #[.string s] w fun e w' => ∃ v : Int, e = .returned (.int .i64 v) ∧ IsOp s v ∧ Below w.heap.size w w' := by
  go_enter Tryd.func93, Tryd.ntmps93
  go_wp2_with fail
  go_loopw [3] (fun i wr => ∃ k : Nat, k ≤ 40 ∧ i = .int .i64 k ∧ Hid (∀ j, j < k → opB (j + 1) ≠ s) ∧ Hid (Below w.heap.size w wr)) (fun i _ => 40 - (intOf i).toNat)
  case atStart => exact ⟨0, by omega, rfl, (fun j hj => by omega), Below.refl _ _⟩
  case round =>
    obtain ⟨k, hk, rfl, hno, HB⟩ := hrel
    have CW := Lib.hid (fun W => l15Words_any W)
    by_cases hlt : k < 40
    · have hli : (k : Int) < 40 := by omega
      have hk0 : (0 : Int) ≤ (k : Int) := by omega
      by_cases he : opB (k + 1) = s
      · have e0 : ((opB (k + 1)).toList == s.toList) = true := by rw [he, beq_iff_eq]
        have HE := Lib.hid he
        clear he
        go_wp2_with (go_at_call 45; (with_reducible refine (CW.out _).mono ?_); first
          | (rintro e w2 ⟨rfl, hb2, hrow⟩; have HB3 := Lib.hid (bnext HB2.out hb2); have hc := hrow k hlt; clear hb2 hrow)
          | (rintro e w1 ⟨rfl, hb1, _⟩; have HB2 := Lib.hid (bnext HB.out hb1); clear hb1))
        go_ret
        refine ⟨(k : Int) + 1, by go_num, ⟨by omega, by omega, fun _ => ?_, fun h => by omega⟩, HB3.out⟩
        have := opW_at (k + 1) (by omega) (by omega)
        rw [show ((k + 1 : Nat) : Int) = (k : Int) + 1 by omega] at this
        rw [this]
        exact HE.out
      · have e0 := text_neM he
        have HE := Lib.hid he
        clear he
        go_wp2_with (go_at_call 45; (with_reducible refine (CW.out _).mono ?_); first
          | (rintro e w2 ⟨rfl, hb2, hrow⟩; have HB3 := Lib.hid (bnext HB2.out hb2); have hc := hrow k hlt; clear hb2 hrow)
          | (rintro e w1 ⟨rfl, hb1, _⟩; have HB2 := Lib.hid (bnext HB.out hb1); clear hb1))
        go_roundw
        case rel => exact ⟨k + 1, by omega, by go_num, (fun j hj => by
          by_cases e : j = k
          · subst e
            exact HE.out
          · exact hno.out j (by omega)), HB3⟩
        case measure => simp [intOf]; omega
    · obtain rfl : k = 40 := by omega
      go_wp2_with (go_at_call 45; (with_reducible refine (CW.out _).mono ?_); rintro e w1 ⟨rfl, hb1, _⟩; have HB2 := Lib.hid (bnext HB.out hb1); clear hb1)
      go_ret
      refine ⟨0, rfl, ⟨by omega, by omega, fun h => absurd rfl h, fun _ j h1 h2 => ?_⟩, HB2.out⟩
      obtain ⟨m, rfl⟩ : ∃ m, j = m + 1 := ⟨j - 1, by omega⟩
      exact hno.out m (by omega)
end Go.Proofs.YtoeofhhmkkpjbaaDoor
