/-
  The walk of the model's GetHex.
-/
import Derived.Test.YthdnklhaagofhaaU8
import Derived.Test.YthdnklhaagofhaaHexRune
import Derived.Test.YthdnklhaagofhaaHexMath
import Derived.Deep.RegionHeld3
import Derived.Deep.AppendLies
import Derived.IntWalk
namespace Go.Proofs.Ythdnklhaagofhaa
open Go.ChangeShapes Go.WideShapes Go.ChangeAt Go.RowKit

/-- The bytes that a text of digits tells; none where it is none. -/
def unhex : List UInt8 → Option (List Int)
  | [] => some []
  | [_] => none
  | a :: b :: t => if 15 < hv (a.toNat : Int) ∨ 15 < hv (b.toNat : Int) then none else (unhex t).map (fun r => (16 * hv (a.toNat : Int) + hv (b.toNat : Int)) :: r)

/-- What both GetHex answer. -/
def ghV : Option (List Int) → Value
  | none => .tuple #[.string ⟨#[]⟩, .bool false]
  | some r => .tuple #[.string (strOfNums r), .bool true]

theorem hv_bd (c : Int) : 0 ≤ hv c ∧ hv c ≤ 16 := by
  unfold hv
  split
  · omega
  · split <;> omega

theorem unhex_odd : ∀ l : List UInt8, l.length % 2 = 1 → unhex l = none
  | [], h => by simp at h
  | [_], _ => rfl
  | a :: b :: t, h => by
    rw [unhex, unhex_odd t (by simp at h; omega)]
    split <;> rfl

theorem unhex_step (l : List UInt8) (j : Nat) (h : j + 1 < l.length) :
    unhex (l.drop j) = if 15 < hv ((l[j]'(by omega)).toNat : Int) ∨ 15 < hv ((l[j + 1]'h).toNat : Int) then none
      else (unhex (l.drop (j + 2))).map (fun r => (16 * hv ((l[j]'(by omega)).toNat : Int) + hv ((l[j + 1]'h).toNat : Int)) :: r) := by
  rw [List.drop_eq_getElem_cons (show j < l.length by omega), List.drop_eq_getElem_cons (show j + 1 < l.length from h)]
  rfl

/-- What is left, behind what is done. -/
def done (xs : List Int) (o : Option (List Int)) : Option (List Int) := o.map (fun r => xs ++ r)
theorem done_step (xs : List Int) (v : Int) (o : Option (List Int)) : done xs (o.map (fun r => v :: r)) = done (xs ++ [v]) o := by
  cases o <;> simp [done]

theorem unhex_at (s : ByteArray) (j : Nat) (h : j + 1 < s.size) :
    unhex (s.data.toList.drop j) = if 15 < hv ((s[j]'(by omega)).toNat : Int) ∨ 15 < hv ((s[j + 1]'h).toNat : Int) then none
      else (unhex (s.data.toList.drop (j + 2))).map (fun r => (16 * hv ((s[j]'(by omega)).toNat : Int) + hv ((s[j + 1]'h).toNat : Int)) :: r) :=
  unhex_step s.data.toList j (by simpa using h)

theorem own_snoc1 (l : List Int) (a : Int) : l.map (Value.int .u8) ++ [Value.int .u8 a] = (l ++ [a]).map (Value.int .u8) := by simp

set_option maxRecDepth 100000 in
theorem or16 : ∀ x y : Fin 16, bits .or .u8 (16 * (x.val : Int)) (y.val : Int) = 16 * (x.val : Int) + (y.val : Int) := by decide
theorem or_at (x y : Int) (h0 : 0 ≤ x) (h1 : x ≤ 15) (h2 : 0 ≤ y) (h3 : y ≤ 15) : bits .or .u8 (16 * x) y = 16 * x + y := by
  have := or16 ⟨x.toNat, by omega⟩ ⟨y.toNat, by omega⟩
  simpa [Int.toNat_of_nonneg h0, Int.toNat_of_nonneg h2] using this
theorem shl_at (x : Int) (h0 : 0 ≤ x) (h1 : x ≤ 15) : ∀ W, (Op.shift .shl .u8 x .u64 4).run Try.prog W = .ok (.int .u8 (16 * x)) W := by
  intro W
  rw [shift_shl_any _ _ _ _ (by omega)]
  congr 2
  simp [IntKind.wrap, IntKind.signed, IntKind.bits]
  omega

theorem index_at (s : ByteArray) (j : Nat) (h : j < s.size) : ∀ W, (Instr.index 9 (.string s) (.int .i64 (j : Int))).run Try.prog W = .ok (.int .u8 ((s[j]'h).toNat : Int)) W := by
  intro W
  rw [run_index_string W _ _ _ _ Try.underlying9, dif_pos ⟨by omega, by omega⟩]
  rfl
theorem index_at1 (s : ByteArray) (j : Nat) (h : j + 1 < s.size) : ∀ W, (Instr.index 9 (.string s) (.int .i64 ((j : Int) + 1))).run Try.prog W = .ok (.int .u8 ((s[j + 1]'h).toNat : Int)) W := index_at s (j + 1) h

end Go.Proofs.Ythdnklhaagofhaa
