/-
  The walks of both NumRange; the table of the ranges is a hypothesis on the world.
-/
import Derived.Test.YtifchfecfkdjlaaGreatDoorBase
import Derived.Lib.LaidTab
import Derived.OpenShut
import Derived.ChangeSame
namespace Go.Proofs.YtifchfecfkdjlaaGreatDoor
open Go.ChangeShapes Go.WideShapes Go.ChangeAt Go.RowKit

/-- The ranges, at the numbers of their kinds. -/
def ranges : List (Int × Int) := [(0, 0), (0, 0), (0, 0), (0, 255), (-128, 127), (0, 65535), (-32768, 32767), (0, 4294967295), (-2147483648, 2147483647), (-9223372036854775808, 9223372036854775807)]
/-- What the row's list gives: the table's cells hold the ranges. -/
def RTable (w : World) : Prop := ∀ i a b, ranges[i]? = some (a, b) → w.cell? ⟨0, 2 * i, none⟩ = some (.int .i64 a) ∧ w.cell? ⟨0, 2 * i + 1, none⟩ = some (.int .i64 b)

theorem RTable.keep {w w' : World} (h : RTable w) (hb : Below w.heap.size w w') : RTable w' := fun i a b hi => ⟨keepCell hb (h i a b hi).1, keepCell hb (h i a b hi).2⟩

theorem gNR : Tryz.prog.globalNamed "loop.example/g00901/impl.numRanges" = some 0 := by kernel_rfl
theorem gNRType : (Tryz.prog.globals[0]?).map (·.type) = some 98 := by kernel_rfl
theorem cellsNR : Tryz.prog.cellsOf 97 = 2 := by kernel_rfl
theorem cellsI64 : Tryz.prog.cellsOf 2 = 1 := by kernel_rfl
theorem nrData : (Rows.laid_loop_example_g00901_impl_numRanges : DataW Unit) = .agg (ranges.map fun x => .agg [.lit (.int .i64 x.1), .lit (.int .i64 x.2)]) := by kernel_rfl

theorem ownDrewN {B : Nat} {a w : World} (h : Below B a w) (n : Nat) : Below B a (w.drewN n) := ⟨h.os, h.tape, h.output, h.size, h.block⟩

/-- What both NumRange answer. -/
def nrV (k : Int) : Int × Int × Bool := if 3 ≤ k ∧ k ≤ 9 then ((ranges.getD k.toNat (0, 0)).1, (ranges.getD k.toNat (0, 0)).2, true) else (0, 0, false)

theorem implNR_out (k : Int) (h : k < 3 ∨ 9 < k) (w : World) :
    Calls Tryz.prog 50 #[.int .i64 k] w fun e w' => e = .returned (.tuple #[.int .i64 0, .int .i64 0, .bool false]) ∧ Below w.heap.size w w' := by
  by_cases h1 : k < 3
  · go_enter Tryz.func50, Tryz.ntmps50
    go_wp2
    go_ret3
    exact ⟨rfl, Below.refl _ _⟩
  · have h2 : 9 < k := by omega
    clear h
    go_enter Tryz.func50, Tryz.ntmps50
    go_wp2
    go_ret3
    exact ⟨rfl, Below.refl _ _⟩
theorem specNR_out (k : Int) (h : k < 3 ∨ 9 < k) (w : World) :
    Calls Tryz.prog 66 #[.int .i64 k] w fun e w' => e = .returned (.tuple #[.int .i64 0, .int .i64 0, .bool false]) ∧ Below w.heap.size w w' := by
  have h3 : (k == 3) = false := by rw [beq_eq_false_iff_ne]; omega
  have h4 : (k == 4) = false := by rw [beq_eq_false_iff_ne]; omega
  have h5 : (k == 5) = false := by rw [beq_eq_false_iff_ne]; omega
  have h6 : (k == 6) = false := by rw [beq_eq_false_iff_ne]; omega
  have h7 : (k == 7) = false := by rw [beq_eq_false_iff_ne]; omega
  have h8 : (k == 8) = false := by rw [beq_eq_false_iff_ne]; omega
  have h9 : (k == 9) = false := by rw [beq_eq_false_iff_ne]; omega
  clear h
  go_enter Tryz.func66, Tryz.ntmps66
  go_wp2
  go_ret3
  exact ⟨rfl, Below.refl _ _⟩

theorem implNR_3 (w : World) (h0 : w.cell? ⟨0, 6, none⟩ = some (.int .i64 0)) (h1 : w.cell? ⟨0, 7, none⟩ = some (.int .i64 255)) :
    Calls Tryz.prog 50 #[.int .i64 3] w fun e w' => e = .returned (.tuple #[.int .i64 0, .int .i64 255, .bool true]) ∧ Below w.heap.size w w' := by
  go_enter Tryz.func50, Tryz.ntmps50
  go_wp2_with fail
  go_quiet (fail)
  go_wp2_with fail
  go_ret3
  exact ⟨rfl, ownDrewN (below1 _ _) _⟩
theorem specNR_3 (w : World) :
    Calls Tryz.prog 66 #[.int .i64 3] w fun e w' => e = .returned (.tuple #[.int .i64 0, .int .i64 255, .bool true]) ∧ Below w.heap.size w w' := by
  go_enter Tryz.func66, Tryz.ntmps66
  go_wp2
  go_ret3
  exact ⟨rfl, Below.refl _ _⟩

theorem implNR_4 (w : World) (h0 : w.cell? ⟨0, 8, none⟩ = some (.int .i64 (-128))) (h1 : w.cell? ⟨0, 9, none⟩ = some (.int .i64 127)) :
    Calls Tryz.prog 50 #[.int .i64 4] w fun e w' => e = .returned (.tuple #[.int .i64 (-128), .int .i64 127, .bool true]) ∧ Below w.heap.size w w' := by
  go_enter Tryz.func50, Tryz.ntmps50
  go_wp2_with fail
  go_quiet (fail)
  go_wp2_with fail
  go_ret3
  exact ⟨rfl, ownDrewN (below1 _ _) _⟩
theorem specNR_4 (w : World) :
    Calls Tryz.prog 66 #[.int .i64 4] w fun e w' => e = .returned (.tuple #[.int .i64 (-128), .int .i64 127, .bool true]) ∧ Below w.heap.size w w' := by
  go_enter Tryz.func66, Tryz.ntmps66
  go_wp2
  go_ret3
  exact ⟨rfl, Below.refl _ _⟩

theorem implNR_5 (w : World) (h0 : w.cell? ⟨0, 10, none⟩ = some (.int .i64 0)) (h1 : w.cell? ⟨0, 11, none⟩ = some (.int .i64 65535)) :
    Calls Tryz.prog 50 #[.int .i64 5] w fun e w' => e = .returned (.tuple #[.int .i64 0, .int .i64 65535, .bool true]) ∧ Below w.heap.size w w' := by
  go_enter Tryz.func50, Tryz.ntmps50
  go_wp2_with fail
  go_quiet (fail)
  go_wp2_with fail
  go_ret3
  exact ⟨rfl, ownDrewN (below1 _ _) _⟩
theorem specNR_5 (w : World) :
    Calls Tryz.prog 66 #[.int .i64 5] w fun e w' => e = .returned (.tuple #[.int .i64 0, .int .i64 65535, .bool true]) ∧ Below w.heap.size w w' := by
  go_enter Tryz.func66, Tryz.ntmps66
  go_wp2
  go_ret3
  exact ⟨rfl, Below.refl _ _⟩

theorem implNR_6 (w : World) (h0 : w.cell? ⟨0, 12, none⟩ = some (.int .i64 (-32768))) (h1 : w.cell? ⟨0, 13, none⟩ = some (.int .i64 32767)) :
    Calls Tryz.prog 50 #[.int .i64 6] w fun e w' => e = .returned (.tuple #[.int .i64 (-32768), .int .i64 32767, .bool true]) ∧ Below w.heap.size w w' := by
  go_enter Tryz.func50, Tryz.ntmps50
  go_wp2_with fail
  go_quiet (fail)
  go_wp2_with fail
  go_ret3
  exact ⟨rfl, ownDrewN (below1 _ _) _⟩
theorem specNR_6 (w : World) :
    Calls Tryz.prog 66 #[.int .i64 6] w fun e w' => e = .returned (.tuple #[.int .i64 (-32768), .int .i64 32767, .bool true]) ∧ Below w.heap.size w w' := by
  go_enter Tryz.func66, Tryz.ntmps66
  go_wp2
  go_ret3
  exact ⟨rfl, Below.refl _ _⟩

theorem implNR_7 (w : World) (h0 : w.cell? ⟨0, 14, none⟩ = some (.int .i64 0)) (h1 : w.cell? ⟨0, 15, none⟩ = some (.int .i64 4294967295)) :
    Calls Tryz.prog 50 #[.int .i64 7] w fun e w' => e = .returned (.tuple #[.int .i64 0, .int .i64 4294967295, .bool true]) ∧ Below w.heap.size w w' := by
  go_enter Tryz.func50, Tryz.ntmps50
  go_wp2_with fail
  go_quiet (fail)
  go_wp2_with fail
  go_ret3
  exact ⟨rfl, ownDrewN (below1 _ _) _⟩
theorem specNR_7 (w : World) :
    Calls Tryz.prog 66 #[.int .i64 7] w fun e w' => e = .returned (.tuple #[.int .i64 0, .int .i64 4294967295, .bool true]) ∧ Below w.heap.size w w' := by
  go_enter Tryz.func66, Tryz.ntmps66
  go_wp2
  go_ret3
  exact ⟨rfl, Below.refl _ _⟩

theorem implNR_8 (w : World) (h0 : w.cell? ⟨0, 16, none⟩ = some (.int .i64 (-2147483648))) (h1 : w.cell? ⟨0, 17, none⟩ = some (.int .i64 2147483647)) :
    Calls Tryz.prog 50 #[.int .i64 8] w fun e w' => e = .returned (.tuple #[.int .i64 (-2147483648), .int .i64 2147483647, .bool true]) ∧ Below w.heap.size w w' := by
  go_enter Tryz.func50, Tryz.ntmps50
  go_wp2_with fail
  go_quiet (fail)
  go_wp2_with fail
  go_ret3
  exact ⟨rfl, ownDrewN (below1 _ _) _⟩
theorem specNR_8 (w : World) :
    Calls Tryz.prog 66 #[.int .i64 8] w fun e w' => e = .returned (.tuple #[.int .i64 (-2147483648), .int .i64 2147483647, .bool true]) ∧ Below w.heap.size w w' := by
  go_enter Tryz.func66, Tryz.ntmps66
  go_wp2
  go_ret3
  exact ⟨rfl, Below.refl _ _⟩

theorem implNR_9 (w : World) (h0 : w.cell? ⟨0, 18, none⟩ = some (.int .i64 (-9223372036854775808))) (h1 : w.cell? ⟨0, 19, none⟩ = some (.int .i64 9223372036854775807)) :
    Calls Tryz.prog 50 #[.int .i64 9] w fun e w' => e = .returned (.tuple #[.int .i64 (-9223372036854775808), .int .i64 9223372036854775807, .bool true]) ∧ Below w.heap.size w w' := by
  go_enter Tryz.func50, Tryz.ntmps50
  go_wp2_with fail
  go_quiet (fail)
  go_wp2_with fail
  go_ret3
  exact ⟨rfl, ownDrewN (below1 _ _) _⟩
theorem specNR_9 (w : World) :
    Calls Tryz.prog 66 #[.int .i64 9] w fun e w' => e = .returned (.tuple #[.int .i64 (-9223372036854775808), .int .i64 9223372036854775807, .bool true]) ∧ Below w.heap.size w w' := by
  go_enter Tryz.func66, Tryz.ntmps66
  go_wp2
  go_ret3
  exact ⟨rfl, Below.refl _ _⟩

end Go.Proofs.YtifchfecfkdjlaaGreatDoor
