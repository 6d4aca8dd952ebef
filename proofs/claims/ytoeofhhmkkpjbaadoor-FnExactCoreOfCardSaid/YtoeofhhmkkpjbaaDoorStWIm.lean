/-
  Walks of measuring, copying and comparing Import by value and in slices.
-/
import Derived.Test.YtoeofhhmkkpjbaaDoorStIm
import Derived.Test.YtoeofhhmkkpjbaaDoorRowGen
import Derived.Test.YtoeofhhmkkpjbaaDoorStEx
namespace Go.Proofs.YtoeofhhmkkpjbaaDoor
open Go.ChangeShapes Go.WideShapes Go.ChangeAt Go.RowKit Go.Deep

theorem Im.parts_le {x : Im} (h : x.wt ≤ 1048576) : (x.name.size : Int) ≤ 1048576 ∧ True := by
  unfold Im.wt at h
  refine ⟨by omega, trivial⟩

theorem szImport_any (x : Im) (hf : x.Fin) (left : Int) (h0 : 0 ≤ left) (h1 : left ≤ 1048576)  (_lo : Nat) (w : World)  :
    Calls Tryd.prog 98 #[.agg #[.string x.name, .int .i64 x.params, .bool x.result], .int .i64 left] w fun e w' => e = .returned (.int .i64 (leftOr (left - x.wt))) ∧ Below w.heap.size w w' := by
  obtain ⟨f0, f1⟩ := hf
  have hw : x.wt = (x.name.size : Int) := rfl
  unfold maxLen at f0
  obtain ⟨R, hR⟩ : ∃ R, leftOr (left - x.wt) = R := ⟨_, rfl⟩
  rw [hR]
  have HRR := Lib.hid hR
  have HW := Lib.hid hw
  clear hR hw
  generalize x.wt = W0 at *
  by_cases e1 : left - (x.name.size : Int) < 0
  · go_enter Tryd.func98, Tryd.ntmps98
    go_wp2_with fail
    go_ret
    refine ⟨ret_int ?_, below1 _ _⟩
    have := HW.out
    rw [← HRR.out, leftOr_neg (by omega)]
  · obtain ⟨M1, hm1⟩ : ∃ M, left - (x.name.size : Int) = M := ⟨_, rfl⟩
    have hx1 : 0 ≤ M1 := by omega
    have hy1 : M1 ≤ 1048576 := by omega
    have Hm1 := Lib.hid hm1
    have e1' : (x.name.size : Int) ≤ left := by omega
    clear e1
    go_enter Tryd.func98, Tryd.ntmps98
    go_wp2_with fail
    go_ret
    refine ⟨ret_int ?_, below1 _ _⟩
    have := HW.out
    have := Hm1.out
    rw [← HRR.out, leftOr_pos (by omega)]
    omega

/-- What copying leaves: the same in new memory. -/
def ToImportPost (x : Im) (w : World) (e : Ending) (w' : World) : Prop := e = .returned (.agg #[.string x.name, .int .i64 x.params, .bool x.result]) ∧ True ∧ Below w.heap.size w w'
set_option maxRecDepth 100000 in
theorem toImport_any (x : Im) (hT : x.wt ≤ 1048576) (_lo : Nat) (w : World)  :
    Calls Tryd.prog 99 #[.agg #[.string x.name, .int .i64 x.params, .bool x.result]] w (ToImportPost x w) := by
  obtain ⟨q_name, _⟩ := Im.parts_le hT
  clear hT q_name
  go_enter Tryd.func99, Tryd.ntmps99
  go_wp2
  exact bodyPost_ret (v := .agg #[.string x.name, .int .i64 x.params, .bool x.result]) (by simp [results, Tryd.results99, go_sem]) rfl ⟨rfl, trivial, below3 _ _ _ _⟩

theorem eqImport_any (x : Im) (hT : x.wt ≤ 1048576) (_lo _lo' : Nat) (w : World)  :
    Calls Tryd.prog 102 #[.agg #[.string x.name, .int .i64 x.params, .bool x.result], .agg #[.string x.name, .int .i64 x.params, .bool x.result]] w fun e w' => e = .returned (.bool true) ∧ Below w.heap.size w w' := by
  obtain ⟨q_name, _⟩ := Im.parts_le hT
  clear hT q_name
  go_enter Tryd.func102, Tryd.ntmps102
  go_wp2_with fail
  go_ret
  exact ⟨rfl, below2 _ _ _⟩
end Go.Proofs.YtoeofhhmkkpjbaaDoor
