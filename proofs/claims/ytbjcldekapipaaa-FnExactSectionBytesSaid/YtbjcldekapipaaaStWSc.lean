/-
  Walks of measuring, copying and comparing Section by value and in slices.
-/
import Derived.Test.YtbjcldekapipaaaStSc
import Derived.Test.YtbjcldekapipaaaRowGen
import Derived.Test.YtbjcldekapipaaaStEx
namespace Go.Proofs.Ytbjcldekapipaaa
open Go.ChangeShapes Go.WideShapes Go.ChangeAt Go.RowKit Go.Deep

theorem Sc.parts_le {x : Sc} (h : x.wt ≤ 1048576) : (x.name.size : Int) ≤ 1048576 ∧ (x.bytes.size : Int) ≤ 1048576 ∧ True := by
  unfold Sc.wt at h
  refine ⟨by omega, by omega, trivial⟩

theorem szSection_any (x : Sc) (hf : x.Fin) (left : Int) (h0 : 0 ≤ left) (h1 : left ≤ 1048576)  (_lo : Nat) (w : World)  :
    Calls Try.prog 34 #[.agg #[.int .i64 x.id, .string x.name, .string x.bytes], .int .i64 left] w fun e w' => e = .returned (.int .i64 (leftOr (left - x.wt))) ∧ Below w.heap.size w w' := by
  obtain ⟨f0, f1, f2⟩ := hf
  have hw : x.wt = (x.name.size : Int) + (x.bytes.size : Int) := rfl
  unfold maxLen at f1
  unfold maxLen at f2
  obtain ⟨R, hR⟩ : ∃ R, leftOr (left - x.wt) = R := ⟨_, rfl⟩
  rw [hR]
  have HRR := Lib.hid hR
  have HW := Lib.hid hw
  clear hR hw
  generalize x.wt = W0 at *
  by_cases e1 : left - (x.name.size : Int) < 0
  · go_enter Try.func34, Try.ntmps34
    go_wp2_with fail
    go_ret
    refine ⟨ret_int ?_, below1 _ _⟩
    have := HW.out
    rw [← HRR.out, leftOr_neg (by omega)]
  · obtain ⟨M1, hm1⟩ : ∃ M, left - (x.name.size : Int) = M := ⟨_, rfl⟩
    have hx1 : 0 ≤ M1 := by omega
    have hy1 : M1 ≤ 1048576 := by omega
    have Hm1 := Lib.hid hm1
    have e1' : (x.name.size : Int) ≤ left := by omega
    clear e1
    by_cases e2 : M1 - (x.bytes.size : Int) < 0
    · go_enter Try.func34, Try.ntmps34
      go_wp2_with fail
      go_ret
      refine ⟨ret_int ?_, below1 _ _⟩
      have := HW.out
      have := Hm1.out
      rw [← HRR.out, leftOr_neg (by omega)]
    · obtain ⟨M2, hm2⟩ : ∃ M, M1 - (x.bytes.size : Int) = M := ⟨_, rfl⟩
      have hx2 : 0 ≤ M2 := by omega
      have hy2 : M2 ≤ 1048576 := by omega
      have Hm2 := Lib.hid hm2
      have e2' : (x.bytes.size : Int) ≤ M1 := by omega
      clear e2
      go_enter Try.func34, Try.ntmps34
      go_wp2_with fail
      go_ret
      refine ⟨ret_int ?_, below1 _ _⟩
      have := HW.out
      have := Hm1.out
      have := Hm2.out
      rw [← HRR.out, leftOr_pos (by omega)]
      omega

/-- What copying leaves: the same in new memory. -/
def ToSectionPost (x : Sc) (w : World) (e : Ending) (w' : World) : Prop := e = .returned (.agg #[.int .i64 x.id, .string x.name, .string x.bytes]) ∧ True ∧ Below w.heap.size w w'
set_option maxRecDepth 100000 in
theorem toSection_any (x : Sc) (hT : x.wt ≤ 1048576)  (_lo : Nat) (w : World)  :
    Calls Try.prog 37 #[.agg #[.int .i64 x.id, .string x.name, .string x.bytes]] w (ToSectionPost x w) := by
  obtain ⟨q_name, q_bytes, _⟩ := Sc.parts_le hT
  clear hT q_name q_bytes
  go_enter Try.func37, Try.ntmps37
  go_wp2
  exact bodyPost_ret (v := .agg #[.int .i64 x.id, .string x.name, .string x.bytes]) (by simp [results, Try.results37, go_sem]) rfl ⟨rfl, trivial, below3 _ _ _ _⟩

theorem eqSection_any (x : Sc) (hT : x.wt ≤ 1048576)   (_lo _lo' : Nat) (w : World)  :
    Calls Try.prog 43 #[.agg #[.int .i64 x.id, .string x.name, .string x.bytes], .agg #[.int .i64 x.id, .string x.name, .string x.bytes]] w fun e w' => e = .returned (.bool true) ∧ Below w.heap.size w w' := by
  obtain ⟨q_name, q_bytes, _⟩ := Sc.parts_le hT
  clear hT q_name q_bytes
  go_enter Try.func43, Try.ntmps43
  go_wp2_with fail
  go_ret
  exact ⟨rfl, below2 _ _ _⟩
end Go.Proofs.Ytbjcldekapipaaa
