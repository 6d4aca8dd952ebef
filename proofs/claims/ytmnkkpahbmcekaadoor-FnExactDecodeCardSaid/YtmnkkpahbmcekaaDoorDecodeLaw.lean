/-
  The walk of the law FnExactDecode: both answer alike.
-/
import Derived.Test.YtmnkkpahbmcekaaDoorDecJ
namespace Go.Proofs.YtmnkkpahbmcekaaDoor
open Go.ChangeShapes Go.WideShapes Go.ChangeAt Go.RowKit Go.Deep

set_option maxHeartbeats 1000000 in
theorem fnExactDecodeLaw (enc : Int) (s : ByteArray) (w : World) (hT : Tabs w) :
    Calls Tryd.prog 6 #[.int .i64 enc, .string s] w fun e w' => e = .returned (.bool true) ∧ Below w.heap.size w w' := by
  by_cases h20 : s.size ≤ 1048576
  · have h20i : ¬ (1048576 : Int) < (s.size : Int) := by omega
    have CS := Lib.hid (fun W => specDec_any enc s h20 W)
    have CI := Lib.hid (fun W hT => implDec_any enc s W hT)
    have HT := Lib.hid hT
    generalize decA enc s = V at *
    obtain ⟨V1, V2⟩ := V
    clear hT h20
    go_enter Tryd.func6, Tryd.ntmps6
    go_wp2_with fail
    go_at_call 19
    refine (CS.out _).mono ?_
    rintro e w2 ⟨rfl, hb2⟩
    have HB2 := Lib.hid hb2
    clear hb2
    go_wp2_with fail
    go_at_call 20
    refine (CI.out _ (HT.out.keep HB2.out)).mono ?_
    rintro e w3 ⟨rfl, hb3⟩
    have HB3 := Lib.hid (next6 HB2.out hb3)
    clear hb3
    go_wp2_with fail
    go_ret
    exact ⟨rfl, HB3.out⟩
  · have h20i : (1048576 : Int) < (s.size : Int) := by omega
    clear h20 hT
    go_enter Tryd.func6, Tryd.ntmps6
    go_wp2_with fail
    go_ret
    exact ⟨rfl, Below.refl _ _⟩
end Go.Proofs.YtmnkkpahbmcekaaDoor
