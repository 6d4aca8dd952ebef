/-
  The walks of the program's FlatOfAll and IsSpilled.
-/
import Derived.Test.YtlmmbheamicdaabKindC
import Derived.Test.YtlmmbheamicdaabFlatU
namespace Go.Proofs.Ytlmmbheamicdaab
open Go.ChangeShapes Go.WideShapes Go.ChangeAt Go.RowKit Go.Deep

set_option maxHeartbeats 1000000 in
theorem implFlatAll_hw (ks : List Ty) (hl : ks.length ≤ 1048576) (hw : ∀ (i : Nat) (t : Ty), ks[i]? = some t → t.wt ≤ 1048576) (B : Option Addr) (cb lo : Nat) (w : World) (h : Ty.RowAt w lo ks B) (hm : MaxC w) (P : List Int) (h1 : RowOk ks → P = Ty.flats ks) (h0 : ¬ RowOk ks → P = []) :
    Calls Try.prog 26 #[.slice B ks.length cb] w (FlatPost P w) := by
  have CK := fun W h hm => rowOk_any ks hl hw B cb lo W h hm
  have HA := Lib.hid h
  have HM := Lib.hid hm
  clear h hm
  by_cases ho : RowOk ks
  · have CK' := Lib.hid (fun W h hm => (CK W h hm).mono fun _ _ k => k.yes ho)
    have CF := Lib.hid (fun W => flatKinds_any B ks.length cb W)
    have CC := Lib.hid (fun Bx W hB (h : Ty.RowAt W lo ks B) => collectKinds_any ks lo (fun i t ht => kindI_all t lo (ho.2 i t ht) (hw i t ht)) (fun i t ht => (ho.2 i t ht).flat) (by have := ho.1; omega) B cb Bx W hB h)
    rw [h1 ho]
    clear CK h1 h0 ho hl hw
    generalize Ty.flats ks = P at *
    go_enter Try.func26, Try.ntmps26
    go_wp2_with fail
    go_at_call 42
    refine (CK'.out _ HA.out HM.out).mono ?_
    rintro e w2 ⟨rfl, hb2⟩
    have HB2 := Lib.hid hb2
    clear hb2
    go_wp2_with fail
    go_at_call 44
    refine (CF.out _).mono ?_
    rintro e w3 ⟨rfl, rfl⟩
    have HB3 := Lib.hid (next6 HB2.out (below1 w2 (.cells #[.slice B ks.length cb] 27)))
    go_wp2_with fail
    go_at_call 43
    refine (CC.out _ _ (by go_simp) (HA.out.below HB3.out)).mono ?_
    rintro e w4 ⟨R4, n4, c4, rfl, ho4, hb4⟩
    have HP := Lib.hid (FlatPost.from_ (P := P) HB3.out ⟨R4, n4, c4, rfl, ho4, hb4⟩)
    clear ho4 hb4
    go_wp2_with fail
    go_ret
    exact HP.out
  · have CK' := Lib.hid (fun W h hm => (CK W h hm).mono fun _ _ k => k.no ho)
    rw [h0 ho]
    clear CK h1 h0 ho hl hw
    go_enter Try.func26, Try.ntmps26
    go_wp2_with fail
    go_at_call 42
    refine (CK'.out _ HA.out HM.out).mono ?_
    rintro e w2 ⟨rfl, hb2⟩
    have HB2 := Lib.hid hb2
    clear hb2
    go_wp2_with fail
    go_ret
    exact ⟨none, 0, 0, rfl, ⟨rfl, World.ownsRow_nil _ _ _ _⟩, HB2.out⟩
theorem implFlatAll_any (ks : List Ty) (hT : (ks.length : Int) + Ty.wts ks ≤ 1048576) (B : Option Addr) (cb lo : Nat) (w : World) (h : Ty.RowAt w lo ks B) (hm : MaxC w) (P : List Int) (h1 : RowOk ks → P = Ty.flats ks) (h0 : ¬ RowOk ks → P = []) :
    Calls Try.prog 26 #[.slice B ks.length cb] w (FlatPost P w) :=
  implFlatAll_hw ks (wt_in hT).1 (wt_in hT).2 B cb lo w h hm P h1 h0
set_option maxHeartbeats 1000000 in
theorem implSpilled_any (ks : List Ty) (hT : (ks.length : Int) + Ty.wts ks ≤ 1048576) (B : Option Addr) (cb lo : Nat) (w : World) (h : Ty.RowAt w lo ks B) (hm : MaxC w) :
    Calls Try.prog 19 #[.slice B ks.length cb] w (Says6 (RowOk ks ∧ 8 < (Ty.flats ks).length) w) := by
  obtain ⟨P, h1, h0⟩ : ∃ P : List Int, (RowOk ks → P = Ty.flats ks) ∧ (¬ RowOk ks → P = []) := by
    by_cases ho : RowOk ks
    · exact ⟨_, fun _ => rfl, fun h => absurd ho h⟩
    · exact ⟨_, fun h => absurd h ho, fun _ => rfl⟩
  have C := Lib.hid (implFlatAll_any ks hT B cb lo w h hm P h1 h0)
  have HI : Hid (8 < P.length ↔ (RowOk ks ∧ 8 < (Ty.flats ks).length)) := Lib.hid (by
    by_cases ho : RowOk ks
    · rw [h1 ho]
      exact ⟨fun k => ⟨ho, k⟩, fun k => k.2⟩
    · rw [h0 ho]
      exact ⟨fun k => absurd k (by decide), fun k => absurd k.1 ho⟩)
  clear h1 h0 h hm hT
  by_cases h8 : 8 < P.length
  · have h8i : (8 : Int) < (P.length : Int) := by omega
    go_enter Try.func19, Try.ntmps19
    go_wp2_with fail
    go_at_call 26
    refine C.out.mono ?_
    rintro e w2 ⟨R2, n2, c2, rfl, ho2, hb2⟩
    obtain ⟨rfl, _⟩ := ho2.row
    have HB2 := Lib.hid hb2
    clear hb2 ho2
    go_wp2_with fail
    go_ret
    exact ⟨true, rfl, iff6T (HI.out.mp h8), HB2.out⟩
  · have h8i : ¬ (8 : Int) < (P.length : Int) := by omega
    have hd8 : decide ((8 : Int) < (P.length : Int)) = false := decide_eq_false h8i
    go_enter Try.func19, Try.ntmps19
    go_wp2_with fail
    go_at_call 26
    refine C.out.mono ?_
    rintro e w2 ⟨R2, n2, c2, rfl, ho2, hb2⟩
    obtain ⟨rfl, _⟩ := ho2.row
    have HB2 := Lib.hid hb2
    clear hb2 ho2
    go_wp2_with fail
    go_ret
    exact ⟨false, rfl, iff6F (fun h => h8 (HI.out.mpr h)), HB2.out⟩
end Go.Proofs.Ytlmmbheamicdaab
