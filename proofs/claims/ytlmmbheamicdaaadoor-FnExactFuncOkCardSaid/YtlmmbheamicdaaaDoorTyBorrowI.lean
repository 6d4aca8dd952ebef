/-
  The walk of the program's HasBorrow.
-/
import Derived.Test.YtlmmbheamicdaaaDoorTyOkI
namespace Go.Proofs.YtlmmbheamicdaaaDoor
open Go.ChangeShapes Go.WideShapes Go.ChangeAt Go.RowKit Go.Deep

/-- A valid type with a borrow in it. -/
def BorrowIn (T : Ty) : Prop := T.Ok ∧ T.has (inB 21 21) = true

theorem implBorrow_any (T : Ty) (lo : Nat) (hT : T.wt ≤ 1048576) (A B : Option Addr) (ca cb : Nat) (w : World) (hat : Ty.At w lo T A B) (hm : MaxC w) :
    Calls Tryd.prog 15 #[.agg #[.int .i64 T.kind, .string T.name, .slice A T.labels.length ca, .slice B T.kids.length cb]] w (SaysB (BorrowIn T) w) := by
  have CO := fun W h hm => implTypeOk_any T lo hT A B ca cb W h hm
  have CH := Lib.hid (fun W h => mentions_any 21 T hT A B ca cb lo W h)
  have HA := Lib.hid hat
  have HM := Lib.hid hm
  clear hat hT hm
  by_cases ho : T.Ok
  · have CO' := Lib.hid (fun W h hm => (CO W h hm).mono fun _ _ k => k.yes ho)
    have HO := Lib.hid ho
    clear ho CO
    go_enter Tryd.func15, Tryd.ntmps15
    go_wp2_with fail
    go_at_call 14
    refine (CO'.out _ (HA.out.below (below1 _ _)) (HM.out.keep (below1 _ _))).mono ?_
    rintro e w2 ⟨rfl, hb2⟩
    have k0 := keepCell (a := ⟨w.heap.size, 0, none⟩) (v := .int .i64 T.kind) hb2 (by go_simp)
    have k1 := keepCell (a := ⟨w.heap.size, 1, none⟩) (v := .string T.name) hb2 (by go_simp)
    have k2 := keepCell (a := ⟨w.heap.size, 2, none⟩) (v := .slice A T.labels.length ca) hb2 (by go_simp)
    have k3 := keepCell (a := ⟨w.heap.size, 3, none⟩) (v := .slice B T.kids.length cb) hb2 (by go_simp)
    have HB2 := Lib.hid (bnext (below1 _ _) hb2)
    clear hb2
    go_wp2_with fail
    go_at_call 30
    refine (CH.out _ (HA.out.below HB2.out)).mono ?_
    rintro e w3 ⟨rfl, hb3⟩
    have HB3 := Lib.hid (bnext HB2.out hb3)
    clear hb3
    go_wp2_with fail
    go_ret
    exact ⟨_, rfl, ⟨fun h => ⟨HO.out, h⟩, fun h => h.2⟩, HB3.out⟩
  · have CO' := Lib.hid (fun W h hm => (CO W h hm).mono fun _ _ k => k.no ho)
    have HO := Lib.hid ho
    clear ho CO
    go_enter Tryd.func15, Tryd.ntmps15
    go_wp2_with fail
    go_at_call 14
    refine (CO'.out _ (HA.out.below (below1 _ _)) (HM.out.keep (below1 _ _))).mono ?_
    rintro e w2 ⟨rfl, hb2⟩
    have HB2 := Lib.hid (bnext (below1 _ _) hb2)
    clear hb2
    go_wp2_with fail
    go_ret
    exact ⟨false, rfl, iffF (fun h => HO.out h.1), HB2.out⟩
end Go.Proofs.YtlmmbheamicdaaaDoor
