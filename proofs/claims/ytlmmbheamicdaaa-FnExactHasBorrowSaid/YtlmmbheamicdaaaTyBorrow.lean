/-
  The walk of the model's HasBorrow.
-/
import Derived.Test.YtlmmbheamicdaaaTyIn
import Derived.Test.YtlmmbheamicdaaaTyBorrowI
namespace Go.Proofs.Ytlmmbheamicdaaa
open Go.ChangeShapes Go.WideShapes Go.ChangeAt Go.RowKit Go.Deep

theorem specBorrow_any (T : Ty) (hT : T.wt ≤ 1048576) (A B : Option Addr) (ca cb lo : Nat) (w : World) (hat : Ty.At w lo T A B) :
    Calls Try.prog 23 #[.agg #[.int .i64 T.kind, .string T.name, .slice A T.labels.length ca, .slice B T.kids.length cb]] w (SaysB (BorrowIn T) w) := by
  have CO := fun W h => l03Ok_any T hT A B ca cb lo W h
  have CH := Lib.hid (fun W h => l03Has_any 21 21 T hT A B ca cb lo W h)
  have HA := Lib.hid hat
  clear hat hT
  by_cases ho : T.Ok
  · have CO' := Lib.hid (fun W h => (CO W h).mono fun _ _ k => k.yes ho)
    have HO := Lib.hid ho
    clear ho CO
    go_enter Try.func23, Try.ntmps23
    go_wp2_with fail
    go_at_call 51
    refine (CO'.out _ (HA.out.below (below1 _ _))).mono ?_
    rintro e w2 ⟨rfl, hb2⟩
    have k0 := keepCell (a := ⟨w.heap.size, 0, none⟩) (v := .int .i64 T.kind) hb2 (by go_simp)
    have k1 := keepCell (a := ⟨w.heap.size, 1, none⟩) (v := .string T.name) hb2 (by go_simp)
    have k2 := keepCell (a := ⟨w.heap.size, 2, none⟩) (v := .slice A T.labels.length ca) hb2 (by go_simp)
    have k3 := keepCell (a := ⟨w.heap.size, 3, none⟩) (v := .slice B T.kids.length cb) hb2 (by go_simp)
    have HB2 := Lib.hid (bnext (below1 _ _) hb2)
    clear hb2
    go_wp2_with fail
    go_at_call 56
    refine (CH.out _ (HA.out.below HB2.out)).mono ?_
    rintro e w3 ⟨rfl, hb3⟩
    have HB3 := Lib.hid (bnext HB2.out hb3)
    clear hb3
    go_wp2_with fail
    go_ret
    exact ⟨_, rfl, ⟨fun h => ⟨HO.out, h⟩, fun h => h.2⟩, HB3.out⟩
  · have CO' := Lib.hid (fun W h => (CO W h).mono fun _ _ k => k.no ho)
    have HO := Lib.hid ho
    clear ho CO
    go_enter Try.func23, Try.ntmps23
    go_wp2_with fail
    go_at_call 51
    refine (CO'.out _ (HA.out.below (below1 _ _))).mono ?_
    rintro e w2 ⟨rfl, hb2⟩
    have HB2 := Lib.hid (bnext (below1 _ _) hb2)
    clear hb2
    go_wp2_with fail
    go_ret
    exact ⟨false, rfl, iffF (fun h => HO.out h.1), HB2.out⟩
end Go.Proofs.Ytlmmbheamicdaaa
