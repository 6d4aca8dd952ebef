/-
  The walk of the program's TypeOk.
-/
import Derived.Test.YtlmmbheamicdaaaDoorTyPartsIn
namespace Go.Proofs.YtlmmbheamicdaaaDoor
open Go.ChangeShapes Go.WideShapes Go.ChangeAt Go.RowKit Go.Deep

theorem implTypeOk_any (T : Ty) (lo : Nat) (hT : T.wt ≤ 1048576) (A B : Option Addr) (ca cb : Nat) (w : World) (hat : Ty.At w lo T A B) (hm : MaxC w) :
    Calls Tryd.prog 14 #[.agg #[.int .i64 T.kind, .string T.name, .slice A T.labels.length ca, .slice B T.kids.length cb]] w (SaysB T.Ok w) := by
  have C := partsIn_any T lo hT A B ca cb (w.alloc (.cells #[.int .i64 T.kind, .string T.name, .slice A T.labels.length ca, .slice B T.kids.length cb] 34)) (hat.below (below1 _ _)) (hm.keep (below1 _ _))
  clear hat hm hT
  by_cases ho : T.Ok
  · have C' := Lib.hid (C.mono fun _ _ h => h.1 ho)
    have HO := Lib.hid ho
    have hs : T.size ≤ 24 := ho.1.2
    have hp := T.size_pos
    have hp' : (0 : Int) < (T.size : Int) := by omega
    clear C ho
    go_enter Tryd.func14, Tryd.ntmps14
    go_wp2_with fail
    go_at_call 29
    refine C'.out.mono ?_
    rintro e w2 ⟨g, cap, tvs, rfl, _, _, _, hb⟩
    have HB := Lib.hid (bnext (below1 _ _) hb)
    clear hb C'
    go_wp2_with fail
    go_ret
    exact ⟨true, (by first | rfl | exact ret_bool (decide_eq_true (by omega))), iffT HO.out, HB.out⟩
  · have C' := Lib.hid (C.mono fun _ _ h => h.2 ho)
    have HO := Lib.hid ho
    clear C ho
    go_enter Tryd.func14, Tryd.ntmps14
    go_wp2_with fail
    go_at_call 29
    refine C'.out.mono ?_
    rintro e w2 ⟨rfl, hb⟩
    have HB := Lib.hid (bnext (below1 _ _) hb)
    clear hb C'
    go_wp2_with fail
    go_ret
    exact ⟨false, rfl, iffF HO.out, HB.out⟩
end Go.Proofs.YtlmmbheamicdaaaDoor
