/-
  What the laws on one type share; the walk of the model's TypeOk.
-/
import Derived.Test.YtifchfecfkdjlaaGreatDoorMK
import Derived.Test.YtifchfecfkdjlaaGreatDoorMP
namespace Go.Proofs.YtifchfecfkdjlaaGreatDoor
open Go.ChangeShapes Go.WideShapes Go.ChangeAt Go.RowKit Go.Deep

/-- What the laws on one type begin with: the argument is measured, and copied three times. -/
structure TyIn (T : Ty) (A B : Option Addr) (ca cb : Nat) : Prop where
  to_ : ∀ W, Ty.At W 0 T A B → Calls Tryz.prog 9 #[.agg #[.int .i64 T.kind, .string T.name, .slice A T.labels.length ca, .slice B T.kids.length cb]] W (ToTyPost T W)
  eq_ : ∀ (A1 B1 A2 B2 : Option Addr) (c1 c2 c3 c4 lo lo' : Nat) W, Ty.At W lo T A1 B1 → Ty.At W lo' T A2 B2 → Calls Tryz.prog 11 #[.agg #[.int .i64 T.kind, .string T.name, .slice A1 T.labels.length c1, .slice B1 T.kids.length c2], .agg #[.int .i64 T.kind, .string T.name, .slice A2 T.labels.length c3, .slice B2 T.kids.length c4]] W fun e w' => e = .returned (.bool true) ∧ Below W.heap.size W w'
theorem TyIn.of {T : Ty} (hT : T.wt ≤ 1048576) (A B : Option Addr) (ca cb : Nat) : TyIn T A B ca cb :=
  ⟨fun W h => toType_any T hT A B ca cb 0 W h, fun A1 B1 A2 B2 c1 c2 c3 c4 lo lo' W h h' => eqType_any T hT A1 B1 A2 B2 c1 c2 c3 c4 lo lo' W h h'⟩

theorem specTypeOk_any (T : Ty) (hT : T.wt ≤ 1048576) (A B : Option Addr) (ca cb lo : Nat) (w : World) (hat : Ty.At w lo T A B) :
    Calls Tryz.prog 24 #[.agg #[.int .i64 T.kind, .string T.name, .slice A T.labels.length ca, .slice B T.kids.length cb]] w (SaysB T.Ok w) := by
  have C := Lib.hid (fun W h => l03Ok_any T hT A B ca cb lo W h)
  have HA := Lib.hid hat
  clear hat hT
  go_enter Tryz.func24, Tryz.ntmps24
  go_wp2_with fail
  go_at_call 40
  first
    | refine (C.out _ HA.out).mono ?_
    | refine (C.out _ (HA.out.below (below1 _ _))).mono ?_
  rintro e w2 ⟨v, rfl, hv, hb⟩
  have HV := Lib.hid hv
  have HB := Lib.hid hb
  clear hv hb C
  go_wp2_with fail
  go_ret
  first
    | exact ⟨v, rfl, HV.out, HB.out⟩
    | exact ⟨v, rfl, HV.out, bnext (below1 _ _) HB.out⟩

/-- An integer; new memory alone has turned. -/
def SaysI (n : Int) (w : World) (e : Ending) (w' : World) : Prop := e = .returned (.int .i64 n) ∧ Below w.heap.size w w'
end Go.Proofs.YtifchfecfkdjlaaGreatDoor
