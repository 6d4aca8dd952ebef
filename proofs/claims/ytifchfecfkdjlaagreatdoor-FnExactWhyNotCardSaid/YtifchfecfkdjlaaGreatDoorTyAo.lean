/-
  Trees of types that lie in memory, in plain blocks where they are copies; copying them. No condition.
-/
import Derived.Test.YtifchfecfkdjlaaGreatDoorTyPl
import Derived.Test.YtifchfecfkdjlaaGreatDoorTyW4
namespace Go.Proofs.YtifchfecfkdjlaaGreatDoor
open Go.ChangeShapes Go.WideShapes Go.ChangeAt Go.RowKit Go.Deep

/-- A tree lies in memory; if lo is not nought, in plain blocks. -/
def Ty.Ao (w : World) (lo : Nat) (T : Ty) (A B : Option Addr) : Prop := Ty.At w lo T A B ∧ (0 < lo → Ty.Pl w lo T A B)
theorem Ty.Ao.keep {w w' : World} {lo : Nat} (hk : KeptFrom lo w w') {T : Ty} {A B : Option Addr} (h : Ty.Ao w lo T A B) : Ty.Ao w' lo T A B := ⟨Ty.At.keep hk h.1, fun h0 => Ty.Pl.keep hk (h.2 h0)⟩
theorem Ty.Ao.low {w : World} {lo lo' : Nat} (hl : lo' ≤ lo) {T : Ty} {A B : Option Addr} (h : Ty.Ao w lo T A B) : Ty.Ao w lo' T A B := ⟨Ty.At.low hl h.1, fun h0 => Ty.Pl.low hl (h.2 (by omega))⟩
theorem Ty.Ao.below {w w' : World} {lo : Nat} {T : Ty} {A B : Option Addr} (h : Ty.Ao w lo T A B) (hb : Below w.heap.size w w') : Ty.Ao w' lo T A B := h.keep (KeptFrom.below hb lo)
theorem Ty.Ao.of_at {w : World} {T : Ty} {A B : Option Addr} (h : Ty.At w 0 T A B) : Ty.Ao w 0 T A B := ⟨h, fun h0 => absurd h0 (by omega)⟩
theorem Ty.Ao.pl {w : World} {lo : Nat} {T : Ty} {A B : Option Addr} (h : Ty.Ao w lo T A B) (h0 : 0 < lo) : Ty.Pl w 0 T A B := Ty.Pl.low (Nat.zero_le _) (h.2 h0)

def ToTyAo (T : Ty) (w : World) (e : Ending) (w' : World) : Prop := ∃ A B : Option Addr, e = .returned (.agg #[.int .i64 T.kind, .string T.name, .slice A T.labels.length T.labels.length, .slice B T.kids.length T.kids.length]) ∧ Ty.Ao w' w.heap.size T A B ∧ Below w.heap.size w w'
theorem toType_ao (T : Ty) (hT : T.wt ≤ 1048576) (A B : Option Addr) (ca cb lo : Nat) (w : World) (h : Ty.At w lo T A B) :
    Calls Tryz.prog 9 #[.agg #[.int .i64 T.kind, .string T.name, .slice A T.labels.length ca, .slice B T.kids.length cb]] w (ToTyAo T w) := by
  refine (toType_own T hT A B ca cb lo w h).mono fun e w' h => ?_
  obtain ⟨A', B', bs, rfl, ho, _, hbs, hb⟩ := h
  exact ⟨A', B', rfl, ⟨ho.at_ fun b hb => (hbs b hb).1, fun _ => ho.pl fun b hb => (hbs b hb).1⟩, hb⟩
theorem toType_ax (T : Ty) (hT : T.wt ≤ 1048576) (A B : Option Addr) (ca cb lo : Nat) (w : World) (h : Ty.Ao w lo T A B) :
    Calls Tryz.prog 9 #[.agg #[.int .i64 T.kind, .string T.name, .slice A T.labels.length ca, .slice B T.kids.length cb]] w fun e w' => ∃ (A' B' : Option Addr) (c' d' : Nat), e = .returned (.agg #[.int .i64 T.kind, .string T.name, .slice A' T.labels.length c', .slice B' T.kids.length d']) ∧ Ty.Ao w' w.heap.size T A' B' ∧ Below w.heap.size w w' :=
  (toType_ao T hT A B ca cb lo w h.1).mono fun _ _ ⟨A', B', h1, h2, h3⟩ => ⟨A', B', _, _, h1, h2, h3⟩
end Go.Proofs.YtifchfecfkdjlaaGreatDoor
