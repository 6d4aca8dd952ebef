/-
  The contracts of measuring, copying and comparing, in the words of the structs' walks.
-/
import Derived.Test.YtlmmbheamicdaaaDoorTyW4
namespace Go.Proofs.YtlmmbheamicdaaaDoor
open Go.ChangeShapes Go.WideShapes Go.ChangeAt Go.RowKit Go.Deep

theorem szStrs_ex (ls : List ByteArray) (A : Option Addr) (cap : Nat) (left : Int) (h0 : 0 ≤ left) (h1 : left ≤ 1048576) (hl : ls.length ≤ maxLen) (hs : ∀ s ∈ ls, s.size ≤ maxLen) (lo : Nat) (w : World) (h : Strs w lo ls A) :
    Calls Tryd.prog 21 #[.slice A ls.length cap, .int .i64 left] w fun e w' => e = .returned (.int .i64 (leftOr (left - ((ls.length : Int) + sumSz ls)))) ∧ Below w.heap.size w w' := by
  have e : left - ((ls.length : Int) + sumSz ls) = left - (ls.length : Int) - sumSz ls := by omega
  rw [e]
  exact (szStringS_any ls A cap left h0 h1 hl hs lo w h).mono fun _ _ ⟨h1, h2⟩ => ⟨h1, h2 ▸ Below.refl _ _⟩
theorem toStrs_ex (ls : List ByteArray) (A : Option Addr) (cap : Nat) (hl : ls.length ≤ 1048576) (lo : Nat) (w : World) (h : Strs w lo ls A) :
    Calls Tryd.prog 27 #[.slice A ls.length cap] w fun e w' => ∃ (A' : Option Addr) (c' : Nat), e = .returned (.slice A' ls.length c') ∧ Strs w' w.heap.size ls A' ∧ Below w.heap.size w w' :=
  (toStringS_any ls A cap hl lo w h).mono fun _ _ ⟨h1, h2, h3⟩ => ⟨_, _, h1, h2, h3⟩
theorem toType_ex (T : Ty) (hT : T.wt ≤ 1048576) (A B : Option Addr) (ca cb lo : Nat) (w : World) (h : Ty.At w lo T A B) :
    Calls Tryd.prog 13 #[.agg #[.int .i64 T.kind, .string T.name, .slice A T.labels.length ca, .slice B T.kids.length cb]] w fun e w' => ∃ (A' B' : Option Addr) (c' d' : Nat), e = .returned (.agg #[.int .i64 T.kind, .string T.name, .slice A' T.labels.length c', .slice B' T.kids.length d']) ∧ Ty.At w' w.heap.size T A' B' ∧ Below w.heap.size w w' :=
  (toType_any T hT A B ca cb lo w h).mono fun _ _ ⟨A', B', h1, h2, h3⟩ => ⟨A', B', _, _, h1, h2, h3⟩
theorem eqStrs_ex (ls : List ByteArray) (A A' : Option Addr) (ca ca' : Nat) (hl : ls.length ≤ maxLen) (lo lo' : Nat) (w : World) (h : Strs w lo ls A) (h' : Strs w lo' ls A') :
    Calls Tryd.prog 35 #[.slice A ls.length ca, .slice A' ls.length ca'] w fun e w' => e = .returned (.bool true) ∧ Below w.heap.size w w' :=
  (eqStringS_same ls A A' ca ca' hl lo lo' w h h').mono fun _ _ ⟨h1, n, h2⟩ => ⟨h1, h2 ▸ belowN (Below.refl _ _) n⟩
end Go.Proofs.YtlmmbheamicdaaaDoor
