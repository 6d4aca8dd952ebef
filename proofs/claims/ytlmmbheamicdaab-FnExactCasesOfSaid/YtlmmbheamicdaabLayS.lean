/-
  The model's l09Shape, l09Parts and l09Most walk as lay says.
-/
import Derived.Test.YtlmmbheamicdaabLayP
import Derived.Test.YtlmmbheamicdaabTyIn
namespace Go.Proofs.Ytlmmbheamicdaab
open Go.ChangeShapes Go.WideShapes Go.ChangeAt Go.RowKit Go.Deep

theorem infoI64 : (Try.prog.info? 2).map (fun i => (i.zero, i.size, i.bytes)) = some (some (.int .i64 0), 1, 8) := by kernel_rfl
def numV (n : Int) : Value := .int .i64 n
theorem ownKeep {w w' : World} {base : Nat} {e : TypeId} {size n : Nat} {v : Value} {xs : List Value} (h : w.ownsRow base e size v n xs) (hb : Below w.heap.size w w') : w'.ownsRow base e size v n xs :=
  h.kept (grown_of_below hb) (by cases v.ownBlock <;> simp)
theorem l00Max_any (x a : Int) (w : World) :
    Calls Try.prog 58 #[.int .i64 x, .int .i64 a] w fun e w' => e = .returned (.int .i64 (max x a)) ∧ Below w.heap.size w w' := by
  by_cases h : a < x
  · have e : max x a = x := by omega
    rw [e]
    go_enter Try.func58, Try.ntmps58
    go_wp2_with fail
    go_ret
    exact ⟨rfl, Below.refl _ _⟩
  · have e : max x a = a := by omega
    rw [e]
    go_enter Try.func58, Try.ntmps58
    go_wp2_with fail
    go_ret
    exact ⟨rfl, Below.refl _ _⟩

/-- Sizes and alignments that are no greater than asked. -/
def LayOk (T : Ty) : Prop := 0 ≤ T.lay.1 ∧ T.lay.1 ≤ 600 ∧ 1 ≤ T.lay.2 ∧ T.lay.2 ≤ 8
/-- What a row of them gives. -/
def PartsPost (ks : List Ty) (w : World) (e : Ending) (w' : World) : Prop := ∃ (R : Option Addr) (c : Nat), e = .returned (.tuple #[.slice R ks.length c, .int .i64 (up (Ty.layRow 0 1 ks).1 (Ty.layRow 0 1 ks).2), .int .i64 (Ty.layRow 0 1 ks).2]) ∧
  w'.ownsRow w.heap.size 2 1 (.slice R ks.length c) ks.length ((Ty.offs 0 ks).map numV) ∧ Below w.heap.size w w'
/-- What the cases give. -/
def MostPost (ks : List Ty) (w : World) (e : Ending) (w' : World) : Prop := e = .returned (.tuple #[.int .i64 (Ty.layMost 0 1 ks).1, .int .i64 (Ty.layMost 0 1 ks).2]) ∧ Below w.heap.size w w'
end Go.Proofs.Ytlmmbheamicdaab
