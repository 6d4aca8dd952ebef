/-
  The walk of the model's Alloc.
-/
import Derived.Test.YtoeofhhmkkpjbaaMeAlI
import Derived.Test.YtoeofhhmkkpjbaaMeWrS
namespace Go.Proofs.Ytoeofhhmkkpjbaa
open Go.ChangeShapes Go.WideShapes Go.ChangeAt Go.RowKit Go.Deep

/-- The row that is built. -/
def Bg (w0 W : World) (xs : List Bk) (R : Option Addr) (n c : Nat) : Prop := Below w0.heap.size w0 W ∧ OwnBk W w0.heap.size xs R n c ∧ w0.heap.size ≤ W.heap.size
theorem Bg.drew {w0 W : World} {xs : List Bk} {R : Option Addr} {n c : Nat} (h : Bg w0 W xs R n c) : Bg w0 W.drew xs R n c := ⟨h.1.drew, h.2.1.keep (Below.refl _ _).drew, h.2.2⟩
theorem app1g {w0 W : World} {xs : List Bk} {R : Option Addr} {n c : Nat} (h : Bg w0 W xs R n c) (hn : n + 1 ≤ 1048576) (d : Bk) (g : Nat) (hg : W.heap.size = g) (ty : TypeId) :
    ∃ v' w', (Builtin.append_ #[36, 36] ty #[.slice R n c, .slice (some ⟨g, 0, none⟩) 1 1]).run Try.prog (W.alloc (.cells #[.int .i64 d.pos, .int .i64 d.size] 44)) = .ok v' w' ∧ ∃ (R' : Option Addr) (c' : Nat), v' = .slice R' (n + 1) c' ∧ Bg w0 w' (xs ++ [d]) R' (n + 1) c' := by
  obtain ⟨hW, ho, hb⟩ := h
  subst hg
  obtain ⟨v', w', h1, R', c', h2, h3, h4⟩ := appBk (ys := [d]) (R2 := some ⟨W.heap.size, 0, none⟩) (c2 := 1) (lo := 0) (ho.keep (below1 W (.cells #[.int .i64 d.pos, .int .i64 d.size] 44))) (fun _ => ⟨W.heap.size, 0, rfl, Nat.zero_le _, fun i x hx => by
    cases i with
    | zero =>
      obtain rfl : d = x := by simpa using hx
      exact ⟨by go_simp, by go_simp, Nat.le_refl _⟩
    | succ i => simp at hx⟩) (by simp; omega) (by simpa using hn) ty
  have hbl := (ho.keep (below1 W (.cells #[.int .i64 d.pos, .int .i64 d.size] 44))).blk
  have hB : Below w0.heap.size W w' := ((Below.refl _ W).alloc hb _).grown h4 (by simp; omega) hbl
  exact ⟨v', w', h1, R', c', h2, ⟨hW.trans hB, h3, Nat.le_trans hb hB.size⟩⟩
theorem appLg {w0 W : World} {xs ys : List Bk} {R R2 : Option Addr} {n c c2 : Nat} (h : Bg w0 W xs R n c) (hn : n + ys.length ≤ 1048576) (h2 : Bks W 0 ys R2) (ty : TypeId) :
    ∃ v' w', (Builtin.append_ #[36, 36] ty #[.slice R n c, .slice R2 ys.length c2]).run Try.prog W = .ok v' w' ∧ ∃ (R' : Option Addr) (c' : Nat), v' = .slice R' (n + ys.length) c' ∧ Bg w0 w' (xs ++ ys) R' (n + ys.length) c' := by
  obtain ⟨hW, ho, hb⟩ := h
  obtain ⟨v', w', h1, R', c', h3, h4, h5⟩ := appBk ho h2 hb hn ty (c2 := c2)
  have hB : Below w0.heap.size W w' := (Below.refl _ W).grown h5 hb ho.blk
  exact ⟨v', w', h1, R', c', h3, hW.trans hB, h4, Nat.le_trans hb hB.size⟩
/-- A row cut at its end. -/
theorem takeRun (xs : List Bk) (R : Option Addr) (c k : Nat) (hk : k ≤ xs.length) (hc : xs.length ≤ c) (W : World) :
    (Instr.slice 36 (.slice R xs.length c) none (some (.int .i64 (k : Int))) none).run Try.prog W = .ok (.slice R k c) W := by
  have he : Try.prog.elem 36 = 44 := by simp [Program.elem, Try.underlying36]
  have hu : Try.prog.underlying 36 = some (.slice (Try.prog.elem 36)) := by rw [he]; exact Try.underlying36
  rw [run_slice_h W _ R xs.length c hu .i64 (k : Int) (by omega) (by omega), he, sizeOfBk]
  simp only [Result.andThen, sliced, Int.toNat_natCast, Nat.sub_zero, Nat.zero_mul]
  cases R with
  | none => simp
  | some a => simp [Addr.add]

end Go.Proofs.Ytoeofhhmkkpjbaa
