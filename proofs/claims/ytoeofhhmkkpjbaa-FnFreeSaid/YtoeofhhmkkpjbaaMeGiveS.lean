/-
  The walk of the model's giving of a block.
-/
import Derived.Test.YtoeofhhmkkpjbaaMeToOwn
import Derived.Test.YtoeofhhmkkpjbaaChainB
import Derived.IntWalk
import Derived.BigQuiet
namespace Go.Proofs.Ytoeofhhmkkpjbaa
open Go.ChangeShapes Go.WideShapes Go.ChangeAt Go.RowKit Go.Deep

/-- A row at hand: its k-th block, wherever the world has gone. -/
theorem Bks.get7 {w W : World} {lo : Nat} {xs : List Bk} {R : Option Addr} (h : Bks w lo xs R) (hb : Below w.heap.size w W) {k : Nat} {y : Bk} (hk : xs[k]? = some y) : ∃ b o, R = some ⟨b, o, none⟩ ∧ W.cell? ⟨b, o + k * 2, none⟩ = some (.int .i64 y.pos) ∧ W.cell? ⟨b, o + k * 2 + 1, none⟩ = some (.int .i64 y.size) ∧ b ≠ w.heap.size := by
  obtain ⟨b, o, e, _, hc⟩ := h (by have := (List.getElem?_eq_some_iff.1 hk).1; omega)
  have := (hc k y hk)
  exact ⟨b, o, e, keepCell hb this.c0_, keepCell hb this.c1_, Nat.ne_of_lt (World.block_lt_of_cell? w _ this.c0_)⟩
/-- The row that is built, the box below it. -/
def Bd (w W : World) (xs : List Bk) (R : Option Addr) (n c : Nat) : Prop := Below w.heap.size w W ∧ OwnBk W (w.heap.size + 1) xs R n c ∧ w.heap.size + 1 ≤ W.heap.size
theorem Bd.set {w W : World} {xs : List Bk} {R : Option Addr} {n c : Nat} (h : Bd w W xs R n c) (o : Nat) (v : Value) : Bd w (W.setCell ⟨w.heap.size, o, none⟩ v) xs R n c :=
  ⟨h.1.setCell (Nat.le_refl _) _, h.2.1.far _ (Nat.lt_succ_self _) _, by simpa using h.2.2⟩
theorem Bd.drewN {w W : World} {xs : List Bk} {R : Option Addr} {n c : Nat} (h : Bd w W xs R n c) (q : Nat) : Bd w (W.drewN q) xs R n c :=
  ⟨bchain h.1 (drN7 _ _) h.1.size, h.2.1.keep (drN7 _ _), h.2.2⟩
/-- One block more, behind a row of one's own. -/
theorem app1 {w W : World} {xs : List Bk} {R : Option Addr} {n c : Nat} (h : Bd w W xs R n c) (hn : n + 1 ≤ 1048576) (d : Bk) (g : Nat) (hg : W.heap.size = g) (ty : TypeId) :
    ∃ v' w', (Builtin.append_ #[36, 36] ty #[.slice R n c, .slice (some ⟨g, 0, none⟩) 1 1]).run Try.prog (W.alloc (.cells #[.int .i64 d.pos, .int .i64 d.size] 44)) = .ok v' w' ∧ ∃ (R' : Option Addr) (c' : Nat), v' = .slice R' (n + 1) c' ∧ Bd w w' (xs ++ [d]) R' (n + 1) c' ∧ Below (w.heap.size + 1) W w' := by
  obtain ⟨hW, ho, hb⟩ := h
  subst hg
  obtain ⟨v', w', h1, R', c', h2, h3, h4⟩ := appBk (ys := [d]) (R2 := some ⟨W.heap.size, 0, none⟩) (c2 := 1) (lo := 0) (ho.keep (below1 W (.cells #[.int .i64 d.pos, .int .i64 d.size] 44))) (fun _ => ⟨W.heap.size, 0, rfl, Nat.zero_le _, fun i x hx => by
    cases i with
    | zero =>
      obtain rfl : d = x := by simpa using hx
      exact ⟨by go_simp, by go_simp, Nat.le_refl _⟩
    | succ i => simp at hx⟩) (by simp; omega) (by simpa using hn) ty
  have hbl := (ho.keep (below1 W (.cells #[.int .i64 d.pos, .int .i64 d.size] 44))).blk
  have hB : Below (w.heap.size + 1) W w' := ((Below.refl _ W).alloc hb _).grown h4 (by simp; omega) hbl
  exact ⟨v', w', h1, R', c', h2, ⟨hW.trans (hB.mono (Nat.le_succ _)), h3, Nat.le_trans hb hB.size⟩, hB⟩
/-- A row behind a row of one's own. -/
theorem appL {w W : World} {xs ys : List Bk} {R R2 : Option Addr} {n c c2 : Nat} (h : Bd w W xs R n c) (hn : n + ys.length ≤ 1048576) (h2 : Bks W 0 ys R2) (ty : TypeId) :
    ∃ v' w', (Builtin.append_ #[36, 36] ty #[.slice R n c, .slice R2 ys.length c2]).run Try.prog W = .ok v' w' ∧ ∃ (R' : Option Addr) (c' : Nat), v' = .slice R' (n + ys.length) c' ∧ Bd w w' (xs ++ ys) R' (n + ys.length) c' := by
  obtain ⟨hW, ho, hb⟩ := h
  obtain ⟨v', w', h1, R', c', h3, h4, h5⟩ := appBk ho h2 hb hn ty (c2 := c2)
  have hB : Below (w.heap.size + 1) W w' := (Below.refl _ W).grown h5 hb ho.blk
  exact ⟨v', w', h1, R', c', h3, hW.trans (hB.mono (Nat.le_succ _)), h4, Nat.le_trans hb hB.size⟩
theorem sizeOfBk (w : World) : (Go.sizeOf 44).run Try.prog w = .ok 2 w := by kernel_rfl
/-- A row cut at its head. -/
theorem dropRun (w : World) (lo : Nat) (xs : List Bk) (R : Option Addr) (c k : Nat) (hk : k ≤ xs.length) (hc : xs.length ≤ c) (h : Bks w lo xs R) :
    ∃ (R2 : Option Addr) (c2 : Nat), (∀ (i : Int) (W : World), i = (k : Int) → (Instr.slice 36 (.slice R xs.length c) (some (.int .i64 i)) none none).run Try.prog W = .ok (.slice R2 (xs.drop k).length c2) W) ∧ ∀ W, Below w.heap.size w W → Bks W 0 (xs.drop k) R2 := by
  have he : Try.prog.elem 36 = 44 := by simp [Program.elem, Try.underlying36]
  have hu : Try.prog.underlying 36 = some (.slice (Try.prog.elem 36)) := by rw [he]; exact Try.underlying36
  refine ⟨if c = k then R else R.map (·.add (k * 2)), c - k, fun i W hi => ?_, fun W hb hp => ?_⟩
  · subst hi
    rw [run_slice_l W _ R xs.length c hu .i64 (k : Int) (by omega) (by omega), he, sizeOfBk]
    simp only [Result.andThen, sliced, Int.toNat_natCast, List.length_drop]
  · rw [List.length_drop] at hp
    obtain ⟨b, o, e, _, hcc⟩ := h (by omega)
    subst e
    refine ⟨b, o + k * 2, ?_, Nat.zero_le _, fun i x hx => ?_⟩
    · rw [if_neg (by omega)]
      simp [Addr.add]
    · rw [List.getElem?_drop] at hx
      have h3 := hcc (k + i) x hx
      rw [show o + k * 2 + i * 2 = o + (k + i) * 2 by omega]
      exact ⟨keepCell hb h3.c0_, keepCell hb h3.c1_, Nat.le_refl _⟩
theorem give_end {w W : World} {xs L : List Bk} {k i c : Nat} {b : Bk} {R : Option Addr} (EQ : L = (xs.take k ++ [b]) ++ xs.drop i) (hk : k ≤ xs.length) (ho : Bd w W ((xs.take k ++ [b]) ++ xs.drop i) R (k + 1 + (xs.drop i).length) c) :
    ∃ (R' : Option Addr) (c' : Nat), Ending.returned (.slice R (k + 1 + (xs.drop i).length) c) = .returned (.slice R' L.length c') ∧ OwnBk W w.heap.size L R' L.length c' ∧ Below w.heap.size w W := by
  have hl : L.length = k + 1 + (xs.drop i).length := by
    rw [EQ]
    simp only [List.length_append, List.length_take, List.length_cons, List.length_nil]
    omega
  exact ⟨R, c, by rw [hl], by rw [hl, EQ]; exact ho.2.1.down (Nat.le_succ _), ho.1⟩

end Go.Proofs.Ytoeofhhmkkpjbaa
