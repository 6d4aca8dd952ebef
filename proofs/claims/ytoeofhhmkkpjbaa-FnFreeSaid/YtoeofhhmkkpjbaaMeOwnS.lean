/-
  The walk of the model's copy of a memory.
-/
import Derived.Test.YtoeofhhmkkpjbaaBkOwn
import Derived.Deep.RegionLaw
import Derived.Deep.RegionWith
import Derived.Deep.RegionHeld3
import Derived.Deep.LoopGhost
namespace Go.Proofs.Ytoeofhhmkkpjbaa
open Go.ChangeShapes Go.WideShapes Go.ChangeAt Go.RowKit Go.Deep

/-- At a step of a drawn region: an append whose run is known, at a world that is named. -/
theorem stepAppRun7 {P : Program} {ops : Array Oper} {o : Oper} {a : Act} {w : World} {K : Act → World → Prop} {Q : Exit → Act → World → Prop} {E : Prop} (hgd : o.guard = none) (s x : Operand) (t : TypeId)
    (ho : o.op = .call { callee := .builtin .append, args := #[s, x], argTypes := #[t, t] }) (v u v' : Value) (w' : World) (hs : a.eval s = v) (hx : a.eval x = u) (hr : (Builtin.append_ #[t, t] o.type #[v, u]).run P w = .ok v' w') (h : K (a.put o.dst v') w') :
    if Region.wanted o (yielded ops a.tmps) = true then Oper.wp P o a w K Q else E := by
  have hw : Region.wanted o (yielded ops a.tmps) = true := by simp [Region.wanted, hgd]
  rw [if_pos hw]
  unfold Oper.wp execOp
  simp only [ho, resolve, invoke, builtin, Sem.run_bind, Sem.run_pure, Result.andThen_ok, List.map_toArray, List.map_cons, List.map_nil, hs, hx, hr]
  exact h
theorem stepAppAt7 {P : Program} {ops : Array Oper} {o : Oper} {a : Act} {w : World} {K : Act → World → Prop} {Q : Exit → Act → World → Prop} {E : Prop} {S : Value → World → Prop} (W0 : World) (hW : w = W0) (hgd : o.guard = none) (s x : Operand) (t : TypeId)
    (ho : o.op = .call { callee := .builtin .append, args := #[s, x], argTypes := #[t, t] }) (v u : Value) (hs : a.eval s = v) (hx : a.eval x = u) (hr : ∀ ty, ∃ v' w', (Builtin.append_ #[t, t] ty #[v, u]).run P W0 = .ok v' w' ∧ S v' w') (h : ∀ v' w', S v' w' → K (a.put o.dst v') w') :
    if Region.wanted o (yielded ops a.tmps) = true then Oper.wp P o a w K Q else E := by
  subst hW
  obtain ⟨v', w', h1, h2⟩ := hr o.type
  exact stepAppRun7 hgd s x t ho v u v' w' hs hx h1 (h v' w' h2)
/-- The same at an operation of a region that does not draw. -/
theorem wpAppEx7 {P : Program} (w : World) {ops : Array Oper} {rest : List Oper} {o : Oper} {a : Act} {Q : Exit → Act → World → Prop} {S : Value → World → Prop} (hg : o.guard = none) (s x : Operand) (t : TypeId)
    (ho : o.op = .call { callee := .builtin .append, args := #[s, x], argTypes := #[t, t] }) (v u : Value) (hs : a.eval s = v) (hx : a.eval x = u) (hr : ∀ ty, ∃ v' w', (Builtin.append_ #[t, t] ty #[v, u]).run P w = .ok v' w' ∧ S v' w')
    (hK : ∀ v' w', S v' w' → wpList P ops Q rest (a.put o.dst v') w') : wpList P ops Q (o :: rest) a w := by
  refine wpList_plain hg fun K' hK' => ?_
  obtain ⟨v', w', h1, h2⟩ := hr o.type
  unfold Oper.wp execOp
  simp only [ho, resolve, invoke, builtin, Sem.run_bind, Sem.run_pure, Result.andThen_ok, List.map_toArray, List.map_cons, List.map_nil, hs, hx, h1]
  exact hK' _ _ (hK v' w' h2)
theorem OwnBk.blk {w : World} {base : Nat} {xs : List Bk} {R : Option Addr} {n c : Nat} (h : OwnBk w base xs R n c) : ∀ k, (Value.slice R n c).ownBlock = some k → base ≤ k := fun k hk => by
  rcases h.2.2 with ⟨e, _⟩ | ⟨g, cap, cur, hv, hg, _⟩
  · rw [e] at hk
    cases hk
  · rw [hv] at hk
    obtain rfl : g = k := by simpa [Value.ownBlock] using hk
    exact hg
/-- A row that is appended to a new empty one. -/
theorem newApp (W : World) (xs : List Bk) (R : Option Addr) (c lo : Nat) (h : Bks W lo xs R) (hl : xs.length ≤ 1048576) (ty : TypeId) :
    ∃ v' w', (Builtin.append_ #[36, 36] ty #[.slice (some ⟨W.heap.size, 0, none⟩) 0 0, .slice R xs.length c]).run Try.prog ((W.alloc (.cells #[] 44)).drew) = .ok v' w' ∧ ∃ (R' : Option Addr) (c' : Nat), v' = .slice R' xs.length c' ∧ OwnBk w' W.heap.size xs R' xs.length c' ∧ Below W.heap.size W w' := by
  have hb : Below W.heap.size W ((W.alloc (.cells #[] 44)).drew) := (below1 W _).drew
  have hown : OwnBk ((W.alloc (.cells #[] 44)).drew) W.heap.size [] (some ⟨W.heap.size, 0, none⟩) 0 0 := (ownBk_new W W.heap.size (Nat.le_refl _)).keep (Below.refl _ _).drew
  obtain ⟨v', w', h1, R', c', rfl, h2, h3⟩ := appBk hown (h.below hb) hb.size (by omega) ty (c2 := c)
  rw [List.nil_append, Nat.zero_add] at h2
  exact ⟨_, w', h1, R', c', by rw [Nat.zero_add], h2, hb.grown h3 hb.size hown.blk⟩
theorem setTwo7 {w : World} {g : Nat} {u0 u1 v0 v1 : Value} (h0 : w.cell? ⟨g, 0, none⟩ = some u0) (h1 : w.cell? ⟨g, 1, none⟩ = some u1) : ((w.setCell ⟨g, 0, none⟩ v0).setCell ⟨g, 1, none⟩ v1).cell? ⟨g, 0, none⟩ = some v0 ∧ ((w.setCell ⟨g, 0, none⟩ v0).setCell ⟨g, 1, none⟩ v1).cell? ⟨g, 1, none⟩ = some v1 := by
  have h1' : (w.setCell ⟨g, 0, none⟩ v0).cell? ⟨g, 1, none⟩ = some u1 := by
    rw [World.cell?_setCell_other _ _ _ _ (by simp)]
    exact h1
  refine ⟨?_, World.cell?_setCell_same _ _ _ h1'⟩
  rw [World.cell?_setCell_other _ _ _ _ (by simp)]
  exact World.cell?_setCell_same _ _ _ h0
theorem farSet7 {w : World} {p a : Addr} {u v : Value} (hne : a.block ≠ p.block) (h : w.cell? a = some v) : (w.setCell p u).cell? a = some v := (World.cell?_setCell_other _ _ _ _ (fun e => hne (by rw [e]))).trans h
/-- A row of one's own stays, whatever is stored below. -/
theorem OwnBk.far {w : World} {base : Nat} {xs : List Bk} {R : Option Addr} {n c : Nat} (h : OwnBk w base xs R n c) (p : Addr) (hp : p.block < base) (v : Value) : OwnBk (w.setCell p v) base xs R n c := by
  refine ⟨h.1, h.2.1, ?_⟩
  rcases h.2.2 with h2 | ⟨g, cap, cur, hv, hg, hh, r⟩
  · exact Or.inl h2
  · exact Or.inr ⟨g, cap, cur, hv, hg, (Below.heap_setCell _ _ _ _ (by omega)).trans hh, r⟩
/-- An answer that is a memory alone, its blocks in a row as append builds it. -/
def MeOne (r : Me) (w : World) (e : Ending) (w' : World) : Prop := ∃ (R : Option Addr) (c : Nat), e = .returned (.agg #[.string r.bytes, .slice R r.free.length c]) ∧ OwnBk w' w.heap.size r.free R r.free.length c ∧ Below w.heap.size w w'

end Go.Proofs.Ytoeofhhmkkpjbaa
