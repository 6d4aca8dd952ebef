/-
  A map whose keys are two addresses and two numbers: what is looked up there, and what a store leaves. No condition.
-/
import Derived.Test.YtifchfecfkdjlaaGreatDoorSameS
import Derived.LaidEqlPtr
import Derived.Maps.OwnOps
import Derived.WideKeyRuns
namespace Go.Proofs.YtifchfecfkdjlaaGreatDoor
open Go.ChangeShapes Go.WideShapes Go.ChangeAt Go.RowKit Go.Deep Go.MapKept

/-- A key. -/
def pk (a b : Addr) (n l : Int) : Value := .agg #[.pointer (some a), .pointer (some b), .int .i64 n, .int .i64 l]

theorem pk_fields : (Tryz.prog.fieldsOf 123).toList.map (fun f => (f.name == "_", f.type, f.offset)) = [(false, 121, 0), (false, 121, 1), (false, 3, 2), (false, 3, 3)] := by kernel_rfl
theorem agg_ptr (w : World) : (isAgg 121).run Tryz.prog w = .ok false w := by kernel_rfl
theorem agg_int (w : World) : (isAgg 3).run Tryz.prog w = .ok false w := by kernel_rfl
theorem part_of {t : TypeId} {w : World} (h : (isAgg t).run Tryz.prog w = .ok false w) {cs : Array Value} {i : Nat} {v : Value} (hv : cs[i]? = some v) : (part t cs i).run Tryz.prog w = .ok v w := by
  unfold part
  simp [h, hv]
theorem pk_info : ∃ j, Tryz.prog.info? 30 = some j ∧ j.size ≠ 0 := by
  have h := infoType
  cases e : Tryz.prog.info? 30 with
  | none => rw [e] at h; cases h
  | some j =>
    rw [e] at h
    simp at h
    exact ⟨j, rfl, by omega⟩

theorem eq_ptr (w : World) (d : Nat) (a b : Addr) (ha : Blk w a.block) (hb : Blk w b.block) :
    ∃ r : Bool, (Op.equalIn (d + 1) 121 (.pointer (some a)) (.pointer (some b))).run Tryz.prog w = .ok r w ∧ (r = true ↔ a = b) := by
  obtain ⟨j, hj, hs⟩ := pk_info
  have hp := Tryz.underlying121
  by_cases e : a = b
  · subst e
    exact ⟨true, by simp [Op.equalIn, run_underlying hp, sizeOf, typeInfo, hj, run_sameAddr_same], by simp⟩
  · obtain ⟨c1, t1, h1⟩ := ha
    obtain ⟨c2, t2, h2⟩ := hb
    exact ⟨false, by simp [Op.equalIn, run_underlying hp, sizeOf, typeInfo, hj, hs, run_sameAddr_other w e h1 h2], by simp [e]⟩

theorem fl4 {α : Type} {l : List α} (h : l.length = 4) : ∃ a b c d, l = [a, b, c, d] := by
  match l, h with
  | [a, b, c, d], _ => exact ⟨a, b, c, d, rfl⟩
theorem eqFields_step (d : Nat) (xs ys : Array Value) (f : Field) (fs : List Field) (w : World) (hn : (f.name == "_") = false) {x y : Value} (hx : (part f.type xs f.offset).run Tryz.prog w = .ok x w) (hy : (part f.type ys f.offset).run Tryz.prog w = .ok y w) {r : Bool} (hr : (Op.equalIn d f.type x y).run Tryz.prog w = .ok r w) :
    (Op.eqFields d xs ys (f :: fs)).run Tryz.prog w = if r = true then (Op.eqFields d xs ys fs).run Tryz.prog w else .ok false w := by
  have hn' : f.name ≠ "_" := by simpa using hn
  rw [Op.eqFields, if_pos hn']
  cases r <;> simp [hx, hy, hr]

theorem pk_equal (w : World) (a b a' b' : Addr) (n l n' l' : Int) (h1 : Blk w a.block) (h2 : Blk w b.block) (h3 : Blk w a'.block) (h4 : Blk w b'.block) :
    ∃ r : Bool, (Op.equal 123 (pk a b n l) (pk a' b' n' l')).run Tryz.prog w = .ok r w ∧ (r = true ↔ pk a b n l = pk a' b' n' l') := by
  obtain ⟨r1, e1, i1⟩ := eq_ptr w 9998 a a' h1 h3
  obtain ⟨r2, e2, i2⟩ := eq_ptr w 9998 b b' h2 h4
  have e3 : (Op.equalIn 9999 3 (.int .i64 n) (.int .i64 n')).run Tryz.prog w = .ok (n == n') w := run_equalIn_int w 9998 3 .i64 .i64 n n' Tryz.underlying3
  have e4 : (Op.equalIn 9999 3 (.int .i64 l) (.int .i64 l')).run Tryz.prog w = .ok (l == l') w := run_equalIn_int w 9998 3 .i64 .i64 l l' Tryz.underlying3
  have hf := pk_fields
  have hrun : (Op.equal 123 (pk a b n l) (pk a' b' n' l')).run Tryz.prog w = .ok (r1 && r2 && (n == n') && (l == l')) w := by
    unfold pk
    rw [Op.equal, Op.maxDepth, run_equalIn_struct w 9999 123 _ _ (by kernel_rfl) (by kernel_rfl)]
    generalize (Tryz.prog.fieldsOf 123).toList = L at hf ⊢
    obtain ⟨f0, f1, f2, f3, rfl⟩ := fl4 (l := L) (by simpa using congrArg List.length hf)
    simp only [List.map_cons, List.map_nil, List.cons.injEq, Prod.mk.injEq, and_true] at hf
    obtain ⟨⟨n0, t0, o0⟩, ⟨n1, t1, o1⟩, ⟨n2, t2, o2⟩, ⟨n3, t3, o3⟩⟩ := hf
    have p0 : ∀ (x y z u : Value), (part f0.type #[x, y, z, u] f0.offset).run Tryz.prog w = .ok x w := fun x y z u => by rw [t0, o0]; exact part_of (agg_ptr w) rfl
    have p1 : ∀ (x y z u : Value), (part f1.type #[x, y, z, u] f1.offset).run Tryz.prog w = .ok y w := fun x y z u => by rw [t1, o1]; exact part_of (agg_ptr w) rfl
    have p2 : ∀ (x y z u : Value), (part f2.type #[x, y, z, u] f2.offset).run Tryz.prog w = .ok z w := fun x y z u => by rw [t2, o2]; exact part_of (agg_int w) rfl
    have p3 : ∀ (x y z u : Value), (part f3.type #[x, y, z, u] f3.offset).run Tryz.prog w = .ok u w := fun x y z u => by rw [t3, o3]; exact part_of (agg_int w) rfl
    rw [eqFields_step 9999 _ _ f0 _ w n0 (p0 _ _ _ _) (p0 _ _ _ _) (by rw [t0]; exact e1), eqFields_step 9999 _ _ f1 _ w n1 (p1 _ _ _ _) (p1 _ _ _ _) (by rw [t1]; exact e2),
      eqFields_step 9999 _ _ f2 _ w n2 (p2 _ _ _ _) (p2 _ _ _ _) (by rw [t2]; exact e3), eqFields_step 9999 _ _ f3 _ w n3 (p3 _ _ _ _) (p3 _ _ _ _) (by rw [t3]; exact e4)]
    cases r1 <;> cases r2 <;> cases (n == n') <;> cases (l == l') <;> simp [Op.eqFields]
  refine ⟨_, hrun, ?_⟩
  unfold pk
  simp only [Bool.and_eq_true, i1, i2, beq_iff_eq]
  constructor
  · rintro ⟨⟨⟨rfl, rfl⟩, rfl⟩, rfl⟩
    rfl
  · intro h
    injection h with h
    simp only [Array.mk.injEq, List.cons.injEq, Value.pointer.injEq, Option.some.injEq, Value.int.injEq, true_and, and_true] at h
    exact ⟨⟨⟨h.1, h.2.1⟩, h.2.2.1⟩, h.2.2.2⟩

theorem pk_check (em : Bool) (a b : Addr) (n l : Int) (w : World) : (Instr.checkKey em 10000 123 (pk a b n l)).run Tryz.prog w = .ok () w := by kernel_rfl
theorem pk_stays (a b : Addr) (n l : Int) (w : World) : (Instr.keyThatStays (pk a b n l) (pk a b n l)).run Tryz.prog w = .ok (pk a b n l) w := by
  simp [Instr.keyThatStays, pk, Instr.sameBits]

/-- An entry whose key lies in plain blocks. -/
def KeyOk (w : World) (e : MapEntry) : Prop := ∃ (a b : Addr) (n l : Int), e.key = pk a b n l ∧ Blk w a.block ∧ Blk w b.block
theorem pk_find (w : World) (a b : Addr) (n l : Int) (ha : Blk w a.block) (hb : Blk w b.block) : ∀ (es : List MapEntry) (i : Nat), (∀ e ∈ es, KeyOk w e) →
    (Instr.findAsking 123 (pk a b n l) es i).run Tryz.prog w = .ok none w ∨ ∃ j e, (Instr.findAsking 123 (pk a b n l) es i).run Tryz.prog w = .ok (some (i + j, e.val)) w ∧ es[j]? = some e ∧ e.key = pk a b n l
  | [], i, _ => Or.inl (by simp [Instr.findAsking])
  | e :: es, i, h => by
    obtain ⟨a', b', n', l', hk, ha', hb'⟩ := h e (by simp)
    obtain ⟨r, hr, hi⟩ := pk_equal w a b a' b' n l n' l' ha hb ha' hb'
    rw [← hk] at hr hi
    cases r
    · rcases pk_find w a b n l ha hb es (i + 1) (fun y hy => h y (by simp [hy])) with h1 | ⟨j, e', h1, h2, h3⟩
      · exact Or.inl (by simp [Instr.findAsking, hr, h1])
      · exact Or.inr ⟨j + 1, e', by simp [Instr.findAsking, hr, h1, Nat.add_assoc, Nat.add_comm 1 j], by simpa using h2, h3⟩
    · exact Or.inr ⟨0, e, by simp [Instr.findAsking, hr], rfl, (hi.mp rfl).symm⟩

/-- Two rows that are equal, and not too deep. -/
def SameAll (ks us : List Ty) (d : Nat) : Prop := ks = us ∧ Ty.depths ks ≤ d
/-- What a key stands for. -/
def Good (w : World) (a b : Addr) (n l : Int) : Prop := ∃ (ks us : List Ty) (d : Nat), n = ks.length ∧ l = d ∧ 0 < ks.length ∧ ks.length = us.length ∧ Ty.RowP w ks (some a) ∧ Ty.RowP w us (some b) ∧ SameAll ks us d
theorem Good.keep {w w' : World} {a b : Addr} {n l : Int} (h : Good w a b n l) (hk : Kp w w') : Good w' a b n l := by
  obtain ⟨ks, us, d, h1, h2, h3, h4, h5, h6, h7⟩ := h
  exact ⟨ks, us, d, h1, h2, h3, h4, h5.keep hk, h6.keep hk, h7⟩
theorem Ty.RowP.blk {w : World} {ks : List Ty} {a : Addr} (h : Ty.RowP w ks (some a)) (hp : 0 < ks.length) : Blk w a.block := by
  obtain ⟨b, o, e, hb, _⟩ := h hp
  cases e
  exact hb
theorem Good.blk {w : World} {a b : Addr} {n l : Int} (h : Good w a b n l) : Blk w a.block ∧ Blk w b.block := by
  obtain ⟨ks, us, d, h1, h2, h3, h4, h5, h6, h7⟩ := h
  exact ⟨h5.blk h3, h6.blk (by omega)⟩
/-- Block m is a map of such keys. -/
def Pairs (w : World) (m : Nat) : Prop := ∃ es clock, w.heap[m]? = some (.map es clock) ∧ ∀ e ∈ es.toList, e.val = .bool true ∧ ∃ a b n l, e.key = pk a b n l ∧ Good w a b n l
theorem Pairs.made (w : World) : Pairs (w.alloc (.map #[] 0)) w.heap.size := ⟨#[], 0, by show (w.heap.push _)[w.heap.size]? = _; simp, by simp⟩
theorem Pairs.lt {w : World} {m : Nat} (h : Pairs w m) : m < w.heap.size := by
  obtain ⟨es, clock, h1, _⟩ := h
  exact (Array.getElem?_eq_some_iff.1 h1).1
theorem Pairs.below {w w' : World} {m : Nat} (h : Pairs w m) (hb : Below w.heap.size w w') : Pairs w' m := by
  have hl := h.lt
  obtain ⟨es, clock, h1, h2⟩ := h
  refine ⟨es, clock, (hb.block m hl).trans h1, fun e he => ?_⟩
  obtain ⟨h3, a, b, n, l, h4, h5⟩ := h2 e he
  exact ⟨h3, a, b, n, l, h4, h5.keep (Kp.below hb)⟩
/-- A world in which nothing but a map's block has turned. -/
theorem Pairs.kp {w w' : World} {m : Nat} (h : Pairs w m) (hg : w.grownBy w' (some m)) : Kp w w' := by
  obtain ⟨es, clock, h1, _⟩ := h
  refine Kp.of (fun a v _ hc => ?_) (fun g hgb => ?_)
  · have hlt := World.block_lt_of_cell? w a hc
    have hne : a.block ≠ m := fun e => by
      rw [World.cell?, e, h1] at hc
      simp at hc
    rw [← hc]
    exact World.cell?_of_block (hg.block a.block hlt (fun e => hne (Option.some.inj e)))
  · have hne : g ≠ m := fun e => by
      obtain ⟨c, t, h2⟩ := hgb
      rw [e, h1] at h2
      cases h2
    exact hgb.same (hg.block g hgb.lt (fun e => hne (Option.some.inj e)))

theorem pairs_lookup {w : World} {m : Nat} (h : Pairs w m) (a b : Addr) (n l : Int) (ha : Blk w a.block) (hb : Blk w b.block) :
    ∃ v : Bool, (Instr.lookup 117 (.map (some m)) (pk a b n l) false).run Tryz.prog w = .ok (.bool v) w ∧ (v = true → Good w a b n l) := by
  obtain ⟨es, clock, h1, h2⟩ := h
  have hz : (zeroValue 4).run Tryz.prog w = .ok (.bool false) w := by kernel_rfl
  have hu := Tryz.underlying117
  have hk : ∀ e ∈ es.toList, KeyOk w e := fun e he => by
    obtain ⟨_, a', b', n', l', h4, h5⟩ := h2 e he
    exact ⟨a', b', n', l', h4, h5.blk.1, h5.blk.2⟩
  have hfk : (Instr.findKey 123 (pk a b n l) es.toList).run Tryz.prog w = (Instr.findAsking 123 (pk a b n l) es.toList).run Tryz.prog w := run_findKey_eq w (by kernel_rfl) _ _
  rcases pk_find w a b n l ha hb es.toList 0 hk with h3 | ⟨j, e, h3, h4, h5⟩
  · exact ⟨false, by simp [Instr.lookup, run_underlying hu, MapKept.run_getObj_map h1, pk_check, hfk, h3, hz], by simp⟩
  · obtain ⟨h6, a', b', n', l', h7, h8⟩ := h2 e (List.mem_of_getElem? h4)
    refine ⟨true, by simp [Instr.lookup, run_underlying hu, MapKept.run_getObj_map h1, pk_check, hfk, h3, h6], fun _ => ?_⟩
    have h9 := h7.symm.trans h5
    unfold pk at h9
    injection h9 with h9
    simp only [Array.mk.injEq, List.cons.injEq, Value.pointer.injEq, Option.some.injEq, Value.int.injEq, true_and, and_true] at h9
    obtain ⟨rfl, rfl, rfl, rfl⟩ := h9
    exact h8

theorem pairs_update {w : World} {m : Nat} (h : Pairs w m) (a b : Addr) (n l : Int) (hg : Good w a b n l) :
    ∃ w', (Instr.mapUpdate 117 (.map (some m)) (pk a b n l) (.bool true)).run Tryz.prog w = .ok () w' ∧ Pairs w' m ∧ w.grownBy w' (some m) := by
  have H := h
  obtain ⟨es, clock, h1, h2⟩ := h
  have hu := Tryz.underlying117
  have hk : ∀ e ∈ es.toList, KeyOk w e := fun e he => by
    obtain ⟨_, a', b', n', l', h4, h5⟩ := h2 e he
    exact ⟨a', b', n', l', h4, h5.blk.1, h5.blk.2⟩
  have hfk : (Instr.findKey 123 (pk a b n l) es.toList).run Tryz.prog w = (Instr.findAsking 123 (pk a b n l) es.toList).run Tryz.prog w := run_findKey_eq w (by kernel_rfl) _ _
  have grow : ∀ o : Obj, w.grownBy (ChangeMaps.setBlock w m o) (some m) := fun o => ⟨rfl, rfl, rfl, by simp [ChangeMaps.setBlock], fun i _ hi => ChangeMaps.heap_setBlock_other h1 _ (fun e => hi (by rw [e]))⟩
  rcases pk_find w a b n l hg.blk.1 hg.blk.2 es.toList 0 hk with h3 | ⟨j, e, h3, h4, h5⟩
  · refine ⟨ChangeMaps.setBlock w m (.map (es.push { key := pk a b n l, val := .bool true, born := clock }) (clock + 1)), by simp [Instr.mapUpdate, run_underlying hu, MapKept.run_getObj_map h1, pk_check, hfk, h3, MapKept.run_setObj_map _ h1, ChangeMaps.setBlock], ?_, grow _⟩
    have hkp := H.kp (grow (.map (es.push { key := pk a b n l, val := .bool true, born := clock }) (clock + 1)))
    refine ⟨_, _, ChangeMaps.heap_setBlock_same h1 _, fun e he => ?_⟩
    rw [Array.toList_push, List.mem_append] at he
    rcases he with he | he
    · obtain ⟨h6, a', b', n', l', h7, h8⟩ := h2 e he
      exact ⟨h6, a', b', n', l', h7, h8.keep hkp⟩
    · simp at he
      subst he
      exact ⟨rfl, a, b, n, l, rfl, hg.keep hkp⟩
  · have hj : es[j]? = some e := by simpa using h4
    refine ⟨ChangeMaps.setBlock w m (.map (es.modify j fun e => { e with key := pk a b n l, val := .bool true }) clock), by simp [Instr.mapUpdate, run_underlying hu, MapKept.run_getObj_map h1, pk_check, hfk, h3, hj, h5, pk_stays, MapKept.run_setObj_map _ h1, ChangeMaps.setBlock], ?_, grow _⟩
    have hkp := H.kp (grow (.map (es.modify j fun e => { e with key := pk a b n l, val := .bool true }) clock))
    refine ⟨_, _, ChangeMaps.heap_setBlock_same h1 _, fun x hx => ?_⟩
    obtain ⟨i, hi⟩ := List.getElem?_of_mem hx
    rw [Array.getElem?_toList, Array.getElem?_modify] at hi
    split at hi
    · cases hy : es[i]? with
      | none => rw [hy] at hi; cases hi
      | some y =>
        rw [hy] at hi
        simp at hi
        subst hi
        exact ⟨rfl, a, b, n, l, rfl, hg.keep hkp⟩
    · obtain ⟨h6, a', b', n', l', h7, h8⟩ := h2 x (List.mem_of_getElem? (by rw [Array.getElem?_toList]; exact hi))
      exact ⟨h6, a', b', n', l', h7, h8.keep hkp⟩

theorem wpList_pairs_update (w : World) {ops : Array Oper} {rest : List Oper} {o : Oper} {a : Act} {Q : Exit → Act → World → Prop}
    (hg : o.guard = none) (m x v : Operand) (hop : o.op = Op.mapUpdate 117 m x v) (b : Nat)
    (hm : a.eval m = .map (some b)) (hown : Pairs w b) (p q : Addr) (n l : Int) (hx : a.eval x = pk p q n l) (hv : a.eval v = .bool true) (hgood : Good w p q n l)
    (hK : ∀ w', Pairs w' b → w.grownBy w' (some b) → wpList Tryz.prog ops Q rest (a.put o.dst undef) w') :
    wpList Tryz.prog ops Q (o :: rest) a w := by
  refine wpList_plain hg fun K' hK' => ?_
  obtain ⟨w', hrun, r1, r2⟩ := pairs_update hown p q n l hgood
  unfold Oper.wp
  simp [execOp, hop, hm, hx, hv, hrun, Result.andThen]
  exact hK' _ _ (hK w' r1 r2)
theorem wpList_pairs_lookup (w : World) {ops : Array Oper} {rest : List Oper} {o : Oper} {a : Act} {Q : Exit → Act → World → Prop}
    (hg : o.guard = none) (m x : Operand) (hop : o.op = Op.lookup 117 m x false) (b : Nat)
    (hm : a.eval m = .map (some b)) (hown : Pairs w b) (p q : Addr) (n l : Int) (hx : a.eval x = pk p q n l) (hp : Blk w p.block) (hq : Blk w q.block)
    (hK : ∀ v : Bool, (v = true → Good w p q n l) → wpList Tryz.prog ops Q rest (a.put o.dst (.bool v)) w) :
    wpList Tryz.prog ops Q (o :: rest) a w := by
  refine wpList_plain hg fun K' hK' => ?_
  obtain ⟨v, hrun, r1⟩ := pairs_lookup hown p q n l hp hq
  unfold Oper.wp
  simp [execOp, hop, hm, hx, hrun, Result.andThen]
  exact hK' _ _ (hK v r1)
end Go.Proofs.YtifchfecfkdjlaaGreatDoor
