/-
  Rows of types that own their memory, as append builds them; a list of strings copied by append.
-/
import Derived.Test.YtlmmbheamicdaabTyMD
import Derived.Test.YtlmmbheamicdaabTyAdd
import Derived.Deep.AppendLies
import Derived.Laws.OwnMore
namespace Go.Proofs.Ytlmmbheamicdaab
open Go.ChangeShapes Go.WideShapes Go.ChangeAt Go.RowKit Go.Deep

theorem infoTypeC : (Try.prog.info? 30).map (fun i => (i.zero, i.size, i.bytes)) = some (some (.agg #[.int .i64 0, .string ⟨#[]⟩, .slice none 0 0, .slice none 0 0]), 4, 72) := by kernel_rfl

/-- At a step of a drawn region: an append whose run is known. -/
theorem step_append_run {P : Program} {ops : Array Oper} {o : Oper} {a : Act} {w : World} {K : Act → World → Prop} {Q : Exit → Act → World → Prop} {E : Prop} (hgd : o.guard = none) (s x : Operand) (t : TypeId)
    (ho : o.op = .call { callee := .builtin .append, args := #[s, x], argTypes := #[t, t] }) (v u v' : Value) (w' : World) (hs : a.eval s = v) (hx : a.eval x = u) (hr : (Builtin.append_ #[t, t] o.type #[v, u]).run P w = .ok v' w') (h : K (a.put o.dst v') w') :
    if Region.wanted o (yielded ops a.tmps) = true then Oper.wp P o a w K Q else E := by
  have hw : Region.wanted o (yielded ops a.tmps) = true := by simp [Region.wanted, hgd]
  rw [if_pos hw]
  unfold Oper.wp execOp
  simp only [ho, resolve, invoke, builtin, Sem.run_bind, Sem.run_pure, Result.andThen_ok, List.map_toArray, List.map_cons, List.map_nil, hs, hx, hr]
  exact h

/-- The same, where the run is known to be there. -/
theorem step_append_ex {P : Program} {ops : Array Oper} {o : Oper} {a : Act} {w : World} {K : Act → World → Prop} {Q : Exit → Act → World → Prop} {E : Prop} {S : Value → World → Prop} (hgd : o.guard = none) (s x : Operand) (t : TypeId)
    (ho : o.op = .call { callee := .builtin .append, args := #[s, x], argTypes := #[t, t] }) (v u : Value) (hs : a.eval s = v) (hx : a.eval x = u) (hr : ∀ ty, ∃ v' w', (Builtin.append_ #[t, t] ty #[v, u]).run P w = .ok v' w' ∧ S v' w') (h : ∀ v' w', S v' w' → K (a.put o.dst v') w') :
    if Region.wanted o (yielded ops a.tmps) = true then Oper.wp P o a w K Q else E := by
  obtain ⟨v', w', h1, h2⟩ := hr o.type
  exact step_append_run hgd s x t ho v u v' w' hs hx h1 (h v' w' h2)
/-- The same at a world that is named: whether it is this one is asked first. -/
theorem step_append_at {P : Program} {ops : Array Oper} {o : Oper} {a : Act} {w : World} {K : Act → World → Prop} {Q : Exit → Act → World → Prop} {E : Prop} {S : Value → World → Prop} (W0 : World) (hW : w = W0) (hgd : o.guard = none) (s x : Operand) (t : TypeId)
    (ho : o.op = .call { callee := .builtin .append, args := #[s, x], argTypes := #[t, t] }) (v u : Value) (hs : a.eval s = v) (hx : a.eval x = u) (hr : ∀ ty, ∃ v' w', (Builtin.append_ #[t, t] ty #[v, u]).run P W0 = .ok v' w' ∧ S v' w') (h : ∀ v' w', S v' w' → K (a.put o.dst v') w') :
    if Region.wanted o (yielded ops a.tmps) = true then Oper.wp P o a w K Q else E := by
  subst hW
  exact step_append_ex hgd s x t ho v u hs hx hr h
theorem grown_below {w w' : World} (h : w.grownBy w' none) : Below w.heap.size w w' := ⟨h.os, h.tape, h.output, h.size, fun k hk => h.block k hk (by simp)⟩

theorem appNone (ca : Nat) (ty : TypeId) (W : World) (R : Option Addr) (c : Nat) : (Builtin.append_ #[22, 22] ty #[.slice R 0 c, .slice none 0 ca]).run Try.prog W = .ok (.slice R 0 c) W := by
  obtain ⟨i0, hi, hz0, hz1, hz2⟩ := info_parts infoString
  have ht := Try.underlying22
  cases R <;> simp [Builtin.append_, run_underlying ht, sizeOf, typeInfo, zeroValue, hi, hz0, Builtin.lenOf, run_firstCells_none, storeCells]

theorem appStrs (ls : List ByteArray) (hl : ls.length ≤ 1048576) (A : Option Addr) (ca lo base : Nat) (ty : TypeId) (W : World) (h : Strs W lo ls A) (R0 : Option Addr) (c0 : Nat) (hv : W.ownsRow base 9 1 (.slice R0 0 c0) 0 []) (hb : base ≤ W.heap.size) :
    ∃ (R : Option Addr) (c : Nat) (w' : World) (bs : List Nat), (Builtin.append_ #[22, 22] ty #[.slice R0 0 c0, .slice A ls.length ca]).run Try.prog W = .ok (.slice R ls.length c) w' ∧ StrsOwn w' ls R bs ∧ bs.Nodup ∧ (∀ b ∈ bs, base ≤ b ∧ b < w'.heap.size) ∧ W.grownBy w' (Value.slice R0 0 c0).ownBlock := by
  obtain ⟨i0, hi, hz0, hz1, hz2⟩ := info_parts infoString
  by_cases hz : ls = []
  · subst hz
    cases A with
    | none => exact ⟨R0, c0, W, [], appNone ca ty W R0 c0, Or.inl ⟨rfl, rfl⟩, List.nodup_nil, by simp, ⟨rfl, rfl, rfl, Nat.le_refl _, fun _ _ _ => rfl⟩⟩
    | some a =>
      obtain ⟨v', w', hr, h2, h3, _, _⟩ := run_append_own_at (P := Try.prog) W base 22 ty 9 i0 _ 1 16 Try.underlying22 hi hz0 hz1 hz2 rfl (by decide) (.slice R0 0 c0) 0 [] hv a 0 ca [] (by simp) (by simp) (by simp) (by unfold maxLen; omega) (by omega) hb
      obtain ⟨R, c, rfl⟩ := own_form h2
      exact ⟨R, c, w', [], hr, Or.inl ⟨rfl, rfl⟩, List.nodup_nil, by simp, h3⟩
  · have hp : 0 < ls.length := List.length_pos_iff.2 hz
    obtain ⟨b, o, rfl, _, hc⟩ := h hp
    obtain ⟨v', w', hr, h2, h3, _, _⟩ := run_append_own_at (P := Try.prog) W base 22 ty 9 i0 _ 1 16 Try.underlying22 hi hz0 hz1 hz2 rfl (by decide) (.slice R0 0 c0) 0 [] hv ⟨b, o, none⟩ ls.length ca (ls.map Value.string) (by simp) (fun j u hu => by
      rw [List.getElem?_map] at hu
      cases hs : ls[j]? with
      | none => rw [hs] at hu; cases hu
      | some s =>
        rw [hs] at hu
        cases hu
        have hadd : (⟨b, o, none⟩ : Addr).add j = ⟨b, o + j, none⟩ := by unfold Addr.add; split <;> simp_all
        rw [hadd]
        exact hc j s hs) (by
      intro u hu
      obtain ⟨s, _, rfl⟩ := List.mem_map.1 hu
      rfl) (by unfold maxLen; omega) (by omega) hb
    rw [Nat.zero_add] at h2
    rw [List.nil_append] at h2
    obtain ⟨g, c, rfl, hg, hlt⟩ := h2.form hp
    refine ⟨_, c, w', [g], hr, Or.inr ⟨g, rfl, rfl, ?_, fun i s hs => ?_⟩, by simp, fun b hb => by simp at hb; subst hb; exact ⟨hg, hlt⟩, h3⟩
    · rcases h2.2 with ⟨_, h0⟩ | ⟨g2, cap2, cur, e, _, hc, _⟩
      · omega
      · injection e with e1
        injection e1 with e1
        injection e1 with e1
        subst e1
        exact ⟨cur, _, hc⟩
    · have h9 := h2.cells (g := g) rfl i (.string s) (by rw [List.getElem?_map, hs]; rfl)
      have hadd : (⟨g, 0, none⟩ : Addr).add i = ⟨g, i, none⟩ := by unfold Addr.add; split <;> simp_all
      rw [hadd] at h9
      exact h9

/-- Trees that own their memory, one behind the other. -/
def OwnL (w : World) : List TV → List Nat → Prop
  | [], bs => bs = []
  | x :: xs, bs => ∃ b1 b2, bs = b1 ++ b2 ∧ Ty.Own w x.t x.A x.B b1 ∧ OwnL w xs b2
theorem OwnL.keep {w w' : World} {cs : List Nat} (hk : KeptBut cs w w') : ∀ {xs : List TV} {bs : List Nat}, (∀ b ∈ bs, b ∉ cs) → OwnL w xs bs → OwnL w' xs bs
  | [], _, _, h => h
  | x :: xs, bs, hd, h => by
    obtain ⟨b1, b2, rfl, h1, h2⟩ := h
    exact ⟨b1, b2, rfl, h1.keep hk fun b hb => hd b (by simp [hb]), OwnL.keep hk (fun b hb => hd b (by simp [hb])) h2⟩
theorem OwnL.snoc {w : World} : ∀ {xs : List TV} {bs : List Nat}, OwnL w xs bs → ∀ {x : TV} {b1 : List Nat}, Ty.Own w x.t x.A x.B b1 → OwnL w (xs ++ [x]) (bs ++ b1)
  | [], bs, h, x, b1, hx => by
    obtain rfl : bs = [] := h
    exact ⟨b1, [], by simp, hx, rfl⟩
  | y :: ys, bs, h, x, b1, hx => by
    obtain ⟨b2, b3, rfl, h1, h2⟩ := h
    exact ⟨b2, b3 ++ b1, by simp, h1, OwnL.snoc h2 hx⟩
theorem OwnL.rowOwn {w : World} {g : Nat} : ∀ {xs : List TV} {bs : List Nat} {o : Nat}, OwnL w xs bs → (∀ (i : Nat) (v : Value), (xs.flatMap TV.cells)[i]? = some v → w.cell? ⟨g, o + i, none⟩ = some v) → Ty.RowOwn w (xs.map TV.t) g o bs
  | [], bs, o, h, _ => by
    obtain rfl : bs = [] := h
    rw [List.map_nil]
    unfold Ty.RowOwn
    rfl
  | x :: xs, bs, o, h, hc => by
    obtain ⟨b1, b2, rfl, h1, h2⟩ := h
    rw [List.map_cons]
    unfold Ty.RowOwn
    refine ⟨x.A, x.B, x.ca, x.cb, b1, b2, rfl, ⟨hc 0 _ (by simp [TV.cells]), hc 1 _ (by simp [TV.cells]), hc 2 _ (by simp [TV.cells]), hc 3 _ (by simp [TV.cells])⟩, h1, OwnL.rowOwn h2 fun i v hv => ?_⟩
    rw [show o + 4 + i = o + (i + 4) by omega]
    refine hc (i + 4) v ?_
    rw [List.flatMap_cons, List.getElem?_append_right (by simp [TV.cells])]
    simpa [TV.cells] using hv

/-- So many kids are copied: the row as append has built it, and the kids' blocks. -/
def KidsO (base : Nat) (ks : List Ty) (j : Nat) (R : Option Addr) (c : Nat) (w : World) : Prop :=
  ∃ tvs bs, tvs.map TV.t = ks.take j ∧ w.ownsRow base 30 4 (.slice R j c) j (tvs.flatMap TV.cells) ∧ OwnL w tvs bs ∧ bs.Nodup ∧ (∀ b ∈ bs, base ≤ b ∧ b < w.heap.size) ∧ ∀ g, (Value.slice R j c).ownBlock = some g → g ∉ bs
theorem KidsO.start (base : Nat) (ks : List Ty) (w : World) : KidsO base ks 0 none 0 w := ⟨[], [], by simp, World.ownsRow_nil _ _ _ _, rfl, List.nodup_nil, by simp, by simp⟩
theorem KidsO.done {base : Nat} {ks : List Ty} {R : Option Addr} {c : Nat} {w : World} (h : KidsO base ks ks.length R c w) : ∃ bs, Ty.RowsOwn w ks R bs ∧ bs.Nodup ∧ ∀ b ∈ bs, base ≤ b ∧ b < w.heap.size := by
  obtain ⟨tvs, bs, h1, h2, h3, h4, h5, h6⟩ := h
  rw [List.take_length] at h1
  by_cases hz : ks = []
  · subst hz
    exact ⟨[], Or.inl ⟨rfl, rfl⟩, List.nodup_nil, by simp⟩
  · have hp : 0 < ks.length := List.length_pos_iff.2 hz
    obtain ⟨g, cap, e, hb, hlt⟩ := h2.form hp
    injection e with e1 e2 e3
    subst e1
    have hg := h6 g rfl
    refine ⟨g :: bs, Or.inr ⟨g, bs, rfl, rfl, ?_, ?_⟩, ?_, ?_⟩
    · rcases h2.2 with ⟨_, h0⟩ | ⟨g2, cap2, cur, e, _, hc, _⟩
      · omega
      · injection e with e1
        injection e1 with e1
        injection e1 with e1
        subst e1
        exact ⟨cur, _, hc⟩
    · rw [← h1]
      refine OwnL.rowOwn h3 fun i v hv => ?_
      have h9 := h2.cells (g := g) rfl i v hv
      rw [Nat.zero_add]
      have hadd : (⟨g, 0, none⟩ : Addr).add i = ⟨g, i, none⟩ := by unfold Addr.add; split <;> simp_all
      rw [hadd] at h9
      exact h9
    · rw [List.nodup_cons]
      exact ⟨hg, h4⟩
    · intro b hb'
      rcases List.mem_cons.1 hb' with rfl | hb'
      · exact ⟨hb, hlt⟩
      · exact h5 b hb'
/-- What leaves all old blocks as they were leaves the row. -/
theorem ownsRow_below {w w' : World} {base : Nat} {e : TypeId} {size n : Nat} {v : Value} {xs : List Value} (h : w.ownsRow base e size v n xs) (hb : Below w.heap.size w w') : w'.ownsRow base e size v n xs :=
  h.kept (row := none) ⟨hb.os, hb.tape, hb.output, hb.size, fun k hk _ => hb.block k hk⟩ (by rcases h2 : v.ownBlock with _ | k <;> simp)
theorem KidsO.below {base j c : Nat} {ks : List Ty} {R : Option Addr} {w w' : World} (h : KidsO base ks j R c w) (hb : Below w.heap.size w w') : KidsO base ks j R c w' := by
  obtain ⟨tvs, bs, h1, h2, h3, h4, h5, h6⟩ := h
  exact ⟨tvs, bs, h1, ownsRow_below h2 hb, h3.keep (cs := []) (KeptBut.of_below hb) (by simp), h4, fun b hb' => ⟨(h5 b hb').1, Nat.lt_of_lt_of_le (h5 b hb').2 hb.size⟩, h6⟩
/-- A round: the kid's copy lies in new blocks, append has put it behind the others, and the row is stored in another block. -/
theorem KidsO.step {base j c : Nat} {ks : List Ty} {R : Option Addr} {w1 w2 w4 : World} (h : KidsO base ks j R c w1) {t : Ty} (ht : ks[j]? = some t) {A B : Option Addr} {ca cb : Nat} {b1 : List Nat} (hat : Ty.Own w2 t A B b1) (hnd : b1.Nodup) (hbs : ∀ b ∈ b1, w1.heap.size ≤ b ∧ b < w2.heap.size)
    (hb2 : Below w1.heap.size w1 w2) (hbase : base ≤ w1.heap.size) {w3 : World} (hb3 : Below w2.heap.size w2 w3) {g cap : Nat} (hgr : w3.grownBy w4 (Value.slice R j c).ownBlock) (hat2 : (Value.slice R j c).ownBlock = some g ∨ g = w3.heap.size)
    (how : ∀ xs, w3.ownsRow base 30 4 (.slice R j c) j xs → w4.ownsRow base 30 4 (.slice (some ⟨g, 0, none⟩) (j + 1) cap) (j + 1) (xs ++ [.int .i64 t.kind, .string t.name, .slice A t.labels.length ca, .slice B t.kids.length cb])) :
    KidsO base ks (j + 1) (some ⟨g, 0, none⟩) cap w4 := by
  obtain ⟨tvs, bs, h1, h2, h3, h4, h5, h6⟩ := h
  have hlt1 : ∀ k, (Value.slice R j c).ownBlock = some k → k < w1.heap.size := fun k hk => (h2.lt k hk).2
  have hs2 := hb2.size
  have hs3 := hb3.size
  have hs4 := hgr.size
  have hk4 : KeptBut (match (Value.slice R j c).ownBlock with | some k => [k] | none => []) w3 w4 := ⟨hgr.size, fun b hb hn => hgr.block b hb (fun e => hn (by rw [← e]; simp))⟩
  have hno1 : ∀ b ∈ bs, b ∉ (match (Value.slice R j c).ownBlock with | some k => [k] | none => ([] : List Nat)) := fun b hb hm => by
    cases he : (Value.slice R j c).ownBlock with
    | none => rw [he] at hm; simp at hm
    | some k => rw [he] at hm; simp at hm; subst hm; exact h6 b he hb
  have hno2 : ∀ b ∈ b1, b ∉ (match (Value.slice R j c).ownBlock with | some k => [k] | none => ([] : List Nat)) := fun b hb hm => by
    cases he : (Value.slice R j c).ownBlock with
    | none => rw [he] at hm; simp at hm
    | some k =>
      rw [he] at hm
      simp at hm
      subst hm
      have := hlt1 b he
      have := (hbs b hb).1
      omega
  have hwn := how _ (ownsRow_below (ownsRow_below h2 hb2) hb3)
  refine ⟨tvs ++ [⟨t, A, B, ca, cb⟩], bs ++ b1, ?_, ?_, ?_, ?_, ?_, ?_⟩
  · rw [List.map_append, h1, Ty.take_succ ht]
    rfl
  · rw [List.flatMap_append]
    simpa [TV.cells] using hwn
  · exact OwnL.snoc ((((h3.keep (cs := []) (KeptBut.of_below hb2) (by simp)).keep (cs := []) (KeptBut.of_below hb3) (by simp))).keep hk4 hno1) (x := ⟨t, A, B, ca, cb⟩) ((hat.keep (cs := []) (KeptBut.of_below hb3) (by simp)).keep hk4 hno2)
  · rw [List.nodup_append]
    exact ⟨h4, hnd, fun a ha b hb e => by have := (h5 a ha).2; have := (hbs b hb).1; omega⟩
  · intro b hb
    rcases List.mem_append.1 hb with hb | hb
    · have := h5 b hb
      omega
    · have := hbs b hb
      omega
  · intro k hk hm
    have hk' : g = k := by simpa [Value.ownBlock] using hk
    subst hk'
    rcases hat2 with h9 | h9
    · rcases List.mem_append.1 hm with hm | hm
      · exact h6 g h9 hm
      · have := hlt1 g h9
        have := (hbs g hm).1
        omega
    · rcases List.mem_append.1 hm with hm | hm
      · have := (h5 g hm).2
        omega
      · have := (hbs g hm).2
        omega
end Go.Proofs.Ytlmmbheamicdaab
