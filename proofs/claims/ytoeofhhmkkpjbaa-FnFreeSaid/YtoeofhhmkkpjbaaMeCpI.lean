/-
  The walk of the program's copy of a memory.
-/
import Derived.Test.YtoeofhhmkkpjbaaMeOwnS
import Derived.Test.YtoeofhhmkkpjbaaStWSBk
import Derived.Laws.CopyOwn
namespace Go.Proofs.Ytoeofhhmkkpjbaa
open Go.ChangeShapes Go.WideShapes Go.ChangeAt Go.RowKit Go.Deep

/-- A whole row of elements of two cells is copied. -/
theorem run_copy_two {P : Program} (w : World) (dT sT ty elem : TypeId) (g n dCap sCap : Nat) (a : Addr) (cur : Array Value) (t : TypeId) (cs : List Value)
    (hu : P.underlying dT = some (.slice elem)) (hs : (P.info? elem).map (·.size) = some 2)
    (hg : w.heap[g]? = some (.cells cur t (0, 0))) (hn : cs.length = n * 2)
    (hsrc : ∀ j v, cs[j]? = some v → w.cell? (a.add j) = some v) (hfit : cs.length = cur.size) (h1 : ∀ v ∈ cs, v.oneCell' = true) :
    (Builtin.copy_ #[dT, sT] ty #[.slice (some ⟨g, 0, none⟩) n dCap, .slice (some a) n sCap]).run P w = .ok (goInt n) (w.setRow g cs.toArray) := by
  have hl := run_loadCells_list (P := P) w a cs hsrc
  have hst := run_storeCells_at P g 0 t cs 0 cur w hg (by simpa using Nat.le_of_eq hfit) h1
  have hd : cur.toList.drop cs.length = [] := List.drop_eq_nil_of_le (by simp; omega)
  simp only [Nat.add_zero, Nat.zero_add, List.take_zero, List.nil_append, hd, List.append_nil] at hst
  cases hq : P.info? elem with
  | none => simp [hq] at hs
  | some i =>
    have hi : i.size = 2 := by simpa [hq] using hs
    simp [Builtin.copy_, run_underlying hu, Builtin.lenOf, Builtin.firstCells, sizeOf, typeInfo, hq, hi, ← hn, hl, hst]
theorem run_copy_two0 {P : Program} (w : World) (dT sT ty elem : TypeId) (d a : Option Addr) (dCap sCap : Nat)
    (hu : P.underlying dT = some (.slice elem)) (hs : (P.info? elem).map (·.size) = some 2) :
    (Builtin.copy_ #[dT, sT] ty #[.slice d 0 dCap, .slice a 0 sCap]).run P w = .ok (goInt 0) w := by
  cases hq : P.info? elem with
  | none => simp [hq] at hs
  | some i =>
    have hl : ∀ (x : Addr), (loadCells x 0).run P w = .ok #[] w := fun x => by simpa using run_loadCells_list (P := P) w x [] (by simp)
    cases d <;> cases a <;> simp [Builtin.copy_, run_underlying hu, Builtin.lenOf, Builtin.firstCells, sizeOf, typeInfo, hq, storeCells, hl]
/-- At an operation: a copy whose run is known. -/
theorem wpCopyEx7 {P : Program} (w : World) {ops : Array Oper} {rest : List Oper} {o : Oper} {a : Act} {Q : Exit → Act → World → Prop} {S : Value → World → Prop} (hg : o.guard = none) (d s : Operand) (dT sT : TypeId)
    (ho : o.op = .call { callee := .builtin .copy, args := #[d, s], argTypes := #[dT, sT] }) (v u : Value) (hd : a.eval d = v) (hs : a.eval s = u) (hr : ∀ ty, ∃ v' w', (Builtin.copy_ #[dT, sT] ty #[v, u]).run P w = .ok v' w' ∧ S v' w')
    (hK : ∀ v' w', S v' w' → wpList P ops Q rest (a.put o.dst v') w') : wpList P ops Q (o :: rest) a w := by
  refine wpList_plain hg fun K' hK' => ?_
  obtain ⟨v', w', h1, h2⟩ := hr o.type
  unfold Oper.wp execOp
  simp only [ho, resolve, invoke, builtin, Sem.run_bind, Sem.run_pure, Result.andThen_ok, List.map_toArray, List.map_cons, List.map_nil, hd, hs, h1]
  exact hK' _ _ (hK v' w' h2)
/-- A row made and copied over. -/
theorem cpBks (W : World) (g : Nat) (xs : List Bk) (hg : W.heap[g]? = some (.cells (madeCells #[.int .i64 0, .int .i64 0] (xs.length * 2)) 44 (0, 0))) (R : Option Addr) (c lo : Nat) (h : Bks W lo xs R) (hl : xs.length ≤ 1048576) (ty : TypeId) :
    ∃ v' w', (Builtin.copy_ #[36, 36] ty #[.slice (some ⟨g, 0, none⟩) xs.length xs.length, .slice R xs.length c]).run Try.prog W = .ok v' w' ∧ OwnBk w' g xs (some ⟨g, 0, none⟩) xs.length xs.length ∧ Kb [g] W w' := by
  obtain ⟨i0, hi, hz0, hz1, hz2⟩ := info_parts infoBlk2
  have hsz : (Try.prog.info? 44).map (·.size) = some 2 := by rw [hi, Option.map_some, hz1]
  have hmc : (madeCells #[.int .i64 0, .int .i64 0] (xs.length * 2)).size = xs.length * 2 := size_madeCells _ _
  cases xs with
  | nil =>
    refine ⟨_, W, run_copy_two0 W _ _ ty _ _ _ _ _ Try.underlying36 hsz, ⟨rfl, rfl, Or.inr ⟨g, 0, _, rfl, Nat.le_refl _, hg, Nat.le_refl _, by unfold maxLen; omega, hmc, rfl⟩⟩, Kb.refl _ _⟩
  | cons y ys =>
    obtain ⟨b, o, rfl, _, hc⟩ := h (by simp)
    have hr := run_copy_two (P := Try.prog) W 36 36 ty 44 g (y :: ys).length (y :: ys).length c ⟨b, o, none⟩ _ 44 (bkVals (y :: ys)) Try.underlying36 hsz hg (bkVals_len _) (fun j u hu => by
      rw [bkVals_nums, List.getElem?_map] at hu
      cases hj : (bkNums (y :: ys))[j]? with
      | none =>
        rw [hj] at hu
        cases hu
      | some x =>
        rw [hj] at hu
        obtain rfl : Value.int .i64 x = u := Option.some.inj hu
        have hadd : (⟨b, o, none⟩ : Addr).add j = ⟨b, o + j, none⟩ := by unfold Addr.add; split <;> simp_all
        rw [hadd]
        have hjl := (List.getElem?_eq_some_iff.1 hj).1
        rw [bkNums_len] at hjl
        have hz : (y :: ys)[j / 2]? = some ((y :: ys)[j / 2]'(by omega)) := List.getElem?_eq_getElem _
        obtain ⟨g0, g1⟩ := bkNums_get hz
        have hcc := hc _ _ hz
        rcases Nat.mod_two_eq_zero_or_one j with e | e
        · have e2 : j / 2 * 2 = j := by omega
          rw [e2, hj] at g0
          have := hcc.c0_
          rw [e2] at this
          rw [this, ← Option.some.inj g0]
        · have e2 : j / 2 * 2 + 1 = j := by omega
          rw [e2, hj] at g1
          have := hcc.c1_
          rw [Nat.add_assoc, e2] at this
          rw [this, ← Option.some.inj g1]) (by rw [bkVals_len, hmc]) (fun u hu => by
      rw [bkVals_nums] at hu
      obtain ⟨x, _, rfl⟩ := List.mem_map.1 hu
      rfl)
    refine ⟨_, _, hr, ⟨rfl, bkVals_len _, Or.inr ⟨g, _, _, rfl, Nat.le_refl _, setRow_heap W g _ _ _ _ hg, Nat.le_refl _, by unfold maxLen; omega, by simp [bkVals_len], ?_⟩⟩, rfl, rfl, rfl, ⟨by simp [World.setRow], fun k _ hk => setRow_other W g k _ (by simpa using hk)⟩⟩
    rw [List.take_of_length_le (by simp [bkVals_len])]
set_option maxHeartbeats 1000000 in
set_option maxRecDepth 100000 in
theorem copyMemory_any (x : Me) (hl : x.free.length ≤ 1048576) (R : Option Addr) (c lo : Nat) (w : World) (h : Me.At w lo x R) :
    Calls Try.prog 35 #[.agg #[.string x.bytes, .slice R x.free.length c]] w (MeOne x w) := by
  have H := Lib.hid h
  have hmk := fun W => make_row W 36 44 2 _ Try.underlying36 infoBlock x.free.length hl
  obtain ⟨L, hL, l0, l1, m0, m1, n0, n1⟩ : ∃ L, ((w.alloc (.cells #[.string x.bytes, .slice R x.free.length c] 38)).alloc (.cells #[.string ⟨#[]⟩, .slice none 0 0] 38)).alloc (.cells (madeCells #[.int .i64 0, .int .i64 0] (x.free.length * 2)) 44) = L ∧ L.cell? ⟨w.heap.size, 0, none⟩ = some (.string x.bytes) ∧ L.cell? ⟨w.heap.size, 1, none⟩ = some (.slice R x.free.length c) ∧ L.cell? ⟨w.heap.size + 1, 0, none⟩ = some (.string ⟨#[]⟩) ∧ L.cell? ⟨w.heap.size + 1, 1, none⟩ = some (.slice none 0 0) ∧ (∀ o, L.frozen? ⟨w.heap.size, o, none⟩ = false) ∧ (∀ o, L.frozen? ⟨w.heap.size + 1, o, none⟩ = false) :=
    ⟨_, rfl, by go_simp, by go_simp, by go_simp, by go_simp, (fun o => by go_simp), (fun o => by go_simp)⟩
  have hbL : Below w.heap.size w L := by rw [← hL]; exact below3 _ _ _ _
  have hgL : L.heap[w.heap.size + 1 + 1]? = some (.cells (madeCells #[.int .i64 0, .int .i64 0] (x.free.length * 2)) 44 (0, 0)) := by
    rw [← hL]
    have := heap_alloc_new ((w.alloc (.cells #[.string x.bytes, .slice R x.free.length c] 38)).alloc (.cells #[.string ⟨#[]⟩, .slice none 0 0] 38)) (.cells (madeCells #[.int .i64 0, .int .i64 0] (x.free.length * 2)) 44)
    simpa using this
  obtain ⟨v3, w3, hrun, hown, hkb⟩ := cpBks L (w.heap.size + 1 + 1) x.free hgL R c lo (Bks.below h hbL) hl 3
  have kc : ∀ b o v, b < w.heap.size + 2 → L.cell? ⟨b, o, none⟩ = some v → w3.cell? ⟨b, o, none⟩ = some v := fun b o v hb hv => hkb.but.cell (a := ⟨b, o, none⟩) (by simp; omega) hv
  have k0 : w3.cell? ⟨w.heap.size, 0, none⟩ = some (.string x.bytes) := kc _ _ _ (by omega) l0
  have k1 : w3.cell? ⟨w.heap.size, 1, none⟩ = some (.slice R x.free.length c) := kc _ _ _ (by omega) l1
  have q0 : w3.cell? ⟨w.heap.size + 1, 0, none⟩ = some (.string ⟨#[]⟩) := kc _ _ _ (by omega) m0
  have q1 : w3.cell? ⟨w.heap.size + 1, 1, none⟩ = some (.slice none 0 0) := kc _ _ _ (by omega) m1
  have hz : w.heap.size + 3 = L.heap.size := by rw [← hL]; simp
  have hfz : ∀ b, b < w.heap.size + 2 → w.heap.size ≤ b → ∀ o, w3.frozen? ⟨b, o, none⟩ = false := fun b hb hb2 o => by
    have h1 : w3.heap[b]? = L.heap[b]? := hkb.but.2 b (by omega) (by simp; omega)
    have h2 : L.frozen? ⟨b, o, none⟩ = false := by
      have e : b = w.heap.size ∨ b = w.heap.size + 1 := by omega
      rcases e with rfl | rfl
      · exact n0 o
      · exact n1 o
    simp only [World.frozen?, h1] at h2 ⊢
    exact h2
  have f0 := hfz w.heap.size (by omega) (Nat.le_refl _)
  have f1 := hfz (w.heap.size + 1) (by omega) (by omega)
  rw [← hL] at hrun
  have HO := Lib.hid hown
  have HB : Hid (Below w.heap.size w w3) := Lib.hid (hbL.trans (hkb.below (by simp; omega) hbL.size))
  clear h hbL hgL hown hkb kc hfz hL hz l0 l1 m0 m1 n0 n1
  go_enter Try.func35, Try.ntmps35
  go_wp2_with fail
  have hs := setTwo7 (w := w3.setCell ⟨w.heap.size, 1, none⟩ (.slice (some ⟨w.heap.size + 1 + 1, 0, none⟩) x.free.length x.free.length)) (v0 := .string x.bytes) (v1 := .slice (some ⟨w.heap.size + 1 + 1, 0, none⟩) x.free.length x.free.length) (farSet7 (by dsimp only; omega) q0) (farSet7 (by dsimp only; omega) q1)
  refine bodyPost_ret (v := .agg #[.string x.bytes, .slice (some ⟨w.heap.size + 1 + 1, 0, none⟩) x.free.length x.free.length]) (by simp [results, Try.results35, go_sem, hs.1, hs.2]) rfl ?_
  refine ⟨_, _, rfl, ?_, ?_⟩
  · exact ((((HO.out.far ⟨w.heap.size, 1, none⟩ (by dsimp only; omega) _).far ⟨w.heap.size + 1, 0, none⟩ (by dsimp only; omega) _).far ⟨w.heap.size + 1, 1, none⟩ (by dsimp only; omega) _).down (by omega))
  · exact ((HB.out.setCell (by dsimp only; omega) _).setCell (by dsimp only; omega) _).setCell (by dsimp only; omega) _
end Go.Proofs.Ytoeofhhmkkpjbaa
