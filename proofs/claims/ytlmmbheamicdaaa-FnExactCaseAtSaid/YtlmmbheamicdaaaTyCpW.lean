/-
  The walk of the program's copyType: the same tree in memory of its own.
-/
import Derived.Test.YtlmmbheamicdaaaTyCp
import Derived.Test.YtlmmbheamicdaaaRowGen
import Derived.Test.YtlmmbheamicdaaaNums
namespace Go.Proofs.Ytlmmbheamicdaaa
open Go.ChangeShapes Go.WideShapes Go.ChangeAt Go.RowKit Go.Deep

/-- An append whose run is known to be there, at the operation. -/
theorem wpList_append_ex {P : Program} (w : World) {ops : Array Oper} {rest : List Oper} {o : Oper} {a : Act} {Q : Exit → Act → World → Prop} {S : Value → World → Prop} (hg : o.guard = none) (s x : Operand) (t : TypeId)
    (ho : o.op = .call { callee := .builtin .append, args := #[s, x], argTypes := #[t, t] }) (v u : Value) (hs : a.eval s = v) (hx : a.eval x = u) (hr : ∀ ty, ∃ v' w', (Builtin.append_ #[t, t] ty #[v, u]).run P w = .ok v' w' ∧ S v' w')
    (hK : ∀ v' w', S v' w' → wpList P ops Q rest (a.put o.dst v') w') : wpList P ops Q (o :: rest) a w := by
  refine wpList_plain hg fun K' hK' => ?_
  obtain ⟨v', w', h1, h2⟩ := hr o.type
  unfold Oper.wp execOp
  simp only [ho, resolve, invoke, builtin, Sem.run_bind, Sem.run_pure, Result.andThen_ok, List.map_toArray, List.map_cons, List.map_nil, hs, hx, h1]
  exact hK' _ _ (hK v' w' h2)
theorem blk_new0 (w : World) (a b : Array Value) (t : TypeId) : Blk ((w.alloc (.cells a t)).alloc (.cells b t)) w.heap.size := ⟨a, t, (heap_alloc_old _ _ (by simp)).trans (heap_alloc_new w _)⟩
theorem blk_new1 (w : World) (a b : Array Value) (t : TypeId) : Blk ((w.alloc (.cells a t)).alloc (.cells b t)) (w.heap.size + 1) := ⟨b, t, by
  have h := heap_alloc_new (w.alloc (.cells a t)) (.cells b t)
  simpa using h⟩
theorem ownsRow_uniq {w : World} {base : Nat} {e : TypeId} {size n : Nat} {v : Value} {xs ys : List Value} (h : w.ownsRow base e size v n xs) (k : w.ownsRow base e size v n ys) : xs = ys := by
  rcases h.2 with ⟨e1, e2⟩ | ⟨g, cap, cur, e1, _, hb, _, _, _, ht⟩
  · have hx := h.1
    have hy := k.1
    subst e2
    rw [Nat.zero_mul] at hx hy
    rw [List.eq_nil_of_length_eq_zero hx, List.eq_nil_of_length_eq_zero hy]
  · rcases k.2 with ⟨e3, _⟩ | ⟨g', cap', cur', e3, _, hb', _, _, _, ht'⟩
    · rw [e1] at e3
      cases e3
    · rw [e1] at e3
      cases e3
      rw [hb] at hb'
      cases hb'
      exact ht.symm.trans ht'
def CpPost (T : Ty) (w : World) (e : Ending) (w' : World) : Prop := ∃ (A B : Option Addr) (ca cb : Nat) (bs : List Nat), e = .returned (.agg #[.int .i64 T.kind, .string T.name, .slice A T.labels.length ca, .slice B T.kids.length cb]) ∧ Ty.Own w' T A B bs ∧ bs.Nodup ∧ (∀ b ∈ bs, w.heap.size ≤ b ∧ b < w'.heap.size) ∧ Below w.heap.size w w'
def Cp (T : Ty) : Prop := ∀ (A B : Option Addr) (ca cb lo : Nat) (w : World), Ty.At w lo T A B → Calls Try.prog 92 #[.agg #[.int .i64 T.kind, .string T.name, .slice A T.labels.length ca, .slice B T.kids.length cb]] w (CpPost T w)
theorem kids_end {wr : World} {T : Ty} {R1 R : Option Addr} {b1 bs : List Nat} {Wn : World} {x y : Nat} (h1 : StrsOwn wr T.labels R1 b1) (h2 : Ty.RowsOwn wr T.kids R bs) (hk : KeptBut [x, y] wr Wn) (hn : ∀ b ∈ b1 ++ bs, b ≠ x ∧ b ≠ y) : Ty.Own Wn T R1 R (b1 ++ bs) := by
  have h : Ty.Own wr T R1 R (b1 ++ bs) := Ty.own_eq.mpr ⟨b1, bs, rfl, h1, h2⟩
  exact h.keep hk (fun b hb => by
    have := hn b hb
    simp
    exact this)
theorem cell_row4 (w : World) (v0 v1 v2 v3 : Value) (t : TypeId) : ∀ j u, [v0, v1, v2, v3][j]? = some u → (w.alloc (.cells #[v0, v1, v2, v3] t)).cell? ((⟨w.heap.size, 0, none⟩ : Addr).add j) = some u := by
  intro j u hj
  have hadd : (⟨w.heap.size, 0, none⟩ : Addr).add j = ⟨w.heap.size, j, none⟩ := by unfold Addr.add; split <;> simp_all
  rw [hadd]
  rcases j with _ | _ | _ | _ | j
  · simp at hj
    subst hj
    go_simp
  · simp at hj
    subst hj
    go_simp
  · simp at hj
    subst hj
    go_simp
  · simp at hj
    subst hj
    go_simp
  · simp at hj

set_option maxHeartbeats 4000000 in
set_option maxRecDepth 100000 in
theorem copyType_any (T : Ty) (hT : T.wt ≤ 1048576) : Cp T := by
  induction T using Ty.kidInd with
  | h T ih =>
    intro A B ca cb lo w hat
    obtain ⟨q1, q2, q3, _, _⟩ := Ty.len_le hT
    have IH : Hid (∀ (i : Nat) (t : Ty), T.kids[i]? = some t → Cp t) := Lib.hid (fun i t ht => ih i t ht (q3 i t ht))
    have HR := Lib.hid hat.rowAt
    have HSS := Lib.hid hat.strs
    have HS : Hid (∀ ty, ∃ v' w', (Builtin.append_ #[22, 22] ty #[.slice none 0 0, .slice A T.labels.length ca]).run Try.prog ((w.alloc (.cells #[.int .i64 T.kind, .string T.name, .slice A T.labels.length ca, .slice B T.kids.length cb] 30)).alloc (.cells #[.int .i64 0, .string ⟨#[]⟩, .slice none 0 0, .slice none 0 0] 30)) = .ok v' w' ∧ (∃ (R : Option Addr) (c : Nat) (bs : List Nat), v' = .slice R T.labels.length c ∧ StrsOwn w' T.labels R bs ∧ bs.Nodup ∧ (∀ b ∈ bs, w.heap.size + 2 ≤ b ∧ b < w'.heap.size) ∧ Below ((w.alloc (.cells #[.int .i64 T.kind, .string T.name, .slice A T.labels.length ca, .slice B T.kids.length cb] 30)).alloc (.cells #[.int .i64 0, .string ⟨#[]⟩, .slice none 0 0, .slice none 0 0] 30)).heap.size ((w.alloc (.cells #[.int .i64 T.kind, .string T.name, .slice A T.labels.length ca, .slice B T.kids.length cb] 30)).alloc (.cells #[.int .i64 0, .string ⟨#[]⟩, .slice none 0 0, .slice none 0 0] 30)) w')) := Lib.hid (fun ty => by
      obtain ⟨R, c, w', bs, h1, h2, h3, h4, h5⟩ := appStrs T.labels q1 A ca lo (w.heap.size + 2) ty ((w.alloc (.cells #[.int .i64 T.kind, .string T.name, .slice A T.labels.length ca, .slice B T.kids.length cb] 30)).alloc (.cells #[.int .i64 0, .string ⟨#[]⟩, .slice none 0 0, .slice none 0 0] 30)) (HSS.out.below (below2 _ _ _)) none 0 (World.ownsRow_nil _ _ _ _) (by simp)
      exact ⟨_, w', h1, R, c, bs, rfl, h2, h3, h4, grown_below h5⟩)
    obtain ⟨i0, hi, hz0, hz1, hz2⟩ := info_parts infoTypeC
    clear ih hat q3 hT
    go_enter Try.func92, Try.ntmps92
    go_wp2_with (at_builtin; refine wpList_append_ex _ rfl _ _ 22 rfl (.slice none 0 0) (.slice A T.labels.length ca) rfl rfl HS.out ?_; rintro v1 w1 ⟨R1, c1, b1, rfl, hso, hnd, hbl, hb1⟩; have k0 := keepCell (a := ⟨w.heap.size, 0, none⟩) (v := .int .i64 T.kind) hb1 (by go_simp); have k1 := keepCell (a := ⟨w.heap.size, 1, none⟩) (v := .string T.name) hb1 (by go_simp); have k2 := keepCell (a := ⟨w.heap.size, 2, none⟩) (v := .slice A T.labels.length ca) hb1 (by go_simp); have k3 := keepCell (a := ⟨w.heap.size, 3, none⟩) (v := .slice B T.kids.length cb) hb1 (by go_simp); have r0 := keepCell (a := ⟨w.heap.size + 1, 0, none⟩) (v := .int .i64 0) hb1 (by go_simp); have r1 := keepCell (a := ⟨w.heap.size + 1, 1, none⟩) (v := .string ⟨#[]⟩) hb1 (by go_simp); have r2 := keepCell (a := ⟨w.heap.size + 1, 2, none⟩) (v := .slice none 0 0) hb1 (by go_simp); have r3 := keepCell (a := ⟨w.heap.size + 1, 3, none⟩) (v := .slice none 0 0) hb1 (by go_simp); have bk0 : Blk w1 w.heap.size := Blk.below (blk_new0 _ _ _ _) hb1; have bk1 : Blk w1 (w.heap.size + 1) := Blk.below (blk_new1 _ _ _ _) hb1; have f0 := fun o => bk0.free o; have f1 := fun o => bk1.free o)
    have hz1 : w.heap.size + 1 < w1.heap.size := World.block_lt_of_cell? w1 _ r0
    have HB1 : Hid (Below w.heap.size w (w1.setCell ⟨w.heap.size, 2, none⟩ (.slice R1 T.labels.length c1))) := Lib.hid ((bnext (below2 _ _ _) hb1).setCell (Nat.le_refl _) _)
    have HSO : Hid (StrsOwn (w1.setCell ⟨w.heap.size, 2, none⟩ (.slice R1 T.labels.length c1)) T.labels R1 b1) := Lib.hid (hso.keep (KeptBut.setCell (bs := [w.heap.size]) (by simp) _) (fun b hb => by have := hbl b hb; simp; omega))
    have HBL : Hid (∀ b ∈ b1, w.heap.size + 2 ≤ b ∧ b < (w1.setCell ⟨w.heap.size, 2, none⟩ (.slice R1 T.labels.length c1)).heap.size) := Lib.hid (fun b hb => by have := hbl b hb; simp; omega)
    have HND := Lib.hid hnd
    have m0 : (w1.setCell ⟨w.heap.size, 2, none⟩ (.slice R1 T.labels.length c1)).cell? ⟨w.heap.size, 0, none⟩ = some (.int .i64 T.kind) := by rw [cell_two k0 k2]; rfl
    have m1 : (w1.setCell ⟨w.heap.size, 2, none⟩ (.slice R1 T.labels.length c1)).cell? ⟨w.heap.size, 1, none⟩ = some (.string T.name) := by rw [cell_two k1 k2]; rfl
    have m2 : (w1.setCell ⟨w.heap.size, 2, none⟩ (.slice R1 T.labels.length c1)).cell? ⟨w.heap.size, 2, none⟩ = some (.slice R1 T.labels.length c1) := by rw [cell_two k2 k2]; rfl
    have m3 : (w1.setCell ⟨w.heap.size, 2, none⟩ (.slice R1 T.labels.length c1)).cell? ⟨w.heap.size, 3, none⟩ = some (.slice B T.kids.length cb) := by rw [cell_two k3 k2]; rfl
    have n0 : (w1.setCell ⟨w.heap.size, 2, none⟩ (.slice R1 T.labels.length c1)).cell? ⟨w.heap.size + 1, 0, none⟩ = some (.int .i64 0) := (World.cell?_setCell_other _ _ _ _ (fun e => by injection e with e1; omega)).trans r0
    have n1 : (w1.setCell ⟨w.heap.size, 2, none⟩ (.slice R1 T.labels.length c1)).cell? ⟨w.heap.size + 1, 1, none⟩ = some (.string ⟨#[]⟩) := (World.cell?_setCell_other _ _ _ _ (fun e => by injection e with e1; omega)).trans r1
    have n2 : (w1.setCell ⟨w.heap.size, 2, none⟩ (.slice R1 T.labels.length c1)).cell? ⟨w.heap.size + 1, 2, none⟩ = some (.slice none 0 0) := (World.cell?_setCell_other _ _ _ _ (fun e => by injection e with e1; omega)).trans r2
    have n3 : (w1.setCell ⟨w.heap.size, 2, none⟩ (.slice R1 T.labels.length c1)).cell? ⟨w.heap.size + 1, 3, none⟩ = some (.slice none 0 0) := (World.cell?_setCell_other _ _ _ _ (fun e => by injection e with e1; omega)).trans r3
    have BK := Lib.hid (blk_set bk0 ⟨w.heap.size, 2, none⟩ (.slice R1 T.labels.length c1))
    have BR := Lib.hid (blk_set bk1 ⟨w.heap.size, 2, none⟩ (.slice R1 T.labels.length c1))
    have hz3 : w.heap.size + 2 ≤ (w1.setCell ⟨w.heap.size, 2, none⟩ (.slice R1 T.labels.length c1)).heap.size := by simp; omega
    clear k0 k1 k2 k3 r0 r1 r2 r3 hso hnd hbl hb1 bk0 bk1 hz1
    generalize (w1.setCell ⟨w.heap.size, 2, none⟩ (.slice R1 T.labels.length c1)) = W3 at *
    go_loopw [3, 13] (fun ks i wr => ∃ j : Nat, j ≤ T.kids.length ∧ i = .int .i64 j ∧ ∃ (R : Option Addr) (c : Nat), ks = .slice R j c ∧ Hid (KidsO W3.heap.size T.kids j R c wr) ∧ Hid (Below W3.heap.size W3 wr)) (fun _ i _ => T.kids.length - (intOf i).toNat)
    case atStart => exact ⟨0, Nat.zero_le _, rfl, none, 0, rfl, KidsO.start _ _ _, Below.refl _ _⟩
    case round =>
      obtain ⟨j, hj, rfl, R, c, rfl, HK, HB⟩ := hrel
      have HBW := Lib.hid (HB1.out.trans (HB.out.mono HB1.out.size))
      by_cases hlt : j < T.kids.length
      · obtain ⟨b, o, t, A', B', ca', cb', rfl, _, htk, hc⟩ := (HR.out.below HBW.out).at_ hlt
        have C := Lib.hid (IH.out j t htk A' B' ca' cb' lo)
        have HTR := Lib.hid hc.tree
        have HT := Lib.hid htk
        have hlj : (j : Int) < (T.kids.length : Int) := by omega
        obtain ⟨c0, c1', c2, c3, _⟩ := hc
        obtain ⟨tvs, bsr, p1, p2, p3, p4, p5, p6⟩ := HK.out
        have P2 := Lib.hid p2
        have hzr := HB.out.size
        clear htk p1 p2 p3 p4 p5 p6
        go_wp2_with fail
        go_at_call 92
        refine (C.out _ (HTR.out.below (below1 _ _))).mono ?_
        rintro e w2 ⟨A2, B2, ca2, cb2, bs2, rfl, ho2, hn2, hb2, hbb2⟩
        have HO2 := Lib.hid ho2
        have HN2 := Lib.hid hn2
        have HBS2 : Hid (∀ b ∈ bs2, wr.heap.size ≤ b ∧ b < w2.heap.size) := Lib.hid (fun b hb => by have := hb2 b hb; simp at this; omega)
        have HB2 := Lib.hid (bnext (below1 _ _) hbb2)
        have hzw := HB2.out.size
        have P3 := Lib.hid (ownsRow_below P2.out HB2.out)
        clear ho2 hn2 hb2 hbb2 C c0 c1' c2 c3
        go_wp2_with (at_builtin; refine wpList_append_lies _ rfl _ _ 28 rfl W3.heap.size 30 i0 _ 4 72 Try.underlying28 hi hz0 hz1 hz2 rfl (by decide) (.slice R j c) j (tvs.flatMap TV.cells) rfl (P3.out.alloc _) ⟨w2.heap.size, 0, none⟩ 1 1 [.int .i64 t.kind, .string t.name, .slice A2 t.labels.length ca2, .slice B2 t.kids.length cb2] rfl rfl (cell_row4 _ _ _ _ _ _) ?c32 (by omega) ?c33 ?c34 ?c35 _ rfl ?_)
        case c32 => simp [Value.oneCell']
        case c33 => unfold maxLen; omega
        case c34 => omega
        case c35 => simp; omega
        intro g cap w4 hown4 hgrow4 hat4 hlt4
        have HK4 : Hid (KidsO W3.heap.size T.kids (j + 1) (some ⟨g, 0, none⟩) cap w4) := Lib.hid (KidsO.step HK.out HT.out HO2.out HN2.out HBS2.out HB2.out (by omega) (below1 _ _) hgrow4 (hat4.imp id (fun h => by rw [h]; simp)) (fun xs hxs => by
          rw [ownsRow_uniq hxs (P3.out.alloc _)]
          exact hown4))
        have HB4 := Lib.hid ((bchain HB.out (bnext HB2.out (below1 _ _)) hzr).grown hgrow4 (by simp; omega) (own_block_ge P3.out))
        clear hown4 hgrow4 hat4 hlt4
        go_wp2_with fail
        go_roundw
        case rel => exact ⟨j + 1, by omega, by go_num, some ⟨g, 0, none⟩, cap, rfl, HK4.out, HB4.out⟩
        case measure => simp [intOf]; omega
      · have hj' : j = T.kids.length := by omega
        subst hj'
        have hlj : ¬ (T.kids.length : Int) < (T.kids.length : Int) := by omega
        obtain ⟨bs2, hro, hnd2, hbs2⟩ := HK.out.done
        have e0 := keepCell HB.out m0
        have e1 := keepCell HB.out m1
        have e2 := keepCell HB.out m2
        have e3 := keepCell HB.out m3
        have q0 := keepCell HB.out n0
        have q1 := keepCell HB.out n1
        have q2 := keepCell HB.out n2
        have q3 := keepCell HB.out n3
        have bkr := (BK.out.below HB.out).free
        have brr := (BR.out.below HB.out).free
        have f0 := fun o => bkr o
        have f1 := fun o => brr o
        have HRO := Lib.hid hro
        have HN2 := Lib.hid hnd2
        have HBS2 := Lib.hid hbs2
        have HSO2 := Lib.hid (HSO.out.keep (KeptBut.of_below (bs := []) HB.out) (by simp))
        clear hro hnd2 hbs2 m0 m1 m2 m3 n0 n1 n2 n3
        have hzr := HB.out.size
        go_wp2_with fail
        have kk := sets_in (wr.setCell ⟨w.heap.size, 3, none⟩ (.slice R T.kids.length c)) (w.heap.size + 1) [.int .i64 T.kind, .string T.name, .slice R1 T.labels.length c1, .slice R T.kids.length c] (fun j hj => by
          have h4 : j = 0 ∨ j = 1 ∨ j = 2 ∨ j = 3 := by simp at hj; omega
          rcases h4 with rfl | rfl | rfl | rfl <;> simp [World.cell?_setCell_other, q0, q1, q2, q3])
        have s0 := kk 0 (by simp)
        have s1 := kk 1 (by simp)
        have s2 := kk 2 (by simp)
        have s3 := kk 3 (by simp)
        simp only [World.setCells, List.getElem_cons_zero, List.getElem_cons_succ, Nat.zero_add, Nat.reduceAdd] at s0 s1 s2 s3
        clear kk
        refine bodyPost_ret (v := .agg #[.int .i64 T.kind, .string T.name, .slice R1 T.labels.length c1, .slice R T.kids.length c]) (by simp [results, Try.results92, go_sem, s0, s1, s2, s3]) rfl ?_
        refine ⟨R1, R, c1, c, b1 ++ bs2, rfl, kids_end (x := w.heap.size) (y := w.heap.size + 1) HSO2.out HRO.out ?_ ?_, ?_, ?_, ?_⟩
        · exact ((((KeptBut.setCell (by simp) _).trans (KeptBut.setCell (by simp) _)).trans (KeptBut.setCell (by simp) _)).trans (KeptBut.setCell (by simp) _)).trans (KeptBut.setCell (by simp) _)
        · intro b hb
          rcases List.mem_append.1 hb with hb | hb
          · have := HBL.out b hb
            omega
          · have := HBS2.out b hb
            omega
        · rw [List.nodup_append]
          exact ⟨HND.out, HN2.out, fun x hx y hy e => by
            have h1 := HBL.out x hx
            have h2 := HBS2.out y hy
            omega⟩
        · intro b hb
          simp
          rcases List.mem_append.1 hb with hb | hb
          · have := HBL.out b hb
            omega
          · have := HBS2.out b hb
            omega
        · exact ((((HBW.out.setCell (Nat.le_refl _) _).setCell (by simp) _).setCell (by simp) _).setCell (by simp) _).setCell (by simp) _
end Go.Proofs.Ytlmmbheamicdaaa
