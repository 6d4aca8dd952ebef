/-
  SeqS, SeqK, SeqC: in one text.
-/
import Derived.Test.YtlmmbheamicdaabFlatS
import Derived.RangeFuncNested
import Derived.RangeFuncBox
import Derived.RangeFuncBound
import Derived.RangeFuncCalls
import Derived.RangeFuncLeaves
import Derived.Shelf.Abstract
import Derived.Shelf.RegionOpen
import Derived.WalkKit
import Derived.OwnWalkIn
import Derived.TacticsInMore
import Derived.LoopNIn
import Derived.LoopIn
import Derived.Maps.AppendAt
import Derived.Maps.OwnIn
namespace Go.Proofs.Ytlmmbheamicdaab
open Go.ChangeShapes Go.WideShapes Go.ChangeAt Go.RowKit Go.Deep Go.Shelf

attribute [local go_sem] Oper.semAt_some

/-- What an iterator of numbers hands over. -/
def enc6 (x : Int) : Array Value := #[Value.int .i64 x]

/-- What a round of AppendSeq keeps: whatever lies neither in its box nor in the row that the box holds. -/
structure KpS (B : Nat) (W W' : World) : Prop where
  size : W.heap.size ≤ W'.heap.size
  bel : Below B W W'
  keep : ∀ v, Boxed W B 41 v → (∀ b, v.ownBlock = some b → b < W.heap.size) → ∃ v', Boxed W' B 41 v' ∧ (v'.ownBlock = v.ownBlock ∨ ∀ b, v'.ownBlock = some b → W.heap.size ≤ b) ∧ (∀ b, v'.ownBlock = some b → b < W'.heap.size) ∧
    ∀ k o, k ≠ B → v.ownBlock ≠ some k → W.heap[k]? = some o → o.isCells = true → W'.heap[k]? = some o
theorem Boxed.one {W : World} {B : Nat} {t : TypeId} {v u : Value} (h : Boxed W B t v) (k : Boxed W B t u) : v = u := by
  have h1 := (show W.heap[B]? = _ from h).symm.trans k
  simpa using h1
theorem KpS.trans {B : Nat} {a b c : World} (h : KpS B a b) (k : KpS B b c) : KpS B a c := ⟨Nat.le_trans h.size k.size, h.bel.trans k.bel, fun v hv hlt => by
  obtain ⟨v1, hb1, ho1, hl1, hk1⟩ := h.keep v hv hlt
  obtain ⟨v2, hb2, ho2, hl2, hk2⟩ := k.keep v1 hb1 hl1
  refine ⟨v2, hb2, ?_, hl2, fun j o hj hne hjo hc => hk2 j o hj ?_ (hk1 j o hj hne hjo hc) hc⟩
  · rcases ho2 with e2 | e2
    · rcases ho1 with e1 | e1
      · exact Or.inl (e2.trans e1)
      · exact Or.inr (fun b hb => e1 b (e2 ▸ hb))
    · exact Or.inr (fun b hb => Nat.le_trans h.size (e2 b hb))
  · rcases ho1 with e1 | e1
    · rw [e1]; exact hne
    · intro he
      have h1 := e1 j he
      have h2 := (Array.getElem?_eq_some_iff.1 hjo).1
      omega⟩
theorem KpS.loop (B : Nat) (W : World) (l : Nat) (o o' : Obj) (hl : B ≤ l) (h : W.heap[l]? = some o) (hc : o.isCells = false) : KpS B W (W.putObj l o') := by
  have hz : (W.putObj l o').heap.size = W.heap.size := by simp [World.putObj]
  refine ⟨by omega, ⟨rfl, rfl, rfl, by omega, fun k hk => World.putObj_heap_other (by omega)⟩, fun v hv hlt => ⟨v, ?_, Or.inl rfl, fun b hb => by rw [hz]; exact hlt b hb, fun k u _ _ hk hu => ?_⟩⟩
  · have hne : B ≠ l := by
      intro e
      rw [e] at hv
      have h2 := (show W.heap[l]? = _ from hv).symm.trans h
      rw [← Option.some.inj h2] at hc
      cases hc
    exact (World.putObj_heap_other hne).trans hv
  · have hne : k ≠ l := by
      intro e
      rw [e, h] at hk
      rw [Option.some.inj hk, hu] at hc
      cases hc
    exact (World.putObj_heap_other hne).trans hk
theorem KpS.round {B : Nat} {W w1 : World} {v v' : Value} {tmp : Obj} (hv : Boxed W B 41 v) (hv2 : Boxed (w1.setCell ⟨B, 0, none⟩ v') B 41 v') (hg : (W.alloc tmp).grownBy w1 v.ownBlock) (hat : v'.ownBlock = v.ownBlock ∨ v'.ownBlock = some (W.alloc tmp).heap.size) (hlt : ∀ b, v'.ownBlock = some b → b < w1.heap.size) (hbel : Below B W (w1.setCell ⟨B, 0, none⟩ v')) : KpS B W (w1.setCell ⟨B, 0, none⟩ v') := by
  have hs1 := hg.size
  rw [World.size_alloc] at hs1
  have hz : (w1.setCell ⟨B, 0, none⟩ v').heap.size = w1.heap.size := by simp [World.setCell]
  refine ⟨by omega, hbel, fun u hu _ => ?_⟩
  obtain rfl := Boxed.one hv hu
  refine ⟨v', hv2, ?_, fun b hb => by rw [hz]; exact hlt b hb, fun k o hk hne hko _ => ?_⟩
  · rcases hat with e | e
    · exact Or.inl e
    · refine Or.inr (fun b hb => ?_)
      rw [e] at hb
      have := Option.some.inj hb
      rw [World.size_alloc] at this
      omega
  · have hkl := (Array.getElem?_eq_some_iff.1 hko).1
    rw [Below.heap_setCell _ _ _ _ (fun e => hk e), hg.block k (by rw [World.size_alloc]; omega) (fun e => hne e.symm)]
    exact (Below.heap_alloc W tmp k hkl).trans hko

set_option maxRecDepth 100000 in
set_option maxHeartbeats 2000000 in
theorem appendSeq_any (F : Fence) (n : Nat) (h87 : F.fn 51) (hro : F.round = none) (hn : 2 ≤ n) (g : Nat) (lb : Array Value) (hFg : F.fn g) (eg : ∀ args w, (callFunc g args).run Try.prog w = .ok (.enter g args) w) (P : List Int) (hP : P.length ≤ 1048576) (Sp : List Int → Prop) (w : World)
    (hseq : SeqStopsK F (n - 1) Try.prog g lb enc6 (KpS w.heap.size) (fun ys => ys = P) Sp P.length (w.alloc (.cells #[.slice none 0 0] 41))) :
    CallsIn F n Try.prog 51 #[.slice none 0 0, .func (.func g) #[] lb] w (FlatPost P w) := by
  have h1 : 1 ≤ n := by omega
  obtain ⟨i0, hi, hz0, hz1, hz2⟩ := info_parts infoI64
  refine callsIn_of_wp_marks Try.func51 rfl h87 ?_ hro
  simp only [Try.ntmps51, List.size_toArray, List.length_cons, List.length_nil, Nat.reduceAdd, Nat.reduceSub, Array.replicate_succ, Array.replicate_zero, List.push_toArray, List.append_toArray, List.nil_append, List.cons_append]
  gi_wp2
  have bO := Boxed.new w 41 (.slice none 0 0)
  have hB0 : Below w.heap.size w (w.alloc (.cells #[.slice none 0 0] 41)) := (Below.refl _ w).alloc (Nat.le_refl _) _
  refine wpIn_rangeFunc_ownG hro h1 (gf := g) (lb := lb) rfl hFg eg hseq (fun h k => KpS.trans h k) (fun W l o o' hl h hc _ => KpS.loop _ W l o o' (by have := hl; simp at this; omega) h hc) (Below.refl _ _) (fun _ => rfl)
    (fun pre W => (∃ v, Boxed W w.heap.size 41 v ∧ W.ownsRow w.heap.size 2 1 v pre.length (pre.map num6) ∧ True) ∧ Below w.heap.size w W)
    (fun _ _ _ => False)
    (OwnFrom.and (Own.from (holdsRow_own w.heap.size w.heap.size 41 2 1 (fun pre : List Int => pre.length) (fun pre : List Int => pre.map num6) (fun _ _ => True)) _) (ownFrom_below (Nat.le_refl _) (by simp)))
    ?hix ?h0 (fun x => { tmps := #[.slice none 0 0, .func (.func g) #[] lb, .pointer (some ⟨w.heap.size, 0, none⟩), undef, .slice none 0 0, .int .i64 x, .func (.func g) #[] lb, .int .i64 x, undef, undef, undef, undef, undef], defers := [] }) ?assign ?body ?done ?stop
  case hix => exact fun _ _ _ _ _ h _ _ => h
  case h0 => exact ⟨⟨_, bO, World.ownsRow_nil _ _ _ _, trivial⟩, hB0⟩
  case assign =>
    intro l x W K hK
    unfold enc6
    gi_wp2
    exact hK
  case body =>
    rintro l pre x W ⟨⟨v, hv, hrow, _⟩, hB⟩ hlt
    have hc := hv.cell
    gi_wp2_with (gi_at_builtin; refine wpListIn_append_own_at _ rfl _ _ 41 rfl w.heap.size 2 i0 (.int .i64 0) 1 8 Try.underlying41 hi hz0 hz1 hz2 rfl (by decide) _ _ _ rfl (hrow.alloc _) ⟨W.heap.size, 0, none⟩ 1 1 [.int .i64 x] rfl rfl (cell_one_new _ _ _) (by simp [Value.oneCell']) (by unfold maxLen; omega) (by omega) (by have := hB.size; simp; omega) ?_; intro v' w1 hown' hgrow _ hat; have hltS := fun b hb => (hown'.lt b hb).2; obtain ⟨g', cap', rfl⟩ := ownsRow_succ hown'; obtain ⟨hv1, hv2, hr2, hk2, hb2⟩ := hv.appended (by decide) hrow hB.size (Nat.le_refl _) hown' hgrow; have hc1 := hv1.cell; have hf1 := hv1.frozen)
    exact ⟨hk2.from _, KpS.round hv hv2 hgrow hat hltS hb2, ⟨_, hv2, by simpa [num6] using hr2, trivial⟩, hB.trans hb2⟩
  case done =>
    rintro D ys W hD rfl ⟨⟨v, hv, hrow, _⟩, hB⟩ hK
    have hc := hv.cell
    gi_wp2
    refine ⟨by simp, .inl ⟨_, _, rfl, run_takeDeferred hK, ?_⟩⟩
    obtain ⟨R, c, rfl⟩ := formF hrow
    exact ⟨_, results_tmp rfl _ _ _, R, _, c, rfl, ⟨rfl, ownsRow_putObj hrow _ hK rfl⟩, hB.trans (belowK_b (w := w) (Nat.le_refl _) W D _ _ (by simp at hD; omega) hK rfl rfl)⟩
  case stop =>
    rintro D c pre W _ _ h _
    exact h.elim

set_option maxRecDepth 100000 in
set_option maxHeartbeats 1000000 in
theorem collect_any (F : Fence) (n : Nat) (h52 : F.fn 43) (h87 : F.fn 51) (hro : F.round = none) (hn : 3 ≤ n) (g : Nat) (lb : Array Value) (hFg : F.fn g) (eg : ∀ args w, (callFunc g args).run Try.prog w = .ok (.enter g args) w) (P : List Int) (hP : P.length ≤ 1048576) (Sp : List Int → Prop) (w : World)
    (hseq : SeqStopsK F (n - 1 - 1) Try.prog g lb enc6 (KpS w.heap.size) (fun ys => ys = P) Sp P.length (w.alloc (.cells #[.slice none 0 0] 41))) :
    CallsIn F n Try.prog 43 #[.func (.func g) #[] lb] w (FlatPost P w) := by
  have h1 : 1 ≤ n := by omega
  refine callsIn_of_wp Try.func43 rfl h52 ?_ hro
  simp only [Try.ntmps43, List.size_toArray, List.length_cons, List.length_nil, Nat.reduceAdd, Nat.reduceSub, Array.replicate_succ, Array.replicate_zero, List.push_toArray, List.append_toArray, List.nil_append, List.cons_append]
  gi_wp2_with (gi_at_call 51; refine (appendSeq_any F (n - 1) h87 hro (by omega) g lb hFg eg P hP Sp _ hseq).mono ?_; rintro e w' ⟨R, m, c, rfl, ho, hb⟩)
  go_ret
  exact ⟨R, m, c, rfl, ho, hb⟩
end Go.Proofs.Ytlmmbheamicdaab

namespace Go.Proofs.Ytlmmbheamicdaab
open Go.ChangeShapes Go.WideShapes Go.ChangeAt Go.RowKit Go.Deep Go.Shelf

attribute [local go_sem] Oper.semAt_some

/-- The box that is appended to holds a row that lies behind it. -/
def InvS (B : Nat) (W : World) : Prop := ∃ v, Boxed W B 41 v ∧ ∀ b, v.ownBlock = some b → B < b ∧ b < W.heap.size
theorem InvS.below {B : Nat} {W W' : World} (h : InvS B W) (hb : Below W.heap.size W W') : InvS B W' := by
  obtain ⟨v, h1, h2⟩ := h
  exact ⟨v, (hb.block B h1.lt).trans h1, fun b he => ⟨(h2 b he).1, Nat.lt_of_lt_of_le (h2 b he).2 hb.size⟩⟩
theorem InvS.kp {B : Nat} {W W' : World} (h : InvS B W) (hk : KpS B W W') : InvS B W' := by
  obtain ⟨v, h1, h2⟩ := h
  obtain ⟨v', h3, h4, h5, _⟩ := hk.keep v h1 (fun b he => (h2 b he).2)
  refine ⟨v', h3, fun b he => ⟨?_, h5 b he⟩⟩
  rcases h4 with e | e
  · exact (h2 b (e ▸ he)).1
  · exact Nat.lt_of_lt_of_le h1.lt (e b he)
/-- A row that lies beyond what the box holds stays in a round. -/
theorem OwnF.kp {B base : Nat} {W W' : World} {xs : List Int} {R : Option Addr} {n c : Nat} (ho : OwnF W base xs R n c) (hb : B < base) (hi : ∃ v, Boxed W B 41 v ∧ (∀ b, v.ownBlock = some b → b < W.heap.size) ∧ ∀ b, v.ownBlock = some b → ∀ g, (Value.slice R n c).ownBlock = some g → b ≠ g) (hk : KpS B W W') : OwnF W' base xs R n c := by
  obtain ⟨v, h1, h2, h3⟩ := hi
  obtain ⟨_, _, _, _, h4⟩ := hk.keep v h1 h2
  obtain ⟨hl, h5, h6⟩ := ho
  refine ⟨hl, h5, ?_⟩
  rcases h6 with h6 | ⟨g, cap, cur, hv, hg, hgb, r⟩
  · exact Or.inl h6
  · refine Or.inr ⟨g, cap, cur, hv, hg, h4 g _ (by omega) (fun he => ?_) hgb rfl, r⟩
    exact h3 g he g (by rw [hv]; rfl) rfl
/-- The same, and the row is not the one that s is in. -/
def InvG (B : Nat) (s : Value) (W : World) : Prop := ∃ v, Boxed W B 41 v ∧ ∀ b, v.ownBlock = some b → B < b ∧ b < W.heap.size ∧ s.ownBlock ≠ some b
theorem InvG.kp {B : Nat} {s : Value} {W W' : World} (h : InvG B s W) (hs : ∀ b, s.ownBlock = some b → b < W.heap.size) (hk : KpS B W W') : InvG B s W' := by
  obtain ⟨v, h1, h2⟩ := h
  obtain ⟨v', h3, h4, h5, _⟩ := hk.keep v h1 (fun b he => (h2 b he).2.1)
  refine ⟨v', h3, fun b he => ?_⟩
  rcases h4 with e | e
  · exact ⟨(h2 b (e ▸ he)).1, h5 b he, (h2 b (e ▸ he)).2.2⟩
  · refine ⟨Nat.lt_of_lt_of_le h1.lt (e b he), h5 b he, fun hb => ?_⟩
    have h6 := hs b hb
    have h7 := e b he
    omega
theorem InvG.of {B : Nat} {W W' : World} {base : Nat} {xs : List Int} {R : Option Addr} {n c : Nat} (h : InvS B W) (hb : Below W.heap.size W W') (ho : OwnF W' base xs R n c) (hbase : W.heap.size ≤ base) : InvG B (.slice R n c) W' := by
  obtain ⟨v, h1, h2⟩ := h
  refine ⟨v, (hb.block B h1.lt).trans h1, fun b he => ⟨(h2 b he).1, Nat.lt_of_lt_of_le (h2 b he).2 hb.size, fun hs => ?_⟩⟩
  have h3 := (ho.2.lt b hs).1
  have h4 := (h2 b he).2
  omega
theorem InvG.invS {B : Nat} {s : Value} {W : World} (h : InvG B s W) : InvS B W := by
  obtain ⟨v, h1, h2⟩ := h
  exact ⟨v, h1, fun b he => ⟨(h2 b he).1, (h2 b he).2.1⟩⟩
theorem InvG.own {B base : Nat} {W W' : World} {xs : List Int} {R : Option Addr} {n c : Nat} (h : InvG B (.slice R n c) W) (ho : OwnF W base xs R n c) (hb : B < base) (hk : KpS B W W') : OwnF W' base xs R n c := by
  obtain ⟨v, h1, h2⟩ := h
  exact ho.kp hb ⟨v, h1, fun b he => (h2 b he).2.1, fun b he g hg e => (h2 b he).2.2 (e ▸ hg)⟩ hk

set_option maxRecDepth 100000 in
set_option maxHeartbeats 4000000 in
theorem flatIter (n : Nat) (hn : 2 ≤ n) (ks : List Ty) (lo : Nat) (KI : ∀ (i : Nat) (t : Ty), ks[i]? = some t → ∀ (A B : Option Addr) (ca cb : Nat) (w : World), Ty.At w lo t A B → Calls Try.prog 53 #[.agg #[.int .i64 t.kind, .string t.name, .slice A t.labels.length ca, .slice B t.kids.length cb]] w (FlatPost t.flat w)) (h60 : ∀ (i : Nat) (t : Ty), ks[i]? = some t → t.flat.length ≤ 60) (hl : ks.length ≤ 1000) (R : Option Addr) (cb Bx : Nat) (w0 : World) (hBx : w0.cell? ⟨Bx, 0, none⟩ = some (.slice R ks.length cb)) (hrow : Ty.RowAt w0 lo ks R) :
    SeqStopsK Fence.wide n Try.prog 52 #[.pointer (some ⟨Bx, 0, none⟩)] enc6 (KpS w0.heap.size) (fun ys => ys = Ty.flats ks) (fun _ => True) (Ty.flats ks).length (w0.alloc (.cells #[.slice none 0 0] 41)) := by
  intro l J Jx W hW hJ _ hY h0
  have hb0 : Below w0.heap.size w0 W := ((Below.refl _ w0).alloc (Nat.le_refl _) _).trans (hW.mono (by simp))
  have hi0 : InvS w0.heap.size W := ⟨.slice none 0 0, (hW.block _ (by simp)).trans (World.alloc_heap_new w0 _), fun b he => by cases he⟩
  have hc0 := hb0.cell (p := ⟨Bx, 0, none⟩) (World.block_lt_of_cell? w0 _ hBx)
  rw [hBx] at hc0
  obtain ⟨F, hF⟩ : ∃ F, Ty.flats ks = F := ⟨_, rfl⟩
  rw [hF] at hY ⊢
  refine callsIn_of_wp Try.func52 rfl trivial ?_ rfl
  simp only [Try.ntmps52, List.size_toArray, List.length_cons, List.length_nil, Nat.reduceAdd, Nat.reduceSub, Array.replicate_succ, Array.replicate_zero, List.push_toArray, List.append_toArray, List.nil_append, List.cons_append]
  gi_wp2
  gi_loopw [9] (fun i wr => ∃ (k : Nat) (pre : List Int), k ≤ ks.length ∧ i = .int .i64 k ∧ Hid (pre ++ Ty.flats (ks.drop k) = F) ∧ Hid (J pre wr) ∧ Hid (InvS w0.heap.size wr) ∧ Hid (Below w0.heap.size w0 wr) ∧ W.heap.size ≤ wr.heap.size) (fun i _ => ks.length - (intOf i).toNat)
  case atStart => exact ⟨0, [], Nat.zero_le _, rfl, Lib.hid (by rw [List.drop_zero, List.nil_append]; exact hF), h0, hi0, hb0, Nat.le_refl _⟩
  case round =>
    obtain ⟨k, pre, hk, rfl, HF, HJ, HI, HB, hsz⟩ := hrel
    by_cases hlt : k < ks.length
    · have hli : (k : Int) < (ks.length : Int) := by omega
      obtain ⟨b, o, t, A', B', ca', cb', rfl, _, htk, hc⟩ := (hrow.below HB.out).at_ hlt
      have C := Lib.hid (fun W h => callsIn_wide (n := n - 1).2 (KI k t htk A' B' ca' cb' W h))
      have hd : ks.drop k = t :: ks.drop (k + 1) := by
        rw [List.drop_eq_getElem_cons hlt]
        congr 1
        rw [List.getElem?_eq_getElem hlt] at htk
        exact Option.some.inj htk
      have hf1 := HF.out
      rw [hd, Ty.flats_cons] at hf1
      have HTR := Lib.hid hc.tree
      obtain ⟨c0, c1, c2, c3, _⟩ := hc
      obtain ⟨Q, hQ⟩ : ∃ Q, t.flat = Q := ⟨_, rfl⟩
      have hq60 := h60 k t htk
      rw [hQ] at hf1 C hq60
      have HF1 := Lib.hid hf1
      clear htk hd hf1 HF
      gi_wp2
      refine ⟨trivial, fun _ => by omega, ?_⟩
      refine (C.out _ (HTR.out.below (below1 _ _))).mono ?_
      rintro e W2 ⟨R2, n2, c2', rfl, ho2, hb2⟩
      have hbw : Below wr.heap.size wr W2 := next6 (below1 _ _) hb2
      have HJ2 : Hid (J pre W2) := Lib.hid (hJ pre wr W2 none HJ.out (grown_of_below hbw) (fun r e => by cases e))
      have HG2 := Lib.hid (InvG.of HI.out hbw ho2 (below1 wr _).size)
      have HB2 := Lib.hid (next6 HB.out hbw)
      have hbase : w0.heap.size < wr.heap.size + 1 := by have := HB.out.size; omega
      obtain ⟨base, hbs⟩ : ∃ base, (wr.alloc (.cells #[.int .i64 t.kind, .string t.name, .slice A' t.labels.length ca', .slice B' t.kids.length cb'] 30)).heap.size = base := ⟨_, rfl⟩
      rw [hbs] at ho2
      rw [World.size_alloc] at hbs
      have HO2 := Lib.hid ho2
      have hz2 := hbw.size
      obtain ⟨rfl, _⟩ := ho2.row
      clear hbw hb2 ho2 HJ HI HB
      gi_wp2
      gi_loopw [16] (fun i wr => ∃ j : Nat, j ≤ Q.length ∧ i = .int .i64 j ∧ Hid (J (pre ++ Q.take j) wr) ∧ Hid (InvG w0.heap.size (.slice R2 Q.length c2') wr) ∧ Hid (OwnF wr base Q R2 Q.length c2') ∧ Hid (Below w0.heap.size w0 wr) ∧ W.heap.size ≤ wr.heap.size) (fun i _ => Q.length - (intOf i).toNat)
      case atStart => exact ⟨0, Nat.zero_le _, rfl, Lib.hid (by rw [List.take_zero, List.append_nil]; exact HJ2.out), HG2.out, HO2.out, HB2.out, by omega⟩
      case round =>
        obtain ⟨j, hj, rfl, HJ3, HG3, HO3, HB3, hsz3⟩ := hrel
        by_cases hlj : j < Q.length
        · have hlji : (j : Int) < (Q.length : Int) := by omega
          obtain ⟨b3, o3, x, rfl, hx, hcx⟩ := HO3.out.row.2.at_ hlj
          have hlen : (pre ++ Q.take j).length < F.length := by
            rw [← HF1.out, List.length_append, List.length_append, List.length_append, List.length_take]
            omega
          obtain ⟨fn, tmps, assign, body, hy, hR⟩ := hY (pre ++ Q.take j) x wr HJ3.out hlen
          unfold enc6 at hy
          have HT : Hid (pre ++ Q.take j ++ [x] = pre ++ Q.take (j + 1)) := Lib.hid (by rw [List.append_assoc, take_step hx])
          gi_wp2
          refine ⟨fun _ => by omega, hR.mono ?_⟩
          rintro e W4 (⟨rfl, hJ4, hk4⟩ | ⟨rfl, hJx4⟩)
          · have HJ4 : Hid (J (pre ++ Q.take (j + 1)) W4) := Lib.hid (by rw [← HT.out]; exact hJ4)
            have HG4 := Lib.hid (HG3.out.kp (fun b hb => (HO3.out.2.lt b hb).2) hk4)
            have HO4 := Lib.hid (HG3.out.own HO3.out (by omega) hk4)
            have HB4 := Lib.hid (HB3.out.trans hk4.bel)
            have hsz4 := hk4.size
            clear hk4 hJ4
            gi_wp2
            go_roundw
            case rel => exact ⟨j + 1, by omega, by go_num, HJ4, HG4, HO4, HB4, by omega⟩
            case measure => simp [intOf]; omega
          · gi_wp2
            refine bodyPost_ret (results_none rfl _ _ _) rfl ?_
            exact ⟨⟨_, rfl⟩, .inr ⟨_, trivial, hJx4⟩⟩
        · have hlji : ¬ (j : Int) < (Q.length : Int) := by omega
          obtain rfl : j = Q.length := by omega
          have HJ4 : Hid (J (pre ++ Q) wr) := Lib.hid (by have := HJ3.out; rwa [List.take_length] at this)
          gi_wp2
          go_roundw
          case rel => exact ⟨k + 1, pre ++ Q, by omega, by go_num, Lib.hid (by rw [List.append_assoc]; exact HF1.out), HJ4, Lib.hid HG3.out.invS, HB3, hsz3⟩
          case measure => simp [intOf]; omega
    · have hk' : k = ks.length := by omega
      have hli : ¬ (k : Int) < (ks.length : Int) := by omega
      have hp : pre = F := by
        have h1 := HF.out
        rw [hk', List.drop_length, Ty.flats_nil, List.append_nil] at h1
        exact h1
      gi_wp2
      go_end0
      exact ⟨⟨_, rfl⟩, .inl (hp ▸ HJ.out)⟩
end Go.Proofs.Ytlmmbheamicdaab

namespace Go.Proofs.Ytlmmbheamicdaab
open Go.ChangeShapes Go.WideShapes Go.ChangeAt Go.RowKit Go.Deep Go.Shelf

theorem flatKinds_any (R : Option Addr) (m cb : Nat) (w : World) :
    Calls Try.prog 44 #[.slice R m cb] w fun e w' => e = .returned (.func (.func 52) #[] #[.pointer (some ⟨w.heap.size, 0, none⟩)]) ∧ w' = w.alloc (.cells #[.slice R m cb] 27) := by
  go_enter Try.func44, Try.ntmps44
  go_wp2_with fail
  go_ret
  exact ⟨rfl, rfl⟩
/-- The program's contract of one type. -/
def KindI (lo : Nat) (t : Ty) : Prop := ∀ (A B : Option Addr) (ca cb : Nat) (w : World), Ty.At w lo t A B → Calls Try.prog 53 #[.agg #[.int .i64 t.kind, .string t.name, .slice A t.labels.length ca, .slice B t.kids.length cb]] w (FlatPost t.flat w)
theorem flats_le : ∀ (ks : List Ty) (_ : ∀ (i : Nat) (t : Ty), ks[i]? = some t → t.flat.length ≤ 60), (Ty.flats ks).length ≤ 60 * ks.length
  | [], _ => by rw [Ty.flats_nil]; exact Nat.zero_le _
  | t :: ts, h => by
    have h1 := h 0 t rfl
    have h2 := flats_le ts (fun i u hu => h (i + 1) u hu)
    rw [Ty.flats_cons, List.length_append, List.length_cons]
    omega
theorem collectKinds_any (ks : List Ty) (lo : Nat) (KI : ∀ (i : Nat) (t : Ty), ks[i]? = some t → KindI lo t) (h60 : ∀ (i : Nat) (t : Ty), ks[i]? = some t → t.flat.length ≤ 60) (hl : ks.length ≤ 1000) (R : Option Addr) (cb Bx : Nat) (w : World) (hBx : w.cell? ⟨Bx, 0, none⟩ = some (.slice R ks.length cb)) (hrow : Ty.RowAt w lo ks R) :
    Calls Try.prog 43 #[.func (.func 52) #[] #[.pointer (some ⟨Bx, 0, none⟩)]] w (FlatPost (Ty.flats ks) w) :=
  (callsIn_wide (n := 5)).1 (collect_any Fence.wide 5 trivial trivial rfl (by decide) 52 #[.pointer (some ⟨Bx, 0, none⟩)] trivial (enters_of Try.func52 (by kernel_rfl) rfl) (Ty.flats ks) (by have := flats_le ks h60; omega) (fun _ => True) w
    (flatIter (5 - 1 - 1) (by decide) ks lo (fun i t ht => KI i t ht) h60 hl R cb Bx w hBx hrow))
end Go.Proofs.Ytlmmbheamicdaab

