/-
  slices.AppendSeq and slices.Collect at int64, over an iterator that reads memory of its own between two rounds.
-/
import Derived.Test.YtlmmbheamicdaabFlatS
import Derived.RangeFuncNested
import Derived.RangeFuncBox
import Derived.RangeFuncBound
import Derived.RangeFuncCalls
import Derived.RangeFuncLeaves
import Derived.Shelf.Abstract
import Derived.Shelf.RegionOpen
import Derived.WalkKit
import Derived.OwnWalkIn
import Derived.TacticsInMore
import Derived.LoopNIn
import Derived.LoopIn
import Derived.Maps.AppendAt
import Derived.Maps.OwnIn
namespace Go.Proofs.Ytlmmbheamicdaab
open Go.ChangeShapes Go.WideShapes Go.ChangeAt Go.RowKit Go.Deep Go.Shelf

attribute [local go_sem] Oper.semAt_some

/-- What an iterator of numbers hands over. -/
def enc6 (x : Int) : Array Value := #[Value.int .i64 x]

/-- What a round of AppendSeq keeps: whatever lies neither in its box nor in the row that the box holds. -/
structure KpS (B : Nat) (W W' : World) : Prop where
  size : W.heap.size ≤ W'.heap.size
  bel : Below B W W'
  keep : ∀ v, Boxed W B 41 v → (∀ b, v.ownBlock = some b → b < W.heap.size) → ∃ v', Boxed W' B 41 v' ∧ (v'.ownBlock = v.ownBlock ∨ ∀ b, v'.ownBlock = some b → W.heap.size ≤ b) ∧ (∀ b, v'.ownBlock = some b → b < W'.heap.size) ∧
    ∀ k o, k ≠ B → v.ownBlock ≠ some k → W.heap[k]? = some o → o.isCells = true → W'.heap[k]? = some o
theorem Boxed.one {W : World} {B : Nat} {t : TypeId} {v u : Value} (h : Boxed W B t v) (k : Boxed W B t u) : v = u := by
  have h1 := (show W.heap[B]? = _ from h).symm.trans k
  simpa using h1
theorem KpS.trans {B : Nat} {a b c : World} (h : KpS B a b) (k : KpS B b c) : KpS B a c := ⟨Nat.le_trans h.size k.size, h.bel.trans k.bel, fun v hv hlt => by
  obtain ⟨v1, hb1, ho1, hl1, hk1⟩ := h.keep v hv hlt
  obtain ⟨v2, hb2, ho2, hl2, hk2⟩ := k.keep v1 hb1 hl1
  refine ⟨v2, hb2, ?_, hl2, fun j o hj hne hjo hc => hk2 j o hj ?_ (hk1 j o hj hne hjo hc) hc⟩
  · rcases ho2 with e2 | e2
    · rcases ho1 with e1 | e1
      · exact Or.inl (e2.trans e1)
      · exact Or.inr (fun b hb => e1 b (e2 ▸ hb))
    · exact Or.inr (fun b hb => Nat.le_trans h.size (e2 b hb))
  · rcases ho1 with e1 | e1
    · rw [e1]; exact hne
    · intro he
      have h1 := e1 j he
      have h2 := (Array.getElem?_eq_some_iff.1 hjo).1
      omega⟩
theorem KpS.loop (B : Nat) (W : World) (l : Nat) (o o' : Obj) (hl : B ≤ l) (h : W.heap[l]? = some o) (hc : o.isCells = false) : KpS B W (W.putObj l o') := by
  have hz : (W.putObj l o').heap.size = W.heap.size := by simp [World.putObj]
  refine ⟨by omega, ⟨rfl, rfl, rfl, by omega, fun k hk => World.putObj_heap_other (by omega)⟩, fun v hv hlt => ⟨v, ?_, Or.inl rfl, fun b hb => by rw [hz]; exact hlt b hb, fun k u _ _ hk hu => ?_⟩⟩
  · have hne : B ≠ l := by
      intro e
      rw [e] at hv
      have h2 := (show W.heap[l]? = _ from hv).symm.trans h
      rw [← Option.some.inj h2] at hc
      cases hc
    exact (World.putObj_heap_other hne).trans hv
  · have hne : k ≠ l := by
      intro e
      rw [e, h] at hk
      rw [Option.some.inj hk, hu] at hc
      cases hc
    exact (World.putObj_heap_other hne).trans hk
theorem KpS.round {B : Nat} {W w1 : World} {v v' : Value} {tmp : Obj} (hv : Boxed W B 41 v) (hv2 : Boxed (w1.setCell ⟨B, 0, none⟩ v') B 41 v') (hg : (W.alloc tmp).grownBy w1 v.ownBlock) (hat : v'.ownBlock = v.ownBlock ∨ v'.ownBlock = some (W.alloc tmp).heap.size) (hlt : ∀ b, v'.ownBlock = some b → b < w1.heap.size) (hbel : Below B W (w1.setCell ⟨B, 0, none⟩ v')) : KpS B W (w1.setCell ⟨B, 0, none⟩ v') := by
  have hs1 := hg.size
  rw [World.size_alloc] at hs1
  have hz : (w1.setCell ⟨B, 0, none⟩ v').heap.size = w1.heap.size := by simp [World.setCell]
  refine ⟨by omega, hbel, fun u hu _ => ?_⟩
  obtain rfl := Boxed.one hv hu
  refine ⟨v', hv2, ?_, fun b hb => by rw [hz]; exact hlt b hb, fun k o hk hne hko _ => ?_⟩
  · rcases hat with e | e
    · exact Or.inl e
    · refine Or.inr (fun b hb => ?_)
      rw [e] at hb
      have := Option.some.inj hb
      rw [World.size_alloc] at this
      omega
  · have hkl := (Array.getElem?_eq_some_iff.1 hko).1
    rw [Below.heap_setCell _ _ _ _ (fun e => hk e), hg.block k (by rw [World.size_alloc]; omega) (fun e => hne e.symm)]
    exact (Below.heap_alloc W tmp k hkl).trans hko

set_option maxRecDepth 100000 in
set_option maxHeartbeats 2000000 in
theorem appendSeq_any (F : Fence) (n : Nat) (h87 : F.fn 51) (hro : F.round = none) (hn : 2 ≤ n) (g : Nat) (lb : Array Value) (hFg : F.fn g) (eg : ∀ args w, (callFunc g args).run Try.prog w = .ok (.enter g args) w) (P : List Int) (hP : P.length ≤ 1048576) (Sp : List Int → Prop) (w : World)
    (hseq : SeqStopsK F (n - 1) Try.prog g lb enc6 (KpS w.heap.size) (fun ys => ys = P) Sp P.length (w.alloc (.cells #[.slice none 0 0] 41))) :
    CallsIn F n Try.prog 51 #[.slice none 0 0, .func (.func g) #[] lb] w (FlatPost P w) := by
  have h1 : 1 ≤ n := by omega
  obtain ⟨i0, hi, hz0, hz1, hz2⟩ := info_parts infoI64
  refine callsIn_of_wp_marks Try.func51 rfl h87 ?_ hro
  simp only [Try.ntmps51, List.size_toArray, List.length_cons, List.length_nil, Nat.reduceAdd, Nat.reduceSub, Array.replicate_succ, Array.replicate_zero, List.push_toArray, List.append_toArray, List.nil_append, List.cons_append]
  gi_wp2
  have bO := Boxed.new w 41 (.slice none 0 0)
  have hB0 : Below w.heap.size w (w.alloc (.cells #[.slice none 0 0] 41)) := (Below.refl _ w).alloc (Nat.le_refl _) _
  refine wpIn_rangeFunc_ownG hro h1 (gf := g) (lb := lb) rfl hFg eg hseq (fun h k => KpS.trans h k) (fun W l o o' hl h hc _ => KpS.loop _ W l o o' (by have := hl; simp at this; omega) h hc) (Below.refl _ _) (fun _ => rfl)
    (fun pre W => (∃ v, Boxed W w.heap.size 41 v ∧ W.ownsRow w.heap.size 2 1 v pre.length (pre.map num6) ∧ True) ∧ Below w.heap.size w W)
    (fun _ _ _ => False)
    (OwnFrom.and (Own.from (holdsRow_own w.heap.size w.heap.size 41 2 1 (fun pre : List Int => pre.length) (fun pre : List Int => pre.map num6) (fun _ _ => True)) _) (ownFrom_below (Nat.le_refl _) (by simp)))
    ?hix ?h0 (fun x => { tmps := #[.slice none 0 0, .func (.func g) #[] lb, .pointer (some ⟨w.heap.size, 0, none⟩), undef, .slice none 0 0, .int .i64 x, .func (.func g) #[] lb, .int .i64 x, undef, undef, undef, undef, undef], defers := [] }) ?assign ?body ?done ?stop
  case hix => exact fun _ _ _ _ _ h _ _ => h
  case h0 => exact ⟨⟨_, bO, World.ownsRow_nil _ _ _ _, trivial⟩, hB0⟩
  case assign =>
    intro l x W K hK
    unfold enc6
    gi_wp2
    exact hK
  case body =>
    rintro l pre x W ⟨⟨v, hv, hrow, _⟩, hB⟩ hlt
    have hc := hv.cell
    gi_wp2_with (gi_at_builtin; refine wpListIn_append_own_at _ rfl _ _ 41 rfl w.heap.size 2 i0 (.int .i64 0) 1 8 Try.underlying41 hi hz0 hz1 hz2 rfl (by decide) _ _ _ rfl (hrow.alloc _) ⟨W.heap.size, 0, none⟩ 1 1 [.int .i64 x] rfl rfl (cell_one_new _ _ _) (by simp [Value.oneCell']) (by unfold maxLen; omega) (by omega) (by have := hB.size; simp; omega) ?_; intro v' w1 hown' hgrow _ hat; have hltS := fun b hb => (hown'.lt b hb).2; obtain ⟨g', cap', rfl⟩ := ownsRow_succ hown'; obtain ⟨hv1, hv2, hr2, hk2, hb2⟩ := hv.appended (by decide) hrow hB.size (Nat.le_refl _) hown' hgrow; have hc1 := hv1.cell; have hf1 := hv1.frozen)
    exact ⟨hk2.from _, KpS.round hv hv2 hgrow hat hltS hb2, ⟨_, hv2, by simpa [num6] using hr2, trivial⟩, hB.trans hb2⟩
  case done =>
    rintro D ys W hD rfl ⟨⟨v, hv, hrow, _⟩, hB⟩ hK
    have hc := hv.cell
    gi_wp2
    refine ⟨by simp, .inl ⟨_, _, rfl, run_takeDeferred hK, ?_⟩⟩
    obtain ⟨R, c, rfl⟩ := formF hrow
    exact ⟨_, results_tmp rfl _ _ _, R, _, c, rfl, ⟨rfl, ownsRow_putObj hrow _ hK rfl⟩, hB.trans (belowK_b (w := w) (Nat.le_refl _) W D _ _ (by simp at hD; omega) hK rfl rfl)⟩
  case stop =>
    rintro D c pre W _ _ h _
    exact h.elim

set_option maxRecDepth 100000 in
set_option maxHeartbeats 1000000 in
theorem collect_any (F : Fence) (n : Nat) (h52 : F.fn 43) (h87 : F.fn 51) (hro : F.round = none) (hn : 3 ≤ n) (g : Nat) (lb : Array Value) (hFg : F.fn g) (eg : ∀ args w, (callFunc g args).run Try.prog w = .ok (.enter g args) w) (P : List Int) (hP : P.length ≤ 1048576) (Sp : List Int → Prop) (w : World)
    (hseq : SeqStopsK F (n - 1 - 1) Try.prog g lb enc6 (KpS w.heap.size) (fun ys => ys = P) Sp P.length (w.alloc (.cells #[.slice none 0 0] 41))) :
    CallsIn F n Try.prog 43 #[.func (.func g) #[] lb] w (FlatPost P w) := by
  have h1 : 1 ≤ n := by omega
  refine callsIn_of_wp Try.func43 rfl h52 ?_ hro
  simp only [Try.ntmps43, List.size_toArray, List.length_cons, List.length_nil, Nat.reduceAdd, Nat.reduceSub, Array.replicate_succ, Array.replicate_zero, List.push_toArray, List.append_toArray, List.nil_append, List.cons_append]
  gi_wp2_with (gi_at_call 51; refine (appendSeq_any F (n - 1) h87 hro (by omega) g lb hFg eg P hP Sp _ hseq).mono ?_; rintro e w' ⟨R, m, c, rfl, ho, hb⟩)
  go_ret
  exact ⟨R, m, c, rfl, ho, hb⟩
end Go.Proofs.Ytlmmbheamicdaab
