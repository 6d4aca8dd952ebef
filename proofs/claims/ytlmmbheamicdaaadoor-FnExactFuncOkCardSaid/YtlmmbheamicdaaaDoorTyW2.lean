/-
  Walks of copying and comparing types' trees.
-/
import Derived.Test.YtlmmbheamicdaaaDoorTyW
namespace Go.Proofs.YtlmmbheamicdaaaDoor
open Go.ChangeShapes Go.WideShapes Go.ChangeAt Go.RowKit Go.Deep

/-- A tree by value. -/
def Ty.v (T : Ty) (A B : Option Addr) (ca cb : Nat) : Value := .agg #[.int .i64 T.kind, .string T.name, .slice A T.labels.length ca, .slice B T.kids.length cb]

/-- What copying a tree leaves: the same tree in new memory. -/
def ToTyPost (T : Ty) (w : World) (e : Ending) (w' : World) : Prop := ∃ A B : Option Addr, e = .returned (.agg #[.int .i64 T.kind, .string T.name, .slice A T.labels.length T.labels.length, .slice B T.kids.length T.kids.length]) ∧ Ty.At w' w.heap.size T A B ∧ Below w.heap.size w w'
def ToTy (T : Ty) : Prop := ∀ (A B : Option Addr) (ca cb lo : Nat) (w : World), Ty.At w lo T A B →
  Calls Tryd.prog 13 #[.agg #[.int .i64 T.kind, .string T.name, .slice A T.labels.length ca, .slice B T.kids.length cb]] w (ToTyPost T w)

/-- The element so many kids are copied into. -/
def RowDone (g n k : Nat) (ks : List Ty) (wr : World) : Prop := ∃ f : Nat → Value, wr.rowIs g 34 (n * 4) f ∧ ∀ (j : Nat) (t : Ty), j < k → ks[j]? = some t → ∃ A B ca cb, f (j * 4) = .int .i64 t.kind ∧ f (j * 4 + 1) = .string t.name ∧ f (j * 4 + 2) = .slice A t.labels.length ca ∧ f (j * 4 + 3) = .slice B t.kids.length cb ∧ Ty.At wr (g + 1) t A B
theorem RowDone.below {g n k : Nat} {ks : List Ty} {wr w2 : World} (h : RowDone g n k ks wr) (hb : Below wr.heap.size wr w2) : RowDone g n k ks w2 := by
  obtain ⟨f, hr, hf⟩ := h
  refine ⟨f, hr.of_block (hb.block _ hr.lt), fun j t hj ht => ?_⟩
  obtain ⟨A, B, ca, cb, e0, e1, e2, e3, hat⟩ := hf j t hj ht
  exact ⟨A, B, ca, cb, e0, e1, e2, e3, hat.below hb⟩
/-- A kid's four cells are stored. -/
theorem RowDone.step {g n k : Nat} {ks : List Ty} {w2 : World} (h : RowDone g n k ks w2) {t : Ty} (ht : ks[k]? = some t) {A B : Option Addr} {ca cb : Nat} (hat : Ty.At w2 (g + 1) t A B) :
    RowDone g n (k + 1) ks ((((w2.setCell ⟨g, k * 4, none⟩ (.int .i64 t.kind)).setCell ⟨g, k * 4 + 1, none⟩ (.string t.name)).setCell ⟨g, k * 4 + 2, none⟩ (.slice A t.labels.length ca)).setCell ⟨g, k * 4 + 3, none⟩ (.slice B t.kids.length cb)) := by
  obtain ⟨f, hr, hf⟩ := h
  have hkeep : KeptFrom (g + 1) w2 ((((w2.setCell ⟨g, k * 4, none⟩ (.int .i64 t.kind)).setCell ⟨g, k * 4 + 1, none⟩ (.string t.name)).setCell ⟨g, k * 4 + 2, none⟩ (.slice A t.labels.length ca)).setCell ⟨g, k * 4 + 3, none⟩ (.slice B t.kids.length cb)) :=
    (((KeptFrom.setCell (by simp) _).trans (KeptFrom.setCell (by simp) _)).trans (KeptFrom.setCell (by simp) _)).trans (KeptFrom.setCell (by simp) _)
  refine ⟨_, (((hr.set (k * 4) (.int .i64 t.kind)).set (k * 4 + 1) (.string t.name)).set (k * 4 + 2) (.slice A t.labels.length ca)).set (k * 4 + 3) (.slice B t.kids.length cb), fun j u hj hu => ?_⟩
  by_cases e : j = k
  · subst e
    obtain rfl : t = u := by
      rw [ht] at hu
      exact Option.some.inj hu
    exact ⟨A, B, ca, cb, by simp, by simp, by simp, by simp, hat.keep hkeep⟩
  · obtain ⟨A', B', ca', cb', e0, e1, e2, e3, hat'⟩ := hf j u (by omega) hu
    refine ⟨A', B', ca', cb', ?_, ?_, ?_, ?_, hat'.keep hkeep⟩
    · rw [if_neg (by omega), if_neg (by omega), if_neg (by omega), if_neg (by omega)]
      exact e0
    · rw [if_neg (by omega), if_neg (by omega), if_neg (by omega), if_neg (by omega)]
      exact e1
    · rw [if_neg (by omega), if_neg (by omega), if_neg (by omega), if_neg (by omega)]
      exact e2
    · rw [if_neg (by omega), if_neg (by omega), if_neg (by omega), if_neg (by omega)]
      exact e3
theorem RowDone.cells {g n k : Nat} {ks : List Ty} {wr : World} (h : RowDone g n k ks wr) (hk : k < n) (j : Nat) (hj : j < 4) : ∃ v, wr.cell? ⟨g, k * 4 + j, none⟩ = some v := by
  obtain ⟨f, hr, _⟩ := h
  exact ⟨_, hr.cell (by omega)⟩
theorem RowDone.free {g n k : Nat} {ks : List Ty} {wr : World} (h : RowDone g n k ks wr) (i : Nat) : wr.frozen? ⟨g, i, none⟩ = false := by
  obtain ⟨f, hr, _⟩ := h
  exact hr.frozen i
theorem RowDone.start {w0 : World} {n : Nat} {ks : List Ty} {c : Array Value} (hc : c.size = n * 4) : RowDone w0.heap.size n 0 ks (w0.alloc (.cells c 34)) := by
  refine ⟨fun i => (c[i]?).getD undef, ?_, fun j t hj _ => by omega⟩
  rw [← hc]
  exact World.rowIs_alloc _ _ _ _ fun i hi => by simp [hi]
theorem RowDone.done {g : Nat} {ks : List Ty} {wr : World} (h : RowDone g ks.length ks.length ks wr) : Ty.RowAt wr g ks (some ⟨g, 0, none⟩) := fun _ => by
  obtain ⟨f, hr, hf⟩ := h
  refine ⟨g, 0, rfl, Nat.le_refl _, fun i t ht => ?_⟩
  have hi := (List.getElem?_eq_some_iff.1 ht).1
  obtain ⟨A, B, ca, cb, e0, e1, e2, e3, hat⟩ := hf i t hi ht
  rw [Nat.zero_add]
  exact ⟨A, B, ca, cb, by rw [hr.cell (by omega), e0], by rw [hr.cell (by omega), e1], by rw [hr.cell (by omega), e2], by rw [hr.cell (by omega), e3], hat.low (by omega)⟩

theorem infoType : (Tryd.prog.info? 34).map (fun i => (i.zero, i.size, i.bytes)) = some (some (.agg #[.int .i64 0, .string ⟨#[]⟩, .slice none 0 0, .slice none 0 0]), 4, 72) := by kernel_rfl

set_option maxRecDepth 100000 in
theorem toTypeS_of (ks : List Ty) (hl : ks.length ≤ 1048576) (ih : ∀ (i : Nat) (t : Ty), ks[i]? = some t → ToTy t) (B : Option Addr) (cb lo : Nat) (w : World) (h : Ty.RowAt w lo ks B) :
    Calls Tryd.prog 28 #[.slice B ks.length cb] w fun e w' => e = .returned (.slice (some ⟨w.heap.size, 0, none⟩) ks.length ks.length) ∧ Ty.RowAt w' w.heap.size ks (some ⟨w.heap.size, 0, none⟩) ∧ Below w.heap.size w w' := by
  have H := Lib.hid h
  have IH := Lib.hid ih
  clear h ih
  obtain ⟨i0, hi0, hzz⟩ := Option.map_eq_some_iff.1 infoType
  simp only [Prod.mk.injEq] at hzz
  obtain ⟨hz0, hz1, hz2⟩ := hzz
  have hmk : ∀ W : World, (Instr.makeSlice 32 (.int .i64 (ks.length : Int)) (.int .i64 (ks.length : Int))).run Tryd.prog W = .ok (.slice (some ⟨W.heap.size, 0, none⟩) ks.length ks.length) (W.alloc (.cells (madeCells #[.int .i64 0, .string ⟨#[]⟩, .slice none 0 0, .slice none 0 0] (ks.length * 4)) 34)) := by
    intro W
    rw [run_make W 32 34 i0 _ Tryd.underlying32 hi0 hz0 .i64 .i64 (ks.length : Int) (ks.length : Int) (by omega) (by omega) (by rw [hz2]; omega) (by omega), hz1]
    simp [Value.cells]
  clear hz0 hz1 hz2 hi0
  go_enter Tryd.func28, Tryd.ntmps28
  go_wp2
  go_loopw [4] (fun i wr => ∃ k : Nat, k ≤ ks.length ∧ i = .int .i64 k ∧ RowDone w.heap.size ks.length k ks wr ∧ Below w.heap.size w wr) (fun i _ => ks.length - (intOf i).toNat)
  case atStart => exact ⟨0, Nat.zero_le _, rfl, RowDone.start (size_madeCells _ _), below1 _ _⟩
  case round =>
    obtain ⟨k, hk, rfl, hrow, hbel⟩ := hrel
    clear hmk
    by_cases hlt : k < ks.length
    · obtain ⟨b, o, t, A', B', ca', cb', rfl, _, htk, hc⟩ := (H.out.below hbel).at_ hlt
      have C := Lib.hid (IH.out k t htk A' B' ca' cb' lo wr hc.tree)
      obtain ⟨c0, c1, c2, c3, _⟩ := hc
      have HB := Lib.hid hbel
      have HR := Lib.hid hrow
      have HT := Lib.hid htk
      have hlc := hbel.size
      have hgl : w.heap.size < wr.heap.size := by
        obtain ⟨f, hr, _⟩ := hrow
        exact hr.lt
      clear htk hbel hrow
      go_wp2_with (go_at_call 13; (with_reducible refine C.out.mono ?_); rintro e w2 ⟨A2, B2, rfl, hat, hb2⟩; have HR2 := Lib.hid (HR.out.below hb2); have HA2 := Lib.hid (hat.low (lo' := w.heap.size + 1) hgl); obtain ⟨x0, y0⟩ := HR2.out.cells hlt 0 (by omega); obtain ⟨x1, y1⟩ := HR2.out.cells hlt 1 (by omega); obtain ⟨x2, y2⟩ := HR2.out.cells hlt 2 (by omega); obtain ⟨x3, y3⟩ := HR2.out.cells hlt 3 (by omega); have z0 := HR2.out.free (k * 4); have z1 := HR2.out.free (k * 4 + 1); have z2 := HR2.out.free (k * 4 + 2); have z3 := HR2.out.free (k * 4 + 3); rw [Nat.add_zero] at y0; have hlt2 : w.heap.size < w2.heap.size := Nat.lt_of_lt_of_le hgl hb2.size; have HB2 := Lib.hid (bchain HB.out hb2 hlc); clear hat hb2)
      go_roundw
      case rel =>
        exact ⟨k + 1, by omega, by go_num, HR2.out.step HT.out HA2.out, (((HB2.out.setCell (Nat.le_refl _) _).setCell (Nat.le_refl _) _).setCell (Nat.le_refl _) _).setCell (Nat.le_refl _) _⟩
      case measure => simp [intOf]; omega
    · have hk' : k = ks.length := by omega
      have HR := Lib.hid hrow
      have HB := Lib.hid hbel
      clear hrow hbel
      go_wp2
      go_ret
      refine ⟨rfl, RowDone.done ?_, HB.out⟩
      have := HR.out
      rw [hk'] at this
      exact this
end Go.Proofs.YtlmmbheamicdaaaDoor
