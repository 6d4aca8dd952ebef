/-
  Walks of copying types' trees: the copy owns its memory.
-/
import Derived.Test.YtifchfecfkdjlaaGreatDoorTyOwn
import Derived.Test.YtifchfecfkdjlaaGreatDoorTyW3
namespace Go.Proofs.YtifchfecfkdjlaaGreatDoor
open Go.ChangeShapes Go.WideShapes Go.ChangeAt Go.RowKit Go.Deep

/-- A store into a row's block beside its cells. -/
theorem Ty.RowOwn.set {w : World} {i : Nat} (v : Value) : ∀ {ks : List Ty} {g o : Nat} {bs : List Nat}, (i < o ∨ o + ks.length * 4 ≤ i) → g ∉ bs → Ty.RowOwn w ks g o bs → Ty.RowOwn (w.setCell ⟨g, i, none⟩ v) ks g o bs
  | [], g, o, bs, _, _, h => by
    unfold Ty.RowOwn at h ⊢
    exact h
  | t :: ts, g, o, bs, hi, hg, h => by
    unfold Ty.RowOwn at h ⊢
    rw [List.length_cons] at hi
    obtain ⟨A, B, ca, cb, b1, b2, rfl, ⟨c0, c1, c2, c3⟩, h1, h2⟩ := h
    have hne : ∀ j, j < 4 → (⟨g, o + j, none⟩ : Addr) ≠ ⟨g, i, none⟩ := fun j hj e => by
      injection e with e1 e2
      omega
    have hc : ∀ j, j < 4 → ∀ u, w.cell? ⟨g, o + j, none⟩ = some u → (w.setCell ⟨g, i, none⟩ v).cell? ⟨g, o + j, none⟩ = some u := fun j hj u hu => by
      rw [World.cell?_setCell_other w ⟨g, i, none⟩ ⟨g, o + j, none⟩ v (by first | exact hne j hj | exact (hne j hj).symm)]
      exact hu
    have hk : KeptBut [g] w (w.setCell ⟨g, i, none⟩ v) := KeptBut.setCell (by simp) v
    exact ⟨A, B, ca, cb, b1, b2, rfl, ⟨hc 0 (by omega) _ c0, hc 1 (by omega) _ c1, hc 2 (by omega) _ c2, hc 3 (by omega) _ c3⟩, Ty.Own.keep hk (fun b hb => by simp; exact fun e => hg (by subst e; simp [hb])) h1, Ty.RowOwn.set v (by omega) (fun hm => hg (by simp [hm])) h2⟩

/-- So many kids are copied. -/
def RowOD (g n k : Nat) (ks : List Ty) (wr : World) : Prop := (∃ f, wr.rowIs g 30 (n * 4) f) ∧ ∃ bs, Ty.RowOwn wr (ks.take k) g 0 bs ∧ bs.Nodup ∧ ∀ b ∈ bs, g < b ∧ b < wr.heap.size
theorem RowOD.lt {g n k : Nat} {ks : List Ty} {wr : World} (h : RowOD g n k ks wr) : g < wr.heap.size := by
  obtain ⟨⟨f, hr⟩, _⟩ := h
  exact hr.lt
theorem RowOD.cells {g n k : Nat} {ks : List Ty} {wr : World} (h : RowOD g n k ks wr) (hk : k < n) (j : Nat) (hj : j < 4) : ∃ v, wr.cell? ⟨g, k * 4 + j, none⟩ = some v := by
  obtain ⟨⟨f, hr⟩, _⟩ := h
  exact ⟨_, hr.cell (by omega)⟩
theorem RowOD.free {g n k : Nat} {ks : List Ty} {wr : World} (h : RowOD g n k ks wr) (i : Nat) : wr.frozen? ⟨g, i, none⟩ = false := by
  obtain ⟨⟨f, hr⟩, _⟩ := h
  exact hr.frozen i
theorem RowOD.start {w0 : World} {n : Nat} {ks : List Ty} {c : Array Value} (hc : c.size = n * 4) : RowOD w0.heap.size n 0 ks (w0.alloc (.cells c 30)) := by
  refine ⟨⟨fun i => (c[i]?).getD undef, ?_⟩, [], by rw [List.take_zero]; unfold Ty.RowOwn; rfl, List.nodup_nil, by simp⟩
  rw [← hc]
  exact World.rowIs_alloc _ _ _ _ fun i hi => by simp [hi]
/-- Behind a call that leaves all that was: the blocks lie below what there was. -/
def RowOD2 (zs g n k : Nat) (ks : List Ty) (w2 : World) : Prop := (∃ f, w2.rowIs g 30 (n * 4) f) ∧ g < zs ∧ ∃ bs, Ty.RowOwn w2 (ks.take k) g 0 bs ∧ bs.Nodup ∧ ∀ b ∈ bs, g < b ∧ b < zs
theorem RowOD.below2 {g n k : Nat} {ks : List Ty} {wr w2 : World} (h : RowOD g n k ks wr) (hb : Below wr.heap.size wr w2) : RowOD2 wr.heap.size g n k ks w2 := by
  obtain ⟨⟨f, hr⟩, bs, h1, h2, h3⟩ := h
  exact ⟨⟨f, hr.of_block (hb.block _ hr.lt)⟩, hr.lt, bs, Ty.RowOwn.keep (cs := []) (KeptBut.of_below hb) (by simp) (by simp) h1, h2, h3⟩
theorem RowOD.below {g n k : Nat} {ks : List Ty} {wr w2 : World} (h : RowOD g n k ks wr) (hb : Below wr.heap.size wr w2) : RowOD g n k ks w2 := by
  obtain ⟨h1, _, bs, h2, h3, h4⟩ := h.below2 hb
  exact ⟨h1, bs, h2, h3, fun b hb' => ⟨(h4 b hb').1, Nat.lt_of_lt_of_le (h4 b hb').2 hb.size⟩⟩
theorem RowOD2.step {zs g n k : Nat} {ks : List Ty} {w2 : World} (h : RowOD2 zs g n k ks w2) {t : Ty} (ht : ks[k]? = some t) (hkn : k < n) {A B : Option Addr} {ca cb : Nat} {b1 : List Nat} (hat : Ty.Own w2 t A B b1) (hnd : b1.Nodup) (hbs : ∀ b ∈ b1, zs ≤ b ∧ b < w2.heap.size) (hzs : zs ≤ w2.heap.size) :
    RowOD g n (k + 1) ks ((((w2.setCell ⟨g, k * 4, none⟩ (.int .i64 t.kind)).setCell ⟨g, k * 4 + 1, none⟩ (.string t.name)).setCell ⟨g, k * 4 + 2, none⟩ (.slice A t.labels.length ca)).setCell ⟨g, k * 4 + 3, none⟩ (.slice B t.kids.length cb)) := by
  obtain ⟨⟨f, hr⟩, hgz, bs, h1, h2, h3⟩ := h
  have hkl := (List.getElem?_eq_some_iff.1 ht).1
  have hlen : (ks.take k).length = k := by rw [List.length_take]; omega
  have hg : g ∉ bs := fun hm => by have := (h3 g hm).1; omega
  have hg1 : g ∉ b1 := fun hm => by have := (hbs g hm).1; omega
  have hs := World.cell?_setCells_in g [.int .i64 t.kind, .string t.name, .slice A t.labels.length ca, .slice B t.kids.length cb] (k * 4) w2 (fun j hj => by
    have hj' : j < 4 := by simpa using hj
    rw [hr.cell (by omega)]
    rfl)
  have e0 := hs 0 (by simp)
  have e1 := hs 1 (by simp)
  have e2 := hs 2 (by simp)
  have e3 := hs 3 (by simp)
  rw [Nat.add_zero] at e0
  have hk : KeptBut [g] w2 ((((w2.setCell ⟨g, k * 4, none⟩ (.int .i64 t.kind)).setCell ⟨g, k * 4 + 1, none⟩ (.string t.name)).setCell ⟨g, k * 4 + 2, none⟩ (.slice A t.labels.length ca)).setCell ⟨g, k * 4 + 3, none⟩ (.slice B t.kids.length cb)) :=
    (((KeptBut.setCell (by simp) _).trans (KeptBut.setCell (by simp) _)).trans (KeptBut.setCell (by simp) _)).trans (KeptBut.setCell (by simp) _)
  refine ⟨⟨_, (((hr.set (k * 4) (.int .i64 t.kind)).set (k * 4 + 1) (.string t.name)).set (k * 4 + 2) (.slice A t.labels.length ca)).set (k * 4 + 3) (.slice B t.kids.length cb)⟩, bs ++ b1, ?_, ?_, ?_⟩
  · rw [Ty.take_succ ht]
    refine Ty.RowOwn.snoc ?_ (A := A) (B := B) (ca := ca) (cb := cb) ?_ (Ty.Own.keep hk (fun b hb => by simp; exact fun e => hg1 (e ▸ hb)) hat)
    · exact Ty.RowOwn.set _ (by rw [hlen]; omega) hg (Ty.RowOwn.set _ (by rw [hlen]; omega) hg (Ty.RowOwn.set _ (by rw [hlen]; omega) hg (Ty.RowOwn.set _ (by rw [hlen]; omega) hg h1)))
    · rw [hlen, Nat.zero_add]
      exact ⟨e0, e1, e2, e3⟩
  · rw [List.nodup_append]
    exact ⟨h2, hnd, fun a ha b hb e => by have := (h3 a ha).2; have := (hbs b hb).1; omega⟩
  · intro b hb
    have hz : ((((w2.setCell ⟨g, k * 4, none⟩ (.int .i64 t.kind)).setCell ⟨g, k * 4 + 1, none⟩ (.string t.name)).setCell ⟨g, k * 4 + 2, none⟩ (.slice A t.labels.length ca)).setCell ⟨g, k * 4 + 3, none⟩ (.slice B t.kids.length cb)).heap.size = w2.heap.size := by simp
    rw [hz]
    rcases List.mem_append.1 hb with hb | hb
    · have := h3 b hb
      omega
    · have := hbs b hb
      omega
theorem RowOD.done {g : Nat} {ks : List Ty} {wr : World} (h : RowOD g ks.length ks.length ks wr) : ∃ bs, Ty.RowsOwn wr ks (some ⟨g, 0, none⟩) bs ∧ bs.Nodup ∧ ∀ b ∈ bs, g ≤ b ∧ b < wr.heap.size := by
  obtain ⟨⟨f, hr⟩, bs, h1, h2, h3⟩ := h
  rw [List.take_length] at h1
  refine ⟨g :: bs, Or.inr ⟨g, bs, rfl, rfl, Blk.rowIs hr, h1⟩, ?_, ?_⟩
  · rw [List.nodup_cons]
    exact ⟨fun hm => by have := (h3 g hm).1; omega, h2⟩
  · intro b hb
    rcases List.mem_cons.1 hb with rfl | hb
    · exact ⟨Nat.le_refl _, hr.lt⟩
    · have := h3 b hb
      omega

/-- What copying a tree leaves: the same tree in memory of its own. -/
def ToOwnPost (T : Ty) (w : World) (e : Ending) (w' : World) : Prop := ∃ (A B : Option Addr) (bs : List Nat), e = .returned (.agg #[.int .i64 T.kind, .string T.name, .slice A T.labels.length T.labels.length, .slice B T.kids.length T.kids.length]) ∧ Ty.Own w' T A B bs ∧ bs.Nodup ∧ (∀ b ∈ bs, w.heap.size ≤ b ∧ b < w'.heap.size) ∧ Below w.heap.size w w'
def ToOwn (T : Ty) : Prop := ∀ (A B : Option Addr) (ca cb lo : Nat) (w : World), Ty.At w lo T A B →
  Calls Tryz.prog 9 #[.agg #[.int .i64 T.kind, .string T.name, .slice A T.labels.length ca, .slice B T.kids.length cb]] w (ToOwnPost T w)

theorem toStringS_own (ls : List ByteArray) (A : Option Addr) (cap : Nat) (hl : ls.length ≤ 1048576) (lo : Nat) (w : World) (h : Strs w lo ls A) :
    Calls Tryz.prog 26 #[.slice A ls.length cap] w fun e w' => e = .returned (.slice (some ⟨w.heap.size, 0, none⟩) ls.length ls.length) ∧ StrsOwn w' ls (some ⟨w.heap.size, 0, none⟩) [w.heap.size] ∧ Below w.heap.size w w' := by
  have H := Lib.hid h
  clear h
  obtain ⟨F, hF⟩ : ∃ F : Nat → Nat → Value, F = fun k j => if j < k then .string (ls.getD j ByteArray.empty) else .string ⟨#[]⟩ := ⟨_, rfl⟩
  have HF := Lib.hid hF
  clear hF
  have hmk := run_make_row' (P := Tryz.prog) 22 9 (.string ⟨#[]⟩) 16 Tryz.underlying22 infoString rfl .i64 .i64 ls.length (by omega) (by omega)
  go_enter Tryz.func26, Tryz.ntmps26
  go_wp2
  go_loopw [4] (fun i wr => ∃ k : Nat, k ≤ ls.length ∧ i = .int .i64 k ∧ wr.rowIs w.heap.size 9 ls.length (F k) ∧ Below w.heap.size w wr) (fun i _ => ls.length - (intOf i).toNat)
  case atStart => exact ⟨0, Nat.zero_le _, rfl, (World.rowIs_made _ _ _ _).congr (fun i _ => by rw [HF.out]; simp), below1 _ _⟩
  case round =>
    obtain ⟨k, hk, rfl, hrow, hbel⟩ := hrel
    by_cases hlt : k < ls.length
    · obtain ⟨b, o, s, rfl, _, hsk, hc0⟩ := H.out.at_ hlt
      have hc := keepCell hbel hc0
      have hg := hrow.cell hlt
      have hfz := hrow.frozen k
      have HR := Lib.hid hrow
      have hs : ls.getD k ByteArray.empty = s := by simp [List.getD, hsk]
      have HS := Lib.hid hs
      have hli : (k : Int) < (ls.length : Int) := by omega
      have HB := Lib.hid hbel
      clear hs hsk hc0 hrow hbel hmk
      go_wp2_with fail
      go_roundw
      case rel => exact ⟨k + 1, by omega, by go_num, ((HR.out.set k (.string s)).congr (fun j hj => by
          rw [HF.out]
          by_cases e : j = k
          · subst e
            simp [← HS.out]
          · by_cases hjk : j < k
            · simp [e, hjk, show j < k + 1 by omega]
            · simp [e, hjk, show ¬ j < k + 1 by omega])), HB.out.setCell (Nat.le_refl _) _⟩
      case measure => simp [intOf]; omega
    · have hk' : k = ls.length := by omega
      have HR := Lib.hid hrow
      have HB := Lib.hid hbel
      clear hrow hbel hmk
      go_wp2
      go_ret
      refine ⟨rfl, Or.inr ⟨_, rfl, rfl, Blk.rowIs HR.out, fun i s hs => ?_⟩, HB.out⟩
      obtain ⟨hi, hs'⟩ := List.getElem?_eq_some_iff.1 hs
      rw [HR.out.cell hi, HF.out]
      simp [hk', hi, hs']

set_option maxRecDepth 100000 in
theorem toTypeS_own_of (ks : List Ty) (hl : ks.length ≤ 1048576) (ih : ∀ (i : Nat) (t : Ty), ks[i]? = some t → ToOwn t) (B : Option Addr) (cb lo : Nat) (w : World) (h : Ty.RowAt w lo ks B) :
    Calls Tryz.prog 27 #[.slice B ks.length cb] w fun e w' => e = .returned (.slice (some ⟨w.heap.size, 0, none⟩) ks.length ks.length) ∧ (∃ bs, Ty.RowsOwn w' ks (some ⟨w.heap.size, 0, none⟩) bs ∧ bs.Nodup ∧ ∀ b ∈ bs, w.heap.size ≤ b ∧ b < w'.heap.size) ∧ Below w.heap.size w w' := by
  have H := Lib.hid h
  have IH := Lib.hid ih
  clear h ih
  obtain ⟨i0, hi0, hzz⟩ := Option.map_eq_some_iff.1 infoType
  simp only [Prod.mk.injEq] at hzz
  obtain ⟨hz0, hz1, hz2⟩ := hzz
  have hmk : ∀ W : World, (Instr.makeSlice 28 (.int .i64 (ks.length : Int)) (.int .i64 (ks.length : Int))).run Tryz.prog W = .ok (.slice (some ⟨W.heap.size, 0, none⟩) ks.length ks.length) (W.alloc (.cells (madeCells #[.int .i64 0, .string ⟨#[]⟩, .slice none 0 0, .slice none 0 0] (ks.length * 4)) 30)) := by
    intro W
    rw [run_make W 28 30 i0 _ Tryz.underlying28 hi0 hz0 .i64 .i64 (ks.length : Int) (ks.length : Int) (by omega) (by omega) (by rw [hz2]; omega) (by omega), hz1]
    simp [Value.cells]
  clear hz0 hz1 hz2 hi0
  go_enter Tryz.func27, Tryz.ntmps27
  go_wp2
  go_loopw [4] (fun i wr => ∃ k : Nat, k ≤ ks.length ∧ i = .int .i64 k ∧ RowOD w.heap.size ks.length k ks wr ∧ Below w.heap.size w wr) (fun i _ => ks.length - (intOf i).toNat)
  case atStart => exact ⟨0, Nat.zero_le _, rfl, RowOD.start (size_madeCells _ _), below1 _ _⟩
  case round =>
    obtain ⟨k, hk, rfl, hrow, hbel⟩ := hrel
    clear hmk
    by_cases hlt : k < ks.length
    · obtain ⟨b, o, t, A', B', ca', cb', rfl, _, htk, hc⟩ := (H.out.below hbel).at_ hlt
      have C := Lib.hid (IH.out k t htk A' B' ca' cb' lo wr hc.tree)
      obtain ⟨c0, c1, c2, c3, _⟩ := hc
      have HB := Lib.hid hbel
      have HR := Lib.hid hrow
      have HT := Lib.hid htk
      have hlc := hbel.size
      have hgl := hrow.lt
      clear htk hbel hrow
      go_wp2_with (go_at_call 9; (with_reducible refine C.out.mono ?_); rintro e w2 ⟨A2, B2, b2, rfl, hat, hnd, hbs, hb2⟩; have HR2 := Lib.hid (HR.out.below2 hb2); have HR3 := Lib.hid (HR.out.below hb2); have HRB := Lib.hid hb2.size; have HA2 := Lib.hid hat; have HND := Lib.hid hnd; have HBS := Lib.hid hbs; obtain ⟨x0, y0⟩ := HR3.out.cells hlt 0 (by omega); obtain ⟨x1, y1⟩ := HR3.out.cells hlt 1 (by omega); obtain ⟨x2, y2⟩ := HR3.out.cells hlt 2 (by omega); obtain ⟨x3, y3⟩ := HR3.out.cells hlt 3 (by omega); have z0 := HR3.out.free (k * 4); have z1 := HR3.out.free (k * 4 + 1); have z2 := HR3.out.free (k * 4 + 2); have z3 := HR3.out.free (k * 4 + 3); rw [Nat.add_zero] at y0; have hlt2 : w.heap.size < w2.heap.size := Nat.lt_of_lt_of_le hgl hb2.size; have HB2 := Lib.hid (bchain HB.out hb2 hlc); clear hat hb2 hnd hbs)
      go_roundw
      case rel =>
        exact ⟨k + 1, by omega, by go_num, HR2.out.step HT.out hlt HA2.out HND.out HBS.out HRB.out, (((HB2.out.setCell (Nat.le_refl _) _).setCell (Nat.le_refl _) _).setCell (Nat.le_refl _) _).setCell (Nat.le_refl _) _⟩
      case measure => simp [intOf]; omega
    · have hk' : k = ks.length := by omega
      have HR := Lib.hid hrow
      have HB := Lib.hid hbel
      clear hrow hbel
      go_wp2
      go_ret
      refine ⟨rfl, RowOD.done ?_, HB.out⟩
      have := HR.out
      rw [hk'] at this
      exact this
end Go.Proofs.YtifchfecfkdjlaaGreatDoor
