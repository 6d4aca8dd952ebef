/-
  Walks of measuring, copying and comparing lists of tokens.
-/
import Derived.Test.YtfadodmkppeodaaTok
import Derived.Deep.LoopGhost
import Derived.Deep.OwnRows
import Derived.Laws.MakeOwn
import Derived.Deep.RegionHeld3
namespace Go.Proofs.Ytfadodmkppeodaa
open Go.ChangeShapes Go.WideShapes Go.ChangeAt Go.RowKit Go.Deep

/-- A token by value. -/
def Tok.v (t : Tok) : Value := .agg #[.int .i64 t.kind, .string t.text, .int .i64 t.line]

theorem szToken_any (t : Tok) (left : Int) (h0 : 0 ≤ left) (h1 : left ≤ 1048576) (ht : t.text.size ≤ 9223372036854775807) (w : World) :
    Calls Try.prog 80 #[.agg #[.int .i64 t.kind, .string t.text, .int .i64 t.line], .int .i64 left] w fun e w' => e = .returned (.int .i64 (leftOr (left - t.text.size))) ∧ Below w.heap.size w w' := by
  by_cases hn : left - (t.text.size : Int) < 0
  · have hl : leftOr (left - t.text.size) = -1 := if_pos hn
    rw [hl]
    go_enter Try.func80, Try.ntmps80
    go_wp2
    go_ret
    exact ⟨rfl, below1 _ _⟩
  · have hl : leftOr (left - t.text.size) = left - t.text.size := if_neg hn
    rw [hl]
    have hn' : (t.text.size : Int) ≤ left := by omega
    go_enter Try.func80, Try.ntmps80
    go_wp2
    go_ret
    exact ⟨rfl, below1 _ _⟩

theorem toToken_any (t : Tok) (w : World) :
    Calls Try.prog 81 #[.agg #[.int .i64 t.kind, .string t.text, .int .i64 t.line]] w fun e w' => e = .returned (.agg #[.int .i64 t.kind, .string t.text, .int .i64 t.line]) ∧ Below w.heap.size w w' := by
  go_enter Try.func81, Try.ntmps81
  go_wp2
  exact bodyPost_ret (v := .agg #[.int .i64 t.kind, .string t.text, .int .i64 t.line]) (by simp [results, Try.results81, go_sem]) rfl ⟨rfl, below3 _ _ _ _⟩

theorem eqToken_same (t : Tok) (w : World) :
    Calls Try.prog 83 #[.agg #[.int .i64 t.kind, .string t.text, .int .i64 t.line], .agg #[.int .i64 t.kind, .string t.text, .int .i64 t.line]] w fun e w' => e = .returned (.bool true) ∧ Below w.heap.size w w' := by
  go_enter Try.func83, Try.ntmps83
  go_wp2
  go_ret
  exact ⟨rfl, below2 _ _ _⟩

/-- The texts of tokens. -/
def txs (ts : List Tok) : List ByteArray := ts.map Tok.text
theorem txs_get {ts : List Tok} {k : Nat} {t : Tok} (h : ts[k]? = some t) : (txs ts)[k]? = some t.text := by simp [txs, h]
theorem Toks.at_ {w : World} {lo : Nat} {ts : List Tok} {A : Option Addr} (h : Toks w lo ts A) {k : Nat} (hk : k < ts.length) :
    ∃ (b o : Nat) (t : Tok), A = some ⟨b, o, none⟩ ∧ lo ≤ b ∧ ts[k]? = some t ∧ w.cell? ⟨b, o + k * 3, none⟩ = some (.int .i64 t.kind) ∧ w.cell? ⟨b, o + k * 3 + 1, none⟩ = some (.string t.text) ∧ w.cell? ⟨b, o + k * 3 + 2, none⟩ = some (.int .i64 t.line) := by
  obtain ⟨b, o, ha, hlo, hc⟩ := h (by omega)
  exact ⟨b, o, ts[k], ha, hlo, List.getElem?_eq_getElem hk, hc k _ (List.getElem?_eq_getElem hk)⟩

theorem szTokenS_any (ts : List Tok) (A : Option Addr) (cap : Nat) (left : Int) (h0 : 0 ≤ left) (h1 : left ≤ 1048576) (hl : ts.length ≤ maxLen) (hs : ∀ t ∈ ts, TokFin t) (lo : Nat) (w : World) (h : Toks w lo ts A) :
    Calls Try.prog 44 #[.slice A ts.length cap, .int .i64 left] w fun e w' => e = .returned (.int .i64 (leftOr (left - ts.length - sumSz (txs ts)))) ∧ Below w.heap.size w w' := by
  unfold maxLen at hl
  have hsum := sumSz_nonneg (txs ts)
  have HS := Lib.hid hs
  have H := Lib.hid h
  clear hs h
  by_cases hn : left - (ts.length : Int) < 0
  · have hr := leftOr_neg (n := left - ts.length - sumSz (txs ts)) (by omega)
    rw [hr]
    go_enter Try.func44, Try.ntmps44
    go_wp2
    go_ret
    exact ⟨rfl, Below.refl _ _⟩
  · have hn' : (ts.length : Int) ≤ left := by omega
    obtain ⟨R, hR⟩ : ∃ R, leftOr (left - ts.length - sumSz (txs ts)) = R := ⟨_, rfl⟩
    rw [hR]
    have HR := Lib.hid hR
    clear hR hn
    go_enter Try.func44, Try.ntmps44
    go_wp2
    go_loopw [1, 5] (fun l i wr => ∃ k : Nat, k ≤ ts.length ∧ i = .int .i64 k ∧ ∃ L : Int, l = .int .i64 L ∧ 0 ≤ L ∧ L ≤ 1048576 ∧ Hid (L = left - ts.length - sumSz ((txs ts).take k)) ∧ Below w.heap.size w wr) (fun _ i _ => ts.length - (intOf i).toNat)
    case atStart => exact ⟨0, Nat.zero_le _, rfl, _, rfl, by omega, by omega, by simp [Hid, sumSz], Below.refl _ _⟩
    case round =>
      obtain ⟨k, hk, rfl, L, rfl, L0, L1, hL, hbel⟩ := hrel
      by_cases hlt : k < ts.length
      · obtain ⟨b, o, t, rfl, _, htk, c0, c1, c2⟩ := (H.out.below hbel).at_ hlt
        have hsz := HS.out t (List.mem_of_getElem? htk)
        unfold TokFin maxLen at hsz
        have C := Lib.hid (szToken_any t L L0 L1 (by omega) wr)
        have HST := Lib.hid (sumSz_take (txs_get htk))
        have hle := sumSz_take_le (txs ts) (k + 1)
        have HB := Lib.hid hbel
        have hlc := hbel.size
        clear htk hbel
        by_cases hneg : L - (t.text.size : Int) < 0
        · have e := leftOr_neg hneg
          rw [e] at C
          go_wp2_with (go_at_call 80; (with_reducible refine C.out.mono ?_); rintro e wx ⟨rfl, hbx⟩)
          go_ret
          refine ⟨ret_int ?_, bchain HB.out hbx hlc⟩
          rw [← HR.out, leftOr_neg]
          have := hL.out
          have := HST.out
          omega
        · have e := leftOr_pos (n := L - (t.text.size : Int)) (by omega)
          rw [e] at C
          have hneg' : 0 ≤ L - (t.text.size : Int) := by omega
          clear hneg e
          obtain ⟨M, hM⟩ : ∃ M, L - (t.text.size : Int) = M := ⟨_, rfl⟩
          rw [hM] at C hneg'
          have HM := Lib.hid hM
          have hM1 : M ≤ 1048576 := by omega
          clear hM
          go_wp2_with (go_at_call 80; (with_reducible refine C.out.mono ?_); rintro e wx ⟨rfl, hbx⟩)
          go_roundw
          case rel => exact ⟨k + 1, by omega, by go_num, _, rfl, by omega, by omega, by have := hL.out; have := HST.out; have := HM.out; simp only [Hid]; omega, bchain HB.out hbx hlc⟩
          case measure => simp [intOf]; omega
      · have hk' : k = ts.length := by omega
        go_wp2
        go_ret
        refine ⟨ret_int ?_, hbel⟩
        have e := hL.out
        have hlen : (txs ts).length = ts.length := by simp [txs]
        rw [hk', ← hlen, List.take_length, hlen] at e
        rw [← HR.out, leftOr_pos (by omega)]
        exact e

/-- The row that so many tokens are copied into. -/
def TokDone (g n k : Nat) (ts : List Tok) (wr : World) : Prop := ∃ f : Nat → Value, wr.rowIs g 101 (n * 3) f ∧ ∀ (j : Nat) (t : Tok), j < k → ts[j]? = some t → f (j * 3) = .int .i64 t.kind ∧ f (j * 3 + 1) = .string t.text ∧ f (j * 3 + 2) = .int .i64 t.line
theorem TokDone.below {g n k : Nat} {ts : List Tok} {wr w2 : World} (h : TokDone g n k ts wr) (hb : Below wr.heap.size wr w2) : TokDone g n k ts w2 := by
  obtain ⟨f, hr, hf⟩ := h
  exact ⟨f, hr.of_block (hb.block _ hr.lt), hf⟩
theorem TokDone.step {g n k : Nat} {ts : List Tok} {w2 : World} (h : TokDone g n k ts w2) {t : Tok} (ht : ts[k]? = some t) :
    TokDone g n (k + 1) ts (((w2.setCell ⟨g, k * 3, none⟩ (.int .i64 t.kind)).setCell ⟨g, k * 3 + 1, none⟩ (.string t.text)).setCell ⟨g, k * 3 + 2, none⟩ (.int .i64 t.line)) := by
  obtain ⟨f, hr, hf⟩ := h
  refine ⟨_, ((hr.set (k * 3) (.int .i64 t.kind)).set (k * 3 + 1) (.string t.text)).set (k * 3 + 2) (.int .i64 t.line), fun j u hj hu => ?_⟩
  by_cases e : j = k
  · subst e
    obtain rfl : t = u := by
      rw [ht] at hu
      exact Option.some.inj hu
    exact ⟨by simp, by simp, by simp⟩
  · obtain ⟨e0, e1, e2⟩ := hf j u (by omega) hu
    refine ⟨?_, ?_, ?_⟩
    · rw [if_neg (by omega), if_neg (by omega), if_neg (by omega)]
      exact e0
    · rw [if_neg (by omega), if_neg (by omega), if_neg (by omega)]
      exact e1
    · rw [if_neg (by omega), if_neg (by omega), if_neg (by omega)]
      exact e2
theorem TokDone.cells {g n k : Nat} {ts : List Tok} {wr : World} (h : TokDone g n k ts wr) (hk : k < n) (j : Nat) (hj : j < 3) : ∃ v, wr.cell? ⟨g, k * 3 + j, none⟩ = some v := by
  obtain ⟨f, hr, _⟩ := h
  exact ⟨_, hr.cell (by omega)⟩
theorem TokDone.free {g n k : Nat} {ts : List Tok} {wr : World} (h : TokDone g n k ts wr) (i : Nat) : wr.frozen? ⟨g, i, none⟩ = false := by
  obtain ⟨f, hr, _⟩ := h
  exact hr.frozen i
theorem TokDone.lt {g n k : Nat} {ts : List Tok} {wr : World} (h : TokDone g n k ts wr) : g < wr.heap.size := by
  obtain ⟨f, hr, _⟩ := h
  exact hr.lt
theorem TokDone.start {w0 : World} {n : Nat} {ts : List Tok} {c : Array Value} (hc : c.size = n * 3) : TokDone w0.heap.size n 0 ts (w0.alloc (.cells c 101)) := by
  refine ⟨fun i => (c[i]?).getD undef, ?_, fun j t hj _ => by omega⟩
  rw [← hc]
  exact World.rowIs_alloc _ _ _ _ fun i hi => by simp [hi]
theorem TokDone.done {g : Nat} {ts : List Tok} {wr : World} (h : TokDone g ts.length ts.length ts wr) : Toks wr g ts (some ⟨g, 0, none⟩) := fun _ => by
  obtain ⟨f, hr, hf⟩ := h
  refine ⟨g, 0, rfl, Nat.le_refl _, fun i t ht => ?_⟩
  have hi := (List.getElem?_eq_some_iff.1 ht).1
  obtain ⟨e0, e1, e2⟩ := hf i t hi ht
  rw [Nat.zero_add]
  exact ⟨by rw [hr.cell (by omega), e0], by rw [hr.cell (by omega), e1], by rw [hr.cell (by omega), e2]⟩

theorem infoToken : (Try.prog.info? 101).map (fun i => (i.zero, i.size, i.bytes)) = some (some (.agg #[.int .i64 0, .string ⟨#[]⟩, .int .i64 0]), 3, 32) := by kernel_rfl

set_option maxRecDepth 100000 in
theorem toTokenS_any (ts : List Tok) (hl : ts.length ≤ 1048576) (A : Option Addr) (cap lo : Nat) (w : World) (h : Toks w lo ts A) :
    Calls Try.prog 46 #[.slice A ts.length cap] w fun e w' => e = .returned (.slice (some ⟨w.heap.size, 0, none⟩) ts.length ts.length) ∧ Toks w' w.heap.size ts (some ⟨w.heap.size, 0, none⟩) ∧ Below w.heap.size w w' := by
  have H := Lib.hid h
  clear h
  obtain ⟨i0, hi0, hzz⟩ := Option.map_eq_some_iff.1 infoToken
  simp only [Prod.mk.injEq] at hzz
  obtain ⟨hz0, hz1, hz2⟩ := hzz
  have hmk : ∀ W : World, (Instr.makeSlice 63 (.int .i64 (ts.length : Int)) (.int .i64 (ts.length : Int))).run Try.prog W = .ok (.slice (some ⟨W.heap.size, 0, none⟩) ts.length ts.length) (W.alloc (.cells (madeCells #[.int .i64 0, .string ⟨#[]⟩, .int .i64 0] (ts.length * 3)) 101)) := by
    intro W
    rw [run_make W 63 101 i0 _ Try.underlying63 hi0 hz0 .i64 .i64 (ts.length : Int) (ts.length : Int) (by omega) (by omega) (by rw [hz2]; omega) (by omega), hz1]
    simp [Value.cells]
  clear hz0 hz1 hz2 hi0
  go_enter Try.func46, Try.ntmps46
  go_wp2
  go_loopw [4] (fun i wr => ∃ k : Nat, k ≤ ts.length ∧ i = .int .i64 k ∧ TokDone w.heap.size ts.length k ts wr ∧ Below w.heap.size w wr) (fun i _ => ts.length - (intOf i).toNat)
  case atStart => exact ⟨0, Nat.zero_le _, rfl, TokDone.start (size_madeCells _ _), below1 _ _⟩
  case round =>
    obtain ⟨k, hk, rfl, hrow, hbel⟩ := hrel
    clear hmk
    by_cases hlt : k < ts.length
    · obtain ⟨b, o, t, rfl, _, htk, c0, c1, c2⟩ := (H.out.below hbel).at_ hlt
      have C := Lib.hid (toToken_any t wr)
      have HB := Lib.hid hbel
      have HR := Lib.hid hrow
      have HT := Lib.hid htk
      have hlc := hbel.size
      have hgl := hrow.lt
      clear htk hbel hrow
      go_wp2_with (go_at_call 81; (with_reducible refine C.out.mono ?_); rintro e w2 ⟨rfl, hb2⟩; have HR2 := Lib.hid (HR.out.below hb2); obtain ⟨x0, y0⟩ := HR2.out.cells hlt 0 (by omega); obtain ⟨x1, y1⟩ := HR2.out.cells hlt 1 (by omega); obtain ⟨x2, y2⟩ := HR2.out.cells hlt 2 (by omega); have z0 := HR2.out.free (k * 3); have z1 := HR2.out.free (k * 3 + 1); have z2 := HR2.out.free (k * 3 + 2); rw [Nat.add_zero] at y0; have hlt2 : w.heap.size < w2.heap.size := Nat.lt_of_lt_of_le hgl hb2.size; have HB2 := Lib.hid (bchain HB.out hb2 hlc); clear hb2)
      go_roundw
      case rel => exact ⟨k + 1, by omega, by go_num, HR2.out.step HT.out, ((HB2.out.setCell (Nat.le_refl _) _).setCell (Nat.le_refl _) _).setCell (Nat.le_refl _) _⟩
      case measure => simp [intOf]; omega
    · have hk' : k = ts.length := by omega
      have HR := Lib.hid hrow
      have HB := Lib.hid hbel
      clear hrow hbel
      go_wp2
      go_ret
      refine ⟨rfl, TokDone.done ?_, HB.out⟩
      have := HR.out
      rw [hk'] at this
      exact this

theorem belowN {W a : World} (h : Below W.heap.size W a) (n : Nat) : Below W.heap.size W (a.drewN n) := ⟨h.os, h.tape, h.output, h.size, h.block⟩

theorem eqTokenS_same (ts : List Tok) (hl : ts.length ≤ 1048576) (A A' : Option Addr) (cap cap' lo lo' : Nat) (w : World) (h : Toks w lo ts A) (h' : Toks w lo' ts A') :
    Calls Try.prog 48 #[.slice A ts.length cap, .slice A' ts.length cap'] w fun e w' => e = .returned (.bool true) ∧ Below w.heap.size w w' := by
  have H := Lib.hid h
  have H' := Lib.hid h'
  clear h h'
  go_enter Try.func48, Try.ntmps48
  go_wp2
  go_loopw [5] (fun i wr => ∃ k : Nat, k ≤ ts.length ∧ i = .int .i64 k ∧ Below w.heap.size w wr) (fun i _ => ts.length - (intOf i).toNat)
  case atStart => exact ⟨0, Nat.zero_le _, rfl, Below.refl _ _⟩
  case round =>
    obtain ⟨k, hk, rfl, hbel⟩ := hrel
    by_cases hlt : k < ts.length
    · obtain ⟨b, o, t, rfl, _, htk, c0, c1, c2⟩ := (H.out.below hbel).at_ hlt
      obtain ⟨b', o', t', rfl, _, htk', d0, d1, d2⟩ := (H'.out.below hbel).at_ hlt
      obtain rfl : t = t' := by
        rw [htk] at htk'
        exact Option.some.inj htk'
      have C : Hid (∀ n : Nat, Calls Try.prog 83 #[.agg #[.int .i64 t.kind, .string t.text, .int .i64 t.line], .agg #[.int .i64 t.kind, .string t.text, .int .i64 t.line]] (wr.drewN n) fun e w' => e = .returned (.bool true) ∧ Below wr.heap.size (wr.drewN n) w') := Lib.hid (fun n => eqToken_same t (wr.drewN n))
      have HB := Lib.hid hbel
      have hli : (k : Int) < (ts.length : Int) := by omega
      clear htk htk' hbel
      go_wp2_with fail
      go_region_held3 (fun w' => w'.cell? ⟨b, o + k * 3, none⟩ = some (.int .i64 t.kind) ∧ w'.cell? ⟨b, o + k * 3 + 1, none⟩ = some (.string t.text) ∧ w'.cell? ⟨b, o + k * 3 + 2, none⟩ = some (.int .i64 t.line) ∧ w'.cell? ⟨b', o' + k * 3, none⟩ = some (.int .i64 t.kind) ∧ w'.cell? ⟨b', o' + k * 3 + 1, none⟩ = some (.string t.text) ∧ w'.cell? ⟨b', o' + k * 3 + 2, none⟩ = some (.int .i64 t.line) ∧ Below wr.heap.size wr w')
        (first | assumption | (exact (Below.refl _ _).drew) | (exact ⟨c0, c1, c2, d0, d1, d2, (Below.refl _ _).drew⟩) | (refine ⟨?_, ?_, ?_, ?_, ?_, ?_, ?_⟩ <;> assumption))
        (first | (go_at_call 83; refine (C.out 1).mono ?_; rintro e wx ⟨rfl, hbx⟩; have hbw : Below wr.heap.size wr wx := (Below.refl wr.heap.size wr).drew.trans hbx; have p0 := keepCell hbw c0; have p1 := keepCell hbw c1; have p2 := keepCell hbw c2; have p4 := keepCell hbw d0; have p5 := keepCell hbw d1; have p6 := keepCell hbw d2))
      go_wp2_with fail
      go_roundw
      case rel => exact ⟨k + 1, by omega, by go_num, bnext HB.out (by assumption)⟩
      case measure => simp [intOf]; omega
    · go_wp2
      go_ret
      exact ⟨rfl, hbel⟩
end Go.Proofs.Ytfadodmkppeodaa
