/-
  TyW, TyW2, TyW3, Digits, WhyP: in one text.
-/
import Derived.Test.YtifchfecfkdjlaaGreatDoorMA
import Derived.Laws.IdiomCopy
import Derived.Test.YtifchfecfkdjlaaGreatDoorBase
import Derived.Lib.ItoaNum
namespace Go.Proofs.YtifchfecfkdjlaaGreatDoor
open Go.ChangeShapes Go.WideShapes Go.ChangeAt Go.RowKit

/-- Where a row of trees lies. -/
def Ty.RowAt (w : World) (lo : Nat) (ks : List Ty) (B : Option Addr) : Prop := 0 < ks.length → ∃ b o : Nat, B = some ⟨b, o, none⟩ ∧ lo ≤ b ∧ ∀ (i : Nat) (t : Ty), ks[i]? = some t → ∃ A' B' ca cb, Ty.Cells w lo t b (o + i * 4) A' B' ca cb
theorem Ty.At.rowAt {w : World} {lo : Nat} {T : Ty} {A B : Option Addr} (h : Ty.At w lo T A B) : Ty.RowAt w lo T.kids B := fun hp => by
  obtain ⟨b, o, hb, hlo, hr⟩ := h.row hp
  refine ⟨b, o, hb, hlo, fun i t ht => ?_⟩
  rw [Nat.mul_comm i 4]
  exact hr i t ht
theorem Ty.RowAt.keep {w w' : World} {lo : Nat} {ks : List Ty} {B : Option Addr} (h : Ty.RowAt w lo ks B) (hk : KeptFrom lo w w') : Ty.RowAt w' lo ks B := fun hp => by
  obtain ⟨b, o, hb, hlo, hr⟩ := h hp
  refine ⟨b, o, hb, hlo, fun i t ht => ?_⟩
  obtain ⟨A', B', ca, cb, hc⟩ := hr i t ht
  exact ⟨A', B', ca, cb, hc.keep hk hlo⟩
theorem Ty.RowAt.below {w w' : World} {lo : Nat} {ks : List Ty} {B : Option Addr} (h : Ty.RowAt w lo ks B) (hb : Below w.heap.size w w') : Ty.RowAt w' lo ks B := h.keep (KeptFrom.below hb lo)
theorem Ty.RowAt.at_ {w : World} {lo : Nat} {ks : List Ty} {B : Option Addr} (h : Ty.RowAt w lo ks B) {k : Nat} (hk : k < ks.length) :
    ∃ (b o : Nat) (t : Ty) (A' B' : Option Addr) (ca cb : Nat), B = some ⟨b, o, none⟩ ∧ lo ≤ b ∧ ks[k]? = some t ∧ Ty.Cells w lo t b (o + k * 4) A' B' ca cb := by
  obtain ⟨b, o, ha, hlo, hc⟩ := h (by omega)
  obtain ⟨A', B', ca, cb, h⟩ := hc k _ (List.getElem?_eq_getElem hk)
  exact ⟨b, o, ks[k], A', B', ca, cb, ha, hlo, List.getElem?_eq_getElem hk, h⟩

mutual
/-- The weight of a tree. -/
def Ty.wt : Ty → Int | .mk _ n l ks => n.size + l.length + sumSz l + ks.length + Ty.wts ks
def Ty.wts : List Ty → Int | [] => 0 | t :: ts => t.wt + Ty.wts ts
end
theorem Ty.wt_eq (T : Ty) : T.wt = T.name.size + T.labels.length + sumSz T.labels + T.kids.length + Ty.wts T.kids := by
  cases T
  rw [Ty.wt]
  rfl
theorem Ty.wts_append : ∀ xs ys : List Ty, Ty.wts (xs ++ ys) = Ty.wts xs + Ty.wts ys
  | [], ys => by simp [Ty.wts]
  | x :: xs, ys => by
    simp only [List.cons_append, Ty.wts, Ty.wts_append xs ys]
    omega
theorem Ty.wts_nonneg_of {ks : List Ty} (h : ∀ (i : Nat) (t : Ty), ks[i]? = some t → 0 ≤ t.wt) : 0 ≤ Ty.wts ks := by
  induction ks with
  | nil => simp [Ty.wts]
  | cons x xs ih =>
    have h0 := h 0 x rfl
    have h1 := ih fun i t ht => h (i + 1) t (by simpa using ht)
    simp only [Ty.wts]
    omega
theorem Ty.wt_nonneg : ∀ T : Ty, 0 ≤ T.wt := by
  intro T
  induction T using Ty.kidInd with
  | h T ih =>
    have h1 := Ty.wts_nonneg_of ih
    have h2 := sumSz_nonneg T.labels
    rw [Ty.wt_eq]
    omega
theorem Ty.wts_nonneg (ks : List Ty) : 0 ≤ Ty.wts ks := Ty.wts_nonneg_of fun _ t _ => t.wt_nonneg
theorem Ty.wts_take {ks : List Ty} {i : Nat} {t : Ty} (h : ks[i]? = some t) : Ty.wts (ks.take (i + 1)) = Ty.wts (ks.take i) + t.wt := by
  rw [Ty.take_succ h, Ty.wts_append]
  simp [Ty.wts]
theorem Ty.wts_take_le (ks : List Ty) (i : Nat) : Ty.wts (ks.take i) ≤ Ty.wts ks := by
  have := Ty.wts_append (ks.take i) (ks.drop i)
  rw [List.take_append_drop] at this
  have := Ty.wts_nonneg (ks.drop i)
  omega

/-- What measuring a tree gives. -/
def SzTy (T : Ty) : Prop := ∀ (left : Int), 0 ≤ left → left ≤ 1048576 → ∀ (A B : Option Addr) (ca cb lo : Nat) (w : World), Ty.At w lo T A B →
  Calls Tryz.prog 7 #[.agg #[.int .i64 T.kind, .string T.name, .slice A T.labels.length ca, .slice B T.kids.length cb], .int .i64 left] w fun e w' => e = .returned (.int .i64 (leftOr (left - T.wt))) ∧ Below w.heap.size w w'

theorem szTypeS_of (ks : List Ty) (hl : ks.length ≤ maxLen) (ih : ∀ (i : Nat) (t : Ty), ks[i]? = some t → SzTy t) (left : Int) (h0 : 0 ≤ left) (h1 : left ≤ 1048576) (B : Option Addr) (cb lo : Nat) (w : World) (h : Ty.RowAt w lo ks B) :
    Calls Tryz.prog 23 #[.slice B ks.length cb, .int .i64 left] w fun e w' => e = .returned (.int .i64 (leftOr (left - ks.length - Ty.wts ks))) ∧ Below w.heap.size w w' := by
  unfold maxLen at hl
  have hsum := Ty.wts_nonneg ks
  have H := Lib.hid h
  have IH := Lib.hid ih
  clear h ih
  by_cases hn : left - (ks.length : Int) < 0
  · have hr := leftOr_neg (n := left - ks.length - Ty.wts ks) (by omega)
    rw [hr]
    go_enter Tryz.func23, Tryz.ntmps23
    go_wp2
    go_ret
    exact ⟨rfl, Below.refl _ _⟩
  · have hn' : (ks.length : Int) ≤ left := by omega
    obtain ⟨R, hR⟩ : ∃ R, leftOr (left - ks.length - Ty.wts ks) = R := ⟨_, rfl⟩
    rw [hR]
    have HR := Lib.hid hR
    clear hR hn
    go_enter Tryz.func23, Tryz.ntmps23
    go_wp2
    go_loopw [1, 5] (fun l i wr => ∃ k : Nat, k ≤ ks.length ∧ i = .int .i64 k ∧ ∃ L : Int, l = .int .i64 L ∧ 0 ≤ L ∧ L ≤ 1048576 ∧ Hid (L = left - ks.length - Ty.wts (ks.take k)) ∧ Below w.heap.size w wr) (fun _ i _ => ks.length - (intOf i).toNat)
    case atStart => exact ⟨0, Nat.zero_le _, rfl, _, rfl, by omega, by omega, by simp [Hid, Ty.wts], Below.refl _ _⟩
    case round =>
      obtain ⟨k, hk, rfl, L, rfl, L0, L1, hL, hbel⟩ := hrel
      by_cases hlt : k < ks.length
      · obtain ⟨b, o, t, A', B', ca', cb', rfl, _, htk, hc⟩ := (H.out.below hbel).at_ hlt
        have C := Lib.hid (IH.out k t htk L L0 L1 A' B' ca' cb' lo wr hc.tree)
        have HST := Lib.hid (Ty.wts_take htk)
        have hle := Ty.wts_take_le ks (k + 1)
        obtain ⟨c0, c1, c2, c3, _⟩ := hc
        have HB := Lib.hid hbel
        have hlc := hbel.size
        have hwt := t.wt_nonneg
        clear htk hbel
        generalize t.wt = wt at *
        have hlo : leftOr (L - wt) = -1 ∨ leftOr (L - wt) = L - wt := by unfold leftOr; split <;> omega
        by_cases hneg : L - wt < 0
        · have e := leftOr_neg hneg
          rw [e] at C
          go_wp2_with (go_at_call 7; (with_reducible refine C.out.mono ?_); rintro e wx ⟨rfl, hbx⟩)
          go_ret
          refine ⟨ret_int ?_, bchain HB.out hbx hlc⟩
          rw [← HR.out, leftOr_neg]
          have := hL.out
          have := HST.out
          omega
        · have e := leftOr_pos (n := L - wt) (by omega)
          rw [e] at C
          have hneg' : 0 ≤ L - wt := by omega
          clear hneg e hlo
          obtain ⟨M, hM⟩ : ∃ M, L - wt = M := ⟨_, rfl⟩
          rw [hM] at C hneg'
          have HM := Lib.hid hM
          have hM1 : M ≤ 1048576 := by omega
          clear hM
          go_wp2_with (go_at_call 7; (with_reducible refine C.out.mono ?_); rintro e wx ⟨rfl, hbx⟩)
          go_roundw
          case rel => exact ⟨k + 1, by omega, by go_num, _, rfl, by omega, by omega, by have := hL.out; have := HST.out; have := HM.out; simp only [Hid]; omega, bchain HB.out hbx hlc⟩
          case measure => simp [intOf]; omega
      · have hk' : k = ks.length := by omega
        go_wp2
        go_ret
        refine ⟨ret_int ?_, hbel⟩
        have e := hL.out
        rw [hk', List.take_length] at e
        rw [← HR.out, leftOr_pos (by omega)]
        exact e

theorem szType_any (T : Ty) (hT : T.Fin) : SzTy T := by
  induction T using Ty.kidInd with
  | h T ih =>
    intro left h0 h1 A B ca cb lo w h
    obtain ⟨f1, f2, f3, f4, _, _⟩ := hT.own
    unfold maxLen at f1 f2 f3
    have hS := h.strs
    have hR := h.rowAt
    have hw := T.wt_eq
    have hn0 := sumSz_nonneg T.labels
    have hn1 := Ty.wts_nonneg T.kids
    have IH : Hid (∀ (left : Int), 0 ≤ left → left ≤ 1048576 → ∀ W : World, Ty.RowAt W lo T.kids B → Calls Tryz.prog 23 #[.slice B T.kids.length cb, .int .i64 left] W fun e w' => e = .returned (.int .i64 (leftOr (left - T.kids.length - Ty.wts T.kids))) ∧ Below W.heap.size W w') := Lib.hid (fun l l0 l1 W hW => szTypeS_of T.kids (by unfold maxLen; omega) (fun i t ht => ih i t ht (hT.kid ht)) l l0 l1 B cb lo W hW)
    have IL : Hid (∀ (left : Int), 0 ≤ left → left ≤ 1048576 → ∀ W : World, Strs W lo T.labels A → Calls Tryz.prog 22 #[.slice A T.labels.length ca, .int .i64 left] W fun e w' => e = .returned (.int .i64 (leftOr (left - T.labels.length - sumSz T.labels))) ∧ W = w') := Lib.hid (fun l l0 l1 W hW => szStringS_any T.labels A ca l l0 l1 (by unfold maxLen; omega) f4 lo W hW)
    have HS := Lib.hid hS
    have HR := Lib.hid hR
    have HW := Lib.hid hw
    clear ih hT f4 hS hR h
    obtain ⟨R, hR⟩ : ∃ R, leftOr (left - T.wt) = R := ⟨_, rfl⟩
    rw [hR]
    have HRR := Lib.hid hR
    clear hR hw
    generalize T.kind = tk at *
    generalize T.name = tn at *
    generalize T.labels.length = ll at *
    generalize T.kids.length = kl at *
    generalize sumSz T.labels = sl at *
    generalize Ty.wts T.kids = wk at *
    generalize T.wt = W0 at *
    by_cases e1 : left - (tn.size : Int) < 0
    · go_enter Tryz.func7, Tryz.ntmps7
      go_wp2
      go_ret
      refine ⟨ret_int ?_, below1 _ _⟩
      have := HW.out
      rw [← HRR.out, leftOr_neg (by omega)]
    · have e1' : (tn.size : Int) ≤ left := by omega
      have C1 := Lib.hid (IL.out (left - tn.size) (by omega) (by omega))
      clear e1
      by_cases e2 : left - (tn.size : Int) - ll - sl < 0
      · have q := leftOr_neg e2
        rw [q] at C1
        clear q
        go_enter Tryz.func7, Tryz.ntmps7
        go_wp2_with (go_at_call 22; (with_reducible refine (C1.out _ (HS.out.below (below1 _ _))).mono ?_); rintro e wx ⟨rfl, rfl⟩)
        go_ret
        refine ⟨ret_int ?_, below1 _ _⟩
        have := HW.out
        rw [← HRR.out, leftOr_neg (by omega)]
      · have q := leftOr_pos (n := left - (tn.size : Int) - ll - sl) (by omega)
        rw [q] at C1
        clear q
        obtain ⟨M, hM⟩ : ∃ M, left - (tn.size : Int) - ll - sl = M := ⟨_, rfl⟩
        rw [hM] at C1
        have hM0 : 0 ≤ M := by omega
        have hM1 : M ≤ 1048576 := by omega
        have HM := Lib.hid hM
        have C2 := Lib.hid (IH.out M hM0 hM1)
        clear hM e2
        by_cases e3 : M - (kl : Int) - wk < 0
        · have q := leftOr_neg e3
          rw [q] at C2
          clear q
          go_enter Tryz.func7, Tryz.ntmps7
          go_wp2_with (first
            | (go_at_call 22; (with_reducible refine (C1.out _ (HS.out.below (below1 _ _))).mono ?_); rintro e wx ⟨rfl, rfl⟩)
            | (go_at_call 23; (with_reducible refine (C2.out _ (HR.out.below (below1 _ _))).mono ?_); rintro e wy ⟨rfl, hby⟩))
          go_ret
          refine ⟨ret_int ?_, bchain (below1 _ _) hby (by simp)⟩
          have := HW.out
          have := HM.out
          rw [← HRR.out, leftOr_neg (by omega)]
        · have q := leftOr_pos (n := M - (kl : Int) - wk) (by omega)
          rw [q] at C2
          clear q
          obtain ⟨N, hN⟩ : ∃ N, M - (kl : Int) - wk = N := ⟨_, rfl⟩
          rw [hN] at C2
          have hN0 : 0 ≤ N := by omega
          have HN := Lib.hid hN
          clear hN e3
          go_enter Tryz.func7, Tryz.ntmps7
          go_wp2_with (first
            | (go_at_call 22; (with_reducible refine (C1.out _ (HS.out.below (below1 _ _))).mono ?_); rintro e wx ⟨rfl, rfl⟩)
            | (go_at_call 23; (with_reducible refine (C2.out _ (HR.out.below (below1 _ _))).mono ?_); rintro e wy ⟨rfl, hby⟩))
          go_ret
          refine ⟨ret_int ?_, bchain (below1 _ _) hby (by simp)⟩
          have := HW.out
          have := HM.out
          have := HN.out
          rw [← HRR.out, leftOr_pos (by omega)]
          omega
end Go.Proofs.YtifchfecfkdjlaaGreatDoor

namespace Go.Proofs.YtifchfecfkdjlaaGreatDoor
open Go.ChangeShapes Go.WideShapes Go.ChangeAt Go.RowKit Go.Deep

/-- A tree by value. -/
def Ty.v (T : Ty) (A B : Option Addr) (ca cb : Nat) : Value := .agg #[.int .i64 T.kind, .string T.name, .slice A T.labels.length ca, .slice B T.kids.length cb]

/-- What copying a tree leaves: the same tree in new memory. -/
def ToTyPost (T : Ty) (w : World) (e : Ending) (w' : World) : Prop := ∃ A B : Option Addr, e = .returned (.agg #[.int .i64 T.kind, .string T.name, .slice A T.labels.length T.labels.length, .slice B T.kids.length T.kids.length]) ∧ Ty.At w' w.heap.size T A B ∧ Below w.heap.size w w'
def ToTy (T : Ty) : Prop := ∀ (A B : Option Addr) (ca cb lo : Nat) (w : World), Ty.At w lo T A B →
  Calls Tryz.prog 9 #[.agg #[.int .i64 T.kind, .string T.name, .slice A T.labels.length ca, .slice B T.kids.length cb]] w (ToTyPost T w)

/-- The element so many kids are copied into. -/
def RowDone (g n k : Nat) (ks : List Ty) (wr : World) : Prop := ∃ f : Nat → Value, wr.rowIs g 30 (n * 4) f ∧ ∀ (j : Nat) (t : Ty), j < k → ks[j]? = some t → ∃ A B ca cb, f (j * 4) = .int .i64 t.kind ∧ f (j * 4 + 1) = .string t.name ∧ f (j * 4 + 2) = .slice A t.labels.length ca ∧ f (j * 4 + 3) = .slice B t.kids.length cb ∧ Ty.At wr (g + 1) t A B
theorem RowDone.below {g n k : Nat} {ks : List Ty} {wr w2 : World} (h : RowDone g n k ks wr) (hb : Below wr.heap.size wr w2) : RowDone g n k ks w2 := by
  obtain ⟨f, hr, hf⟩ := h
  refine ⟨f, hr.of_block (hb.block _ hr.lt), fun j t hj ht => ?_⟩
  obtain ⟨A, B, ca, cb, e0, e1, e2, e3, hat⟩ := hf j t hj ht
  exact ⟨A, B, ca, cb, e0, e1, e2, e3, hat.below hb⟩
/-- A kid's four cells are stored. -/
theorem RowDone.step {g n k : Nat} {ks : List Ty} {w2 : World} (h : RowDone g n k ks w2) {t : Ty} (ht : ks[k]? = some t) {A B : Option Addr} {ca cb : Nat} (hat : Ty.At w2 (g + 1) t A B) :
    RowDone g n (k + 1) ks ((((w2.setCell ⟨g, k * 4, none⟩ (.int .i64 t.kind)).setCell ⟨g, k * 4 + 1, none⟩ (.string t.name)).setCell ⟨g, k * 4 + 2, none⟩ (.slice A t.labels.length ca)).setCell ⟨g, k * 4 + 3, none⟩ (.slice B t.kids.length cb)) := by
  obtain ⟨f, hr, hf⟩ := h
  have hkeep : KeptFrom (g + 1) w2 ((((w2.setCell ⟨g, k * 4, none⟩ (.int .i64 t.kind)).setCell ⟨g, k * 4 + 1, none⟩ (.string t.name)).setCell ⟨g, k * 4 + 2, none⟩ (.slice A t.labels.length ca)).setCell ⟨g, k * 4 + 3, none⟩ (.slice B t.kids.length cb)) :=
    (((KeptFrom.setCell (by simp) _).trans (KeptFrom.setCell (by simp) _)).trans (KeptFrom.setCell (by simp) _)).trans (KeptFrom.setCell (by simp) _)
  refine ⟨_, (((hr.set (k * 4) (.int .i64 t.kind)).set (k * 4 + 1) (.string t.name)).set (k * 4 + 2) (.slice A t.labels.length ca)).set (k * 4 + 3) (.slice B t.kids.length cb), fun j u hj hu => ?_⟩
  by_cases e : j = k
  · subst e
    obtain rfl : t = u := by
      rw [ht] at hu
      exact Option.some.inj hu
    exact ⟨A, B, ca, cb, by simp, by simp, by simp, by simp, hat.keep hkeep⟩
  · obtain ⟨A', B', ca', cb', e0, e1, e2, e3, hat'⟩ := hf j u (by omega) hu
    refine ⟨A', B', ca', cb', ?_, ?_, ?_, ?_, hat'.keep hkeep⟩
    · rw [if_neg (by omega), if_neg (by omega), if_neg (by omega), if_neg (by omega)]
      exact e0
    · rw [if_neg (by omega), if_neg (by omega), if_neg (by omega), if_neg (by omega)]
      exact e1
    · rw [if_neg (by omega), if_neg (by omega), if_neg (by omega), if_neg (by omega)]
      exact e2
    · rw [if_neg (by omega), if_neg (by omega), if_neg (by omega), if_neg (by omega)]
      exact e3
theorem RowDone.cells {g n k : Nat} {ks : List Ty} {wr : World} (h : RowDone g n k ks wr) (hk : k < n) (j : Nat) (hj : j < 4) : ∃ v, wr.cell? ⟨g, k * 4 + j, none⟩ = some v := by
  obtain ⟨f, hr, _⟩ := h
  exact ⟨_, hr.cell (by omega)⟩
theorem RowDone.free {g n k : Nat} {ks : List Ty} {wr : World} (h : RowDone g n k ks wr) (i : Nat) : wr.frozen? ⟨g, i, none⟩ = false := by
  obtain ⟨f, hr, _⟩ := h
  exact hr.frozen i
theorem RowDone.start {w0 : World} {n : Nat} {ks : List Ty} {c : Array Value} (hc : c.size = n * 4) : RowDone w0.heap.size n 0 ks (w0.alloc (.cells c 30)) := by
  refine ⟨fun i => (c[i]?).getD undef, ?_, fun j t hj _ => by omega⟩
  rw [← hc]
  exact World.rowIs_alloc _ _ _ _ fun i hi => by simp [hi]
theorem RowDone.done {g : Nat} {ks : List Ty} {wr : World} (h : RowDone g ks.length ks.length ks wr) : Ty.RowAt wr g ks (some ⟨g, 0, none⟩) := fun _ => by
  obtain ⟨f, hr, hf⟩ := h
  refine ⟨g, 0, rfl, Nat.le_refl _, fun i t ht => ?_⟩
  have hi := (List.getElem?_eq_some_iff.1 ht).1
  obtain ⟨A, B, ca, cb, e0, e1, e2, e3, hat⟩ := hf i t hi ht
  rw [Nat.zero_add]
  exact ⟨A, B, ca, cb, by rw [hr.cell (by omega), e0], by rw [hr.cell (by omega), e1], by rw [hr.cell (by omega), e2], by rw [hr.cell (by omega), e3], hat.low (by omega)⟩

theorem infoType : (Tryz.prog.info? 30).map (fun i => (i.zero, i.size, i.bytes)) = some (some (.agg #[.int .i64 0, .string ⟨#[]⟩, .slice none 0 0, .slice none 0 0]), 4, 72) := by kernel_rfl

set_option maxRecDepth 100000 in
theorem toTypeS_of (ks : List Ty) (hl : ks.length ≤ 1048576) (ih : ∀ (i : Nat) (t : Ty), ks[i]? = some t → ToTy t) (B : Option Addr) (cb lo : Nat) (w : World) (h : Ty.RowAt w lo ks B) :
    Calls Tryz.prog 27 #[.slice B ks.length cb] w fun e w' => e = .returned (.slice (some ⟨w.heap.size, 0, none⟩) ks.length ks.length) ∧ Ty.RowAt w' w.heap.size ks (some ⟨w.heap.size, 0, none⟩) ∧ Below w.heap.size w w' := by
  have H := Lib.hid h
  have IH := Lib.hid ih
  clear h ih
  obtain ⟨i0, hi0, hzz⟩ := Option.map_eq_some_iff.1 infoType
  simp only [Prod.mk.injEq] at hzz
  obtain ⟨hz0, hz1, hz2⟩ := hzz
  have hmk : ∀ W : World, (Instr.makeSlice 28 (.int .i64 (ks.length : Int)) (.int .i64 (ks.length : Int))).run Tryz.prog W = .ok (.slice (some ⟨W.heap.size, 0, none⟩) ks.length ks.length) (W.alloc (.cells (madeCells #[.int .i64 0, .string ⟨#[]⟩, .slice none 0 0, .slice none 0 0] (ks.length * 4)) 30)) := by
    intro W
    rw [run_make W 28 30 i0 _ Tryz.underlying28 hi0 hz0 .i64 .i64 (ks.length : Int) (ks.length : Int) (by omega) (by omega) (by rw [hz2]; omega) (by omega), hz1]
    simp [Value.cells]
  clear hz0 hz1 hz2 hi0
  go_enter Tryz.func27, Tryz.ntmps27
  go_wp2
  go_loopw [4] (fun i wr => ∃ k : Nat, k ≤ ks.length ∧ i = .int .i64 k ∧ RowDone w.heap.size ks.length k ks wr ∧ Below w.heap.size w wr) (fun i _ => ks.length - (intOf i).toNat)
  case atStart => exact ⟨0, Nat.zero_le _, rfl, RowDone.start (size_madeCells _ _), below1 _ _⟩
  case round =>
    obtain ⟨k, hk, rfl, hrow, hbel⟩ := hrel
    clear hmk
    by_cases hlt : k < ks.length
    · obtain ⟨b, o, t, A', B', ca', cb', rfl, _, htk, hc⟩ := (H.out.below hbel).at_ hlt
      have C := Lib.hid (IH.out k t htk A' B' ca' cb' lo wr hc.tree)
      obtain ⟨c0, c1, c2, c3, _⟩ := hc
      have HB := Lib.hid hbel
      have HR := Lib.hid hrow
      have HT := Lib.hid htk
      have hlc := hbel.size
      have hgl : w.heap.size < wr.heap.size := by
        obtain ⟨f, hr, _⟩ := hrow
        exact hr.lt
      clear htk hbel hrow
      go_wp2_with (go_at_call 9; (with_reducible refine C.out.mono ?_); rintro e w2 ⟨A2, B2, rfl, hat, hb2⟩; have HR2 := Lib.hid (HR.out.below hb2); have HA2 := Lib.hid (hat.low (lo' := w.heap.size + 1) hgl); obtain ⟨x0, y0⟩ := HR2.out.cells hlt 0 (by omega); obtain ⟨x1, y1⟩ := HR2.out.cells hlt 1 (by omega); obtain ⟨x2, y2⟩ := HR2.out.cells hlt 2 (by omega); obtain ⟨x3, y3⟩ := HR2.out.cells hlt 3 (by omega); have z0 := HR2.out.free (k * 4); have z1 := HR2.out.free (k * 4 + 1); have z2 := HR2.out.free (k * 4 + 2); have z3 := HR2.out.free (k * 4 + 3); rw [Nat.add_zero] at y0; have hlt2 : w.heap.size < w2.heap.size := Nat.lt_of_lt_of_le hgl hb2.size; have HB2 := Lib.hid (bchain HB.out hb2 hlc); clear hat hb2)
      go_roundw
      case rel =>
        exact ⟨k + 1, by omega, by go_num, HR2.out.step HT.out HA2.out, (((HB2.out.setCell (Nat.le_refl _) _).setCell (Nat.le_refl _) _).setCell (Nat.le_refl _) _).setCell (Nat.le_refl _) _⟩
      case measure => simp [intOf]; omega
    · have hk' : k = ks.length := by omega
      have HR := Lib.hid hrow
      have HB := Lib.hid hbel
      clear hrow hbel
      go_wp2
      go_ret
      refine ⟨rfl, RowDone.done ?_, HB.out⟩
      have := HR.out
      rw [hk'] at this
      exact this
end Go.Proofs.YtifchfecfkdjlaaGreatDoor

namespace Go.Proofs.YtifchfecfkdjlaaGreatDoor
open Go.ChangeShapes Go.WideShapes Go.ChangeAt Go.RowKit Go.Deep

theorem Ty.len_le {T : Ty} (h : T.wt ≤ 1048576) : T.labels.length ≤ 1048576 ∧ T.kids.length ≤ 1048576 ∧ (∀ (i : Nat) (t : Ty), T.kids[i]? = some t → t.wt ≤ 1048576) ∧ T.name.size ≤ 1048576 ∧ ∀ s ∈ T.labels, s.size ≤ 1048576 := by
  have h1 := T.wt_eq
  have h2 := sumSz_nonneg T.labels
  have h3 := Ty.wts_nonneg T.kids
  refine ⟨by omega, by omega, fun i t ht => ?_, by omega, fun s hs => ?_⟩
  · have h4 := Ty.wts_take ht
    have h5 := Ty.wts_take_le T.kids (i + 1)
    have h6 := Ty.wts_nonneg (T.kids.take i)
    omega
  · obtain ⟨i, hi⟩ := List.getElem?_of_mem hs
    have := sumSz_mem hi
    omega

theorem Ty.RowAt.low {w : World} {lo lo' : Nat} {ks : List Ty} {B : Option Addr} (h : Ty.RowAt w lo ks B) (hl : lo' ≤ lo) : Ty.RowAt w lo' ks B := fun hp => by
  obtain ⟨b, o, hb, hlo, hr⟩ := h hp
  refine ⟨b, o, hb, by omega, fun i t ht => ?_⟩
  obtain ⟨A', B', ca, cb, hc⟩ := hr i t ht
  exact ⟨A', B', ca, cb, hc.kind, hc.name, hc.labels, hc.kids, hc.tree.low hl⟩
theorem Ty.At.of_row {w : World} {lo : Nat} {T : Ty} {A B : Option Addr} (h1 : Strs w lo T.labels A) (h2 : Ty.RowAt w lo T.kids B) : Ty.At w lo T A B := Ty.At.mk' h1 fun hp => by
  obtain ⟨b, o, hb, hlo, hr⟩ := h2 hp
  refine ⟨b, o, hb, hlo, fun i t ht => ?_⟩
  rw [Nat.mul_comm 4 i]
  exact hr i t ht

/-- Four cells of a block, stored one behind the other. -/
theorem four_set (w : World) (b : Nat) (v0 v1 v2 v3 : Value) (h : ∀ j, j < 4 → (w.cell? ⟨b, j, none⟩).isSome = true) :
    ((((w.setCell ⟨b, 0, none⟩ v0).setCell ⟨b, 1, none⟩ v1).setCell ⟨b, 2, none⟩ v2).setCell ⟨b, 3, none⟩ v3).cell? ⟨b, 0, none⟩ = some v0 ∧
    ((((w.setCell ⟨b, 0, none⟩ v0).setCell ⟨b, 1, none⟩ v1).setCell ⟨b, 2, none⟩ v2).setCell ⟨b, 3, none⟩ v3).cell? ⟨b, 1, none⟩ = some v1 ∧
    ((((w.setCell ⟨b, 0, none⟩ v0).setCell ⟨b, 1, none⟩ v1).setCell ⟨b, 2, none⟩ v2).setCell ⟨b, 3, none⟩ v3).cell? ⟨b, 2, none⟩ = some v2 ∧
    ((((w.setCell ⟨b, 0, none⟩ v0).setCell ⟨b, 1, none⟩ v1).setCell ⟨b, 2, none⟩ v2).setCell ⟨b, 3, none⟩ v3).cell? ⟨b, 3, none⟩ = some v3 := by
  have k := World.cell?_setCells_in b [v0, v1, v2, v3] 0 w (fun j hj => by rw [Nat.zero_add]; exact h j hj)
  exact ⟨k 0 (by simp), k 1 (by simp), k 2 (by simp), k 3 (by simp)⟩

set_option maxRecDepth 100000 in
theorem toType_any (T : Ty) (hT : T.wt ≤ 1048576) : ToTy T := by
  induction T using Ty.kidInd with
  | h T ih =>
    intro A B ca cb lo w h
    obtain ⟨q1, q2, q3, _, _⟩ := Ty.len_le hT
    have CS : Hid (∀ W : World, Strs W lo T.labels A → Calls Tryz.prog 26 #[.slice A T.labels.length ca] W fun e w' => e = .returned (.slice (some ⟨W.heap.size, 0, none⟩) T.labels.length T.labels.length) ∧ Strs w' W.heap.size T.labels (some ⟨W.heap.size, 0, none⟩) ∧ Below W.heap.size W w') := Lib.hid (fun W hW => toStringS_any T.labels A ca q1 lo W hW)
    have CK : Hid (∀ W : World, Ty.RowAt W lo T.kids B → Calls Tryz.prog 27 #[.slice B T.kids.length cb] W fun e w' => e = .returned (.slice (some ⟨W.heap.size, 0, none⟩) T.kids.length T.kids.length) ∧ Ty.RowAt w' W.heap.size T.kids (some ⟨W.heap.size, 0, none⟩) ∧ Below W.heap.size W w') := Lib.hid (fun W hW => toTypeS_of T.kids q2 (fun i t ht => ih i t ht (q3 i t ht)) B cb lo W hW)
    have HS := Lib.hid h.strs
    have HR := Lib.hid h.rowAt
    clear ih h q3 hT
    go_enter Tryz.func9, Tryz.ntmps9
    go_wp2_with (first
      | (go_at_call 26; (with_reducible refine (CS.out _ (HS.out.below (below3 _ _ _ _))).mono ?_); rintro e w2 ⟨rfl, hs2, hb2⟩; obtain ⟨hc2, hf2⟩ := bcell hb2; have d0 := keepCell (a := ⟨w.heap.size + 1 + 1, 0, none⟩) (v := .int .i64 T.kind) hb2 (by go_simp); have d1 := keepCell (a := ⟨w.heap.size + 1 + 1, 1, none⟩) (v := .string T.name) hb2 (by go_simp); have d2 := keepCell (a := ⟨w.heap.size + 1 + 1, 2, none⟩) (v := .slice none 0 0) hb2 (by go_simp); have d3 := keepCell (a := ⟨w.heap.size + 1 + 1, 3, none⟩) (v := .slice none 0 0) hb2 (by go_simp); have r0 := keepCell (a := ⟨w.heap.size + 1, 0, none⟩) (v := .int .i64 0) hb2 (by go_simp); have r1 := keepCell (a := ⟨w.heap.size + 1, 1, none⟩) (v := .string ⟨#[]⟩) hb2 (by go_simp); have r2 := keepCell (a := ⟨w.heap.size + 1, 2, none⟩) (v := .slice none 0 0) hb2 (by go_simp); have r3 := keepCell (a := ⟨w.heap.size + 1, 3, none⟩) (v := .slice none 0 0) hb2 (by go_simp); have a3 := keepCell (a := ⟨w.heap.size, 3, none⟩) (v := .slice B T.kids.length cb) hb2 (by go_simp); have hB2 := Lib.hid (bnext (below3 _ _ _ _) hb2); have HS2 : Hid (Strs w2 (w.heap.size + 1 + 1 + 1) T.labels (some ⟨w.heap.size + 1 + 1 + 1, 0, none⟩)) := Lib.hid (by simpa using hs2); have hz2 : w.heap.size + 1 + 1 < w2.heap.size := (by have h9 := hb2.size; simp at h9; omega); have g2 : ∀ o, w2.frozen? ⟨w.heap.size + 1, o, none⟩ = false := (fun o => (hf2 _ _ (by first | (simp; done) | (simp; omega))).trans (by go_simp)); have h2 : ∀ o, w2.frozen? ⟨w.heap.size + 1 + 1, o, none⟩ = false := (fun o => (hf2 _ _ (by first | (simp; done) | (simp; omega))).trans (by go_simp)); clear hs2 hb2 hc2)
      | (go_at_call 27; (with_reducible refine (CK.out _ (HR.out.below (hB2.out.setCell (by simp; omega) _))).mono ?_); rintro e w3 ⟨rfl, hr3, hb3⟩; obtain ⟨hc3, hf3⟩ := bcell hb3; have e0 := keepCell (a := ⟨w.heap.size + 1 + 1, 0, none⟩) (v := .int .i64 T.kind) hb3 (by go_simp); have e1 := keepCell (a := ⟨w.heap.size + 1 + 1, 1, none⟩) (v := .string T.name) hb3 (by go_simp); have e2 := keepCell (a := ⟨w.heap.size + 1 + 1, 2, none⟩) (v := .slice (some ⟨w.heap.size + 1 + 1 + 1, 0, none⟩) T.labels.length T.labels.length) hb3 (by go_simp); have e3 := keepCell (a := ⟨w.heap.size + 1 + 1, 3, none⟩) (v := .slice none 0 0) hb3 (by go_simp); have s0 := keepCell (a := ⟨w.heap.size + 1, 0, none⟩) (v := .int .i64 0) hb3 (by go_simp); have s1 := keepCell (a := ⟨w.heap.size + 1, 1, none⟩) (v := .string ⟨#[]⟩) hb3 (by go_simp); have s2 := keepCell (a := ⟨w.heap.size + 1, 2, none⟩) (v := .slice none 0 0) hb3 (by go_simp); have s3 := keepCell (a := ⟨w.heap.size + 1, 3, none⟩) (v := .slice none 0 0) hb3 (by go_simp); have HR3 : Hid (Ty.RowAt w3 w2.heap.size T.kids (some ⟨w2.heap.size, 0, none⟩)) := Lib.hid (by simpa using hr3); have HB3 := Lib.hid hb3; have hz3 : w.heap.size + 1 + 1 < w3.heap.size := (by have h9 := hb3.size; simp at h9; omega); have g3 : ∀ o, w3.frozen? ⟨w.heap.size + 1, o, none⟩ = false := (fun o => (hf3 _ _ (by first | (simp; done) | (simp; omega))).trans (by go_simp)); have h3 : ∀ o, w3.frozen? ⟨w.heap.size + 1 + 1, o, none⟩ = false := (fun o => (hf3 _ _ (by first | (simp; done) | (simp; omega))).trans (by go_simp)); clear hr3 hb3 hc3 hf3 hf2 d0 d1 d2 d3 r0 r1 r2 r3))
    obtain ⟨k0, k1, k2, k3⟩ := four_set (w3.setCell ⟨w.heap.size + 1 + 1, 3, none⟩ (.slice (some ⟨w2.heap.size, 0, none⟩) T.kids.length T.kids.length)) (w.heap.size + 1) (.int .i64 T.kind) (.string T.name) (.slice (some ⟨w.heap.size + 1 + 1 + 1, 0, none⟩) T.labels.length T.labels.length) (.slice (some ⟨w2.heap.size, 0, none⟩) T.kids.length T.kids.length) (fun j hj => by
      have h4 : j = 0 ∨ j = 1 ∨ j = 2 ∨ j = 3 := by omega
      rcases h4 with rfl | rfl | rfl | rfl <;> simp [World.cell?_setCell_other, s0, s1, s2, s3])
    refine bodyPost_ret (v := .agg #[.int .i64 T.kind, .string T.name, .slice (some ⟨w.heap.size + 1 + 1 + 1, 0, none⟩) T.labels.length T.labels.length, .slice (some ⟨w2.heap.size, 0, none⟩) T.kids.length T.kids.length]) (by simp [results, Tryz.results9, go_sem, k0, k1, k2, k3]) rfl ?_
    have hzz : w.heap.size ≤ w2.heap.size := by omega
    refine ⟨_, _, rfl, Ty.At.of_row ?_ ?_, ?_⟩
    · refine Strs.low (lo := w.heap.size + 1 + 1 + 1) ?_ (by omega)
      exact (((HS2.out.keep (KeptFrom.setCell (by first | (simp; done) | (simp; omega)) _)).below HB3.out).keep (KeptFrom.setCell (by first | (simp; done) | (simp; omega)) _)).keep ((((KeptFrom.setCell (by first | (simp; done) | (simp; omega)) _).trans (KeptFrom.setCell (by first | (simp; done) | (simp; omega)) _)).trans (KeptFrom.setCell (by first | (simp; done) | (simp; omega)) _)).trans (KeptFrom.setCell (by first | (simp; done) | (simp; omega)) _))
    · refine Ty.RowAt.low (lo := w2.heap.size) ?_ hzz
      exact (HR3.out.keep (KeptFrom.setCell (by first | (simp; done) | (simp; omega)) _)).keep ((((KeptFrom.setCell (by first | (simp; done) | (simp; omega)) _).trans (KeptFrom.setCell (by first | (simp; done) | (simp; omega)) _)).trans (KeptFrom.setCell (by first | (simp; done) | (simp; omega)) _)).trans (KeptFrom.setCell (by first | (simp; done) | (simp; omega)) _))
    · exact (((((bnext (hB2.out.setCell (by first | (simp; done) | (simp; omega)) _) HB3.out).setCell (by first | (simp; done) | (simp; omega)) _).setCell (by first | (simp; done) | (simp; omega)) _).setCell (by first | (simp; done) | (simp; omega)) _).setCell (by first | (simp; done) | (simp; omega)) _).setCell (by first | (simp; done) | (simp; omega)) _
end Go.Proofs.YtifchfecfkdjlaaGreatDoor

namespace Go.Proofs.YtifchfecfkdjlaaGreatDoor

/-- A number's digits. -/
def decB (n : Int) : ByteArray := ⟨(Lib.decDigits n.toNat).toArray⟩

theorem decLen1 (u : Nat) (h : u < 10) : (Lib.decDigits u).length = 1 := by
  rw [Lib.decDigits, dif_pos h]
  rfl
theorem decLen2 (u : Nat) (h : u < 100) : (Lib.decDigits u).length ≤ 2 := by
  by_cases h1 : u < 10
  · have := decLen1 u h1
    omega
  · rw [Lib.decDigits, dif_neg h1]
    have := decLen1 (u / 10) (by omega)
    simp
    omega
theorem decLen3 (u : Nat) (h : u < 1000) : (Lib.decDigits u).length ≤ 3 := by
  by_cases h1 : u < 10
  · have := decLen1 u h1
    omega
  · rw [Lib.decDigits, dif_neg h1]
    have := decLen2 (u / 10) (by omega)
    simp
    omega
theorem decB_size (n : Int) (h0 : 0 ≤ n) (h1 : n < 1000) : (decB n).size ≤ 3 := by
  have := decLen3 n.toNat (by omega)
  simpa [decB, ByteArray.size] using this
theorem decB_size2 (n : Int) (h0 : 0 ≤ n) (h1 : n < 100) : (decB n).size ≤ 2 := by
  have := decLen2 n.toNat (by omega)
  simpa [decB, ByteArray.size] using this
end Go.Proofs.YtifchfecfkdjlaaGreatDoor

namespace Go.Proofs.YtifchfecfkdjlaaGreatDoor
open Go.ChangeShapes Go.WideShapes Go.ChangeAt Go.RowKit

/-- Two strings of the same bytes. -/
def eqS (a b : ByteArray) : Bool := a.data.toList == b.data.toList
theorem eqS_iff {a b : ByteArray} : eqS a b = true ↔ a = b := by
  unfold eqS
  rw [beq_iff_eq]
  exact ⟨fun h => ByteArray.ext (Array.toList_inj.mp h), fun h => by rw [h]⟩
theorem eqS_no {a b : ByteArray} (h : a ≠ b) : eqS a b = false := by
  cases e : eqS a b
  · rfl
  · exact absurd (eqS_iff.mp e) h
theorem eqS_self (a : ByteArray) : eqS a a = true := eqS_iff.mpr rfl

/-- Where a label stands first. -/
def place (s : ByteArray) : List ByteArray → Option Nat
  | [] => none
  | x :: xs => if eqS x s = true then some 0 else (place s xs).map (· + 1)
theorem place_some {s : ByteArray} : ∀ {ls : List ByteArray} {i : Nat}, place s ls = some i → ls[i]? = some s
  | [], i, h => by cases h
  | x :: xs, i, h => by
    unfold place at h
    by_cases e : eqS x s = true
    · rw [if_pos e] at h
      cases h
      rw [eqS_iff.mp e]
      rfl
    · rw [if_neg e] at h
      cases hp : place s xs with
      | none => rw [hp] at h; cases h
      | some j =>
        rw [hp] at h
        cases h
        simpa using place_some hp
theorem place_none {s : ByteArray} : ∀ {ls : List ByteArray}, place s ls = none → ∀ j : Nat, ls[j]? ≠ some s
  | [], _, j => by simp
  | x :: xs, h, j => by
    unfold place at h
    by_cases e : eqS x s = true
    · rw [if_pos e] at h
      cases h
    · rw [if_neg e] at h
      cases hp : place s xs with
      | some j => rw [hp] at h; cases h
      | none =>
        cases j with
        | zero =>
          intro h9
          simp at h9
          exact e (eqS_iff.mpr h9)
        | succ j => simpa using place_none hp j
theorem place_at {s : ByteArray} : ∀ {ls : List ByteArray} {i : Nat}, ls[i]? = some s → (∀ j : Nat, j < i → ls[j]? ≠ some s) → place s ls = some i
  | [], i, h, _ => by simp at h
  | x :: xs, i, h, hn => by
    unfold place
    by_cases e : eqS x s = true
    · rw [if_pos e]
      cases i with
      | zero => rfl
      | succ i => exact absurd (by simpa using eqS_iff.mp e) (hn 0 (by omega))
    · rw [if_neg e]
      cases i with
      | zero => exact absurd (eqS_iff.mpr (by simpa using h)) e
      | succ i =>
        rw [place_at (ls := xs) (i := i) (by simpa using h) (fun j hj => by simpa using hn (j + 1) (by omega))]
        rfl
theorem place_no {s : ByteArray} {ls : List ByteArray} (h : ∀ j : Nat, j < ls.length → ls[j]? ≠ some s) : place s ls = none := by
  cases hp : place s ls with
  | none => rfl
  | some i =>
    have h1 := place_some hp
    exact absurd h1 (h i (List.getElem?_eq_some_iff.1 h1).1)
theorem place_lt {s : ByteArray} {ls : List ByteArray} {i : Nat} (h : place s ls = some i) : i < ls.length := (List.getElem?_eq_some_iff.1 (place_some h)).1
/-- The first answer among the first so many. -/
def scanR (f : Nat → Option (Int × ByteArray)) : Nat → Option (Int × ByteArray)
  | 0 => none
  | n + 1 => match scanR f n with | some r => some r | none => f n
theorem scanR_step {f : Nat → Option (Int × ByteArray)} {n : Nat} (h : scanR f n = none) : scanR f (n + 1) = f n := by
  rw [scanR, h]
theorem scanR_of {f : Nat → Option (Int × ByteArray)} {k : Nat} {r : Int × ByteArray} (h : scanR f k = none) (hr : f k = some r) : ∀ {n : Nat}, k < n → scanR f n = some r
  | 0, hn => by omega
  | n + 1, hn => by
    by_cases e : k = n
    · subst e
      rw [scanR_step h, hr]
    · rw [scanR, scanR_of h hr (n := n) (by omega)]
theorem scanR_get {f : Nat → Option (Int × ByteArray)} : ∀ {n : Nat} {r : Int × ByteArray}, scanR f n = some r → ∃ k, k < n ∧ f k = some r
  | 0, r, h => by cases h
  | n + 1, r, h => by
    cases hs : scanR f n with
    | none =>
      rw [scanR_step hs] at h
      exact ⟨n, by omega, h⟩
    | some q =>
      rw [scanR, hs] at h
      cases h
      obtain ⟨k, hk, h1⟩ := scanR_get hs
      exact ⟨k, by omega, h1⟩

/-- A reason with a step ahead. -/
def preR (s : ByteArray) (r : Option (Int × ByteArray)) : Option (Int × ByteArray) := r.map fun x => (x.1, s ++ x.2)
theorem preR_none (s : ByteArray) : preR s none = none := rfl
theorem preR_some (s : ByteArray) (k : Int) (p : ByteArray) : preR s (some (k, p)) = some (k, s ++ p) := rfl
/-- The reason about two kids. -/
def kidR (w : Ty → Ty → Option (Int × ByteArray)) (ks us : List Ty) (i j : Nat) (step : ByteArray) : Option (Int × ByteArray) :=
  match ks[i]?, us[j]? with
  | some x, some y => preR step (w x y)
  | _, _ => none
theorem kidR_eq {w : Ty → Ty → Option (Int × ByteArray)} {ks us : List Ty} {i j : Nat} {x y : Ty} (hx : ks[i]? = some x) (hy : us[j]? = some y) (step : ByteArray) : kidR w ks us i j step = preR step (w x y) := by
  unfold kidR
  rw [hx, hy]

/-- A kind of an integer. -/
def numK (k : Int) : Bool := decide (3 ≤ k) && decide (k ≤ 9)
/-- The one's range lies within the other's. -/
def numIn (a b : Int) : Bool := decide ((nrV b).1 ≤ (nrV a).1) && decide ((nrV a).2.1 ≤ (nrV b).2.1)

mutual
def Ty.eqB : Ty → Ty → Bool | .mk k n l ks, .mk k' n' l' ks' => k == k' && eqS n n' && (l.map (·.data.toList)) == (l'.map (·.data.toList)) && Ty.eqsB ks ks'
def Ty.eqsB : List Ty → List Ty → Bool | [], [] => true | x :: xs, y :: ys => x.eqB y && Ty.eqsB xs ys | [], _ :: _ => false | _ :: _, [] => false
end
theorem strs_eq {l l' : List ByteArray} (h : l.map (·.data.toList) = l'.map (·.data.toList)) : l = l' := by
  induction l generalizing l' with
  | nil => cases l' with
    | nil => rfl
    | cons y ys => cases h
  | cons x xs ih => cases l' with
    | nil => cases h
    | cons y ys =>
      simp only [List.map_cons, List.cons.injEq] at h
      rw [ih h.2, ByteArray.ext (Array.toList_inj.mp h.1)]
mutual
theorem Ty.eqB_iff : ∀ a b : Ty, a.eqB b = true ↔ a = b
  | .mk k n l ks, .mk k' n' l' ks' => by
    unfold Ty.eqB
    simp only [Bool.and_eq_true, beq_iff_eq, eqS_iff, Ty.eqsB_iff ks ks']
    constructor
    · rintro ⟨⟨⟨rfl, rfl⟩, h3⟩, rfl⟩
      rw [strs_eq h3]
    · intro h
      injection h with h1 h2 h3 h4
      subst h1 h2 h3 h4
      exact ⟨⟨⟨rfl, rfl⟩, rfl⟩, rfl⟩
theorem Ty.eqsB_iff : ∀ a b : List Ty, Ty.eqsB a b = true ↔ a = b
  | [], [] => by simp [Ty.eqsB]
  | x :: xs, y :: ys => by
    unfold Ty.eqsB
    simp only [Bool.and_eq_true, Ty.eqB_iff x y, Ty.eqsB_iff xs ys, List.cons.injEq]
  | [], y :: ys => by simp [Ty.eqsB]
  | x :: xs, [] => by simp [Ty.eqsB]
end

def sE : ByteArray := ⟨#[]⟩
def sDot : ByteArray := ⟨#[46]⟩
def sList : ByteArray := ⟨#[91, 93]⟩
def sOpt : ByteArray := ⟨#[63]⟩
def sOk : ByteArray := ⟨#[46, 111, 107]⟩
def sErr : ByteArray := ⟨#[46, 101, 114, 114]⟩

abbrev RFun := Ty → Ty → Option (Int × ByteArray)
def tupF (w : RFun) (a b : Ty) (i : Nat) : Option (Int × ByteArray) := kidR w a.kids b.kids i i (sDot ++ decB i)
def recL (w : RFun) (a b : Ty) (j : Nat) (l : ByteArray) : Option (Int × ByteArray) :=
  match place l a.labels with | none => some (4, sDot ++ l) | some i => kidR w a.kids b.kids i j (sDot ++ l)
def recF (w : RFun) (a b : Ty) (j : Nat) : Option (Int × ByteArray) :=
  match b.labels[j]? with | none => none | some l => recL w a b j l
def varL (w : RFun) (a b : Ty) (i : Nat) (l : ByteArray) : Option (Int × ByteArray) :=
  match place l b.labels with | none => some (5, sDot ++ l) | some j => kidR w a.kids b.kids i j (sDot ++ l)
def varF (w : RFun) (a b : Ty) (i : Nat) : Option (Int × ByteArray) :=
  match a.labels[i]? with | none => none | some l => varL w a b i l
def enL (b : Ty) (l : ByteArray) : Option (Int × ByteArray) :=
  match place l b.labels with | none => some (5, sDot ++ l) | some _ => none
def enF (a b : Ty) (i : Nat) : Option (Int × ByteArray) :=
  match a.labels[i]? with | none => none | some l => enL b l
theorem recF_eq {w : RFun} {a b : Ty} {j : Nat} {l : ByteArray} (h : b.labels[j]? = some l) : recF w a b j = recL w a b j l := by
  unfold recF
  rw [h]
theorem varF_eq {w : RFun} {a b : Ty} {i : Nat} {l : ByteArray} (h : a.labels[i]? = some l) : varF w a b i = varL w a b i l := by
  unfold varF
  rw [h]
theorem enF_eq {a b : Ty} {i : Nat} {l : ByteArray} (h : a.labels[i]? = some l) : enF a b i = enL b l := by
  unfold enF
  rw [h]
theorem recL_no {w : RFun} {a b : Ty} {j : Nat} {l : ByteArray} (h : place l a.labels = none) : recL w a b j l = some (4, sDot ++ l) := by
  unfold recL
  rw [h]
theorem recL_at {w : RFun} {a b : Ty} {i j : Nat} {l : ByteArray} {x y : Ty} (h : place l a.labels = some i) (hx : a.kids[i]? = some x) (hy : b.kids[j]? = some y) : recL w a b j l = preR (sDot ++ l) (w x y) := by
  unfold recL
  rw [h]
  exact kidR_eq hx hy _
theorem varL_no {w : RFun} {a b : Ty} {i : Nat} {l : ByteArray} (h : place l b.labels = none) : varL w a b i l = some (5, sDot ++ l) := by
  unfold varL
  rw [h]
theorem varL_at {w : RFun} {a b : Ty} {i j : Nat} {l : ByteArray} {x y : Ty} (h : place l b.labels = some j) (hx : a.kids[i]? = some x) (hy : b.kids[j]? = some y) : varL w a b i l = preR (sDot ++ l) (w x y) := by
  unfold varL
  rw [h]
  exact kidR_eq hx hy _
theorem enL_no {b : Ty} {l : ByteArray} (h : place l b.labels = none) : enL b l = some (5, sDot ++ l) := by
  unfold enL
  rw [h]
theorem enL_at {b : Ty} {j : Nat} {l : ByteArray} (h : place l b.labels = some j) : enL b l = none := by
  unfold enL
  rw [h]
theorem tupF_eq {w : RFun} {a b : Ty} {i : Nat} {x y : Ty} (hx : a.kids[i]? = some x) (hy : b.kids[i]? = some y) : tupF w a b i = preR (sDot ++ decB i) (w x y) := kidR_eq hx hy _

/-- What the kids and labels say, by the kind, which both have. -/
def whyB (w : RFun) (a b : Ty) : Option (Int × ByteArray) :=
  if b.kind = 12 then kidR w a.kids b.kids 0 0 sList
  else if b.kind = 13 then kidR w a.kids b.kids 0 0 sOpt
  else if b.kind = 14 then (match kidR w a.kids b.kids 0 0 sOk with | some r => some r | none => kidR w a.kids b.kids 1 1 sErr)
  else if b.kind = 15 then (if a.kids.length = b.kids.length then scanR (tupF w a b) b.kids.length else some (3, sE))
  else if b.kind = 16 then scanR (recF w a b) b.labels.length
  else if b.kind = 17 then scanR (varF w a b) a.labels.length
  else if b.kind = 18 ∨ b.kind = 19 then scanR (enF a b) a.labels.length
  else if b.kind = 20 ∨ b.kind = 21 then (if eqS a.name b.name = true then none else some (6, sE))
  else if b.kind = 22 ∨ b.kind = 23 then (if Ty.eqsB a.kids b.kids = true then none else some (3, sE))
  else none
/-- The first reason, to a depth. -/
def Ty.why : Nat → Ty → Ty → Option (Int × ByteArray)
  | 0, _, _ => none
  | n + 1, a, b =>
    if numK a.kind = true ∧ numK b.kind = true then (if numIn a.kind b.kind = true then none else some (2, sE))
    else if a.kind = b.kind then whyB (Ty.why n) a b else some (1, sE)

theorem appS_size (a b : ByteArray) : (a ++ b).size = a.size + b.size := by simp
/-- A reason's kind is one of the eleven, and its path is short. -/
def RsnOk (m : Nat) (r : Option (Int × ByteArray)) : Prop := ∀ k p, r = some (k, p) → (1 ≤ k ∧ k ≤ 11) ∧ p.size ≤ m
theorem RsnOk.none (m : Nat) : RsnOk m none := fun k p h => by cases h
theorem RsnOk.lit {m : Nat} {k : Int} {p : ByteArray} (hk : 1 ≤ k ∧ k ≤ 11) (hp : p.size ≤ m) : RsnOk m (some (k, p)) := fun k' p' h => by
  cases h
  exact ⟨hk, hp⟩
theorem RsnOk.pre {m l : Nat} {r : Option (Int × ByteArray)} (h : RsnOk m r) {s : ByteArray} (hs : s.size ≤ l) : RsnOk (m + l) (preR s r) := fun k p hp => by
  cases r with
  | none => cases hp
  | some x =>
    obtain ⟨k1, p1⟩ := x
    rw [preR_some] at hp
    injection hp with hp
    injection hp with hp1 hp2
    subst hp1 hp2
    obtain ⟨h1, h2⟩ := h k1 p1 rfl
    exact ⟨h1, by rw [appS_size]; omega⟩
theorem RsnOk.mono {m m' : Nat} {r : Option (Int × ByteArray)} (h : RsnOk m r) (hm : m ≤ m') : RsnOk m' r := fun k p hp => ⟨(h k p hp).1, Nat.le_trans (h k p hp).2 hm⟩
theorem RsnOk.scan {m : Nat} {f : Nat → Option (Int × ByteArray)} (h : ∀ i, RsnOk m (f i)) (n : Nat) : RsnOk m (scanR f n) := fun k p hp => by
  obtain ⟨i, _, h1⟩ := scanR_get hp
  exact h i k p h1

theorem decB_le (i : Nat) (h : i < 1000) : (decB i).size ≤ 3 := decB_size i (by omega) (by omega)
/-- A reason about kids, if those about two of them are in order. -/
theorem RsnOk.kid {m l : Nat} {w : RFun} {ks us : List Ty} (hw : ∀ (i j : Nat) (x y : Ty), ks[i]? = some x → us[j]? = some y → RsnOk m (w x y)) (i j : Nat) {s : ByteArray} (hs : s.size ≤ l) : RsnOk (m + l) (kidR w ks us i j s) := by
  unfold kidR
  split
  · rename_i x y hx hy
    exact (hw i j x y hx hy).pre hs
  · exact RsnOk.none _
theorem dotS (l : ByteArray) : (sDot ++ l).size = 1 + l.size := by rw [appS_size]; rfl
theorem whyB_ok {m : Nat} {w : RFun} {a b : Ty} (hw : ∀ (i j : Nat) (x y : Ty), a.kids[i]? = some x → b.kids[j]? = some y → RsnOk m (w x y)) (ha : ∀ s ∈ a.labels, s.size ≤ 1048576) (hb : ∀ s ∈ b.labels, s.size ≤ 1048576) (hk : b.kids.length ≤ 1000) : RsnOk (m + 1048577) (whyB w a b) := by
  have hla : ∀ (i : Nat) (l : ByteArray), a.labels[i]? = some l → (sDot ++ l).size ≤ 1048577 := fun i l h => by
    have := ha l (List.mem_of_getElem? h)
    rw [dotS]; omega
  have hlb : ∀ (i : Nat) (l : ByteArray), b.labels[i]? = some l → (sDot ++ l).size ≤ 1048577 := fun i l h => by
    have := hb l (List.mem_of_getElem? h)
    rw [dotS]; omega
  have z0 : (sE).size ≤ m + 1048577 := Nat.zero_le _
  unfold whyB
  split
  · exact RsnOk.kid hw _ _ (show (2 : Nat) ≤ 1048577 by omega)
  split
  · exact RsnOk.kid hw _ _ (show (1 : Nat) ≤ 1048577 by omega)
  split
  · have h1 : RsnOk (m + 1048577) (kidR w a.kids b.kids 0 0 sOk) := RsnOk.kid hw _ _ (show (3 : Nat) ≤ 1048577 by omega)
    have h2 : RsnOk (m + 1048577) (kidR w a.kids b.kids 1 1 sErr) := RsnOk.kid hw _ _ (show (4 : Nat) ≤ 1048577 by omega)
    split
    · rename_i r hr
      rw [hr] at h1
      exact h1
    · exact h2
  split
  · split
    · exact fun k p hp => by
        obtain ⟨i, hi, h1⟩ := scanR_get hp
        exact (RsnOk.kid hw i i (s := sDot ++ decB i) (l := 1048577) (by rw [dotS]; have := decB_le i (by omega); omega)) k p h1
    · exact RsnOk.lit (by omega) z0
  split
  · refine RsnOk.scan (fun j => ?_) _
    unfold recF
    split
    · exact RsnOk.none _
    · rename_i l hl
      unfold recL
      split
      · exact RsnOk.lit (by omega) (by have := hlb j l hl; omega)
      · exact RsnOk.kid hw _ _ (hlb j l hl)
  split
  · refine RsnOk.scan (fun i => ?_) _
    unfold varF
    split
    · exact RsnOk.none _
    · rename_i l hl
      unfold varL
      split
      · exact RsnOk.lit (by omega) (by have := hla i l hl; omega)
      · exact RsnOk.kid hw _ _ (hla i l hl)
  split
  · refine RsnOk.scan (fun i => ?_) _
    unfold enF
    split
    · exact RsnOk.none _
    · rename_i l hl
      unfold enL
      split
      · exact RsnOk.lit (by omega) (by have := hla i l hl; omega)
      · exact RsnOk.none _
  split
  · split
    · exact RsnOk.none _
    · exact RsnOk.lit (by omega) z0
  split
  · split
    · exact RsnOk.none _
    · exact RsnOk.lit (by omega) z0
  · exact RsnOk.none _
theorem Ty.why_ok : ∀ (n : Nat) (a b : Ty), a.wt ≤ 1048576 → b.wt ≤ 1048576 → b.size ≤ 1000 → RsnOk (n * 1048577) (Ty.why n a b)
  | 0, a, b, _, _, _ => RsnOk.none _
  | n + 1, a, b, ha, hb, hs => by
    obtain ⟨_, _, qa3, _, qa5⟩ := Ty.len_le ha
    obtain ⟨_, _, qb3, _, qb5⟩ := Ty.len_le hb
    have h2 := b.size_eq
    have h3 := Ty.length_le b.kids
    have hW := whyB_ok (m := n * 1048577) (w := Ty.why n) (a := a) (b := b) (fun i j x y hx hy => Ty.why_ok n x y (qa3 i x hx) (qb3 j y hy) (by have := Ty.size_kid hy; omega)) qa5 qb5 (by omega)
    have e : n * 1048577 + 1048577 = (n + 1) * 1048577 := by omega
    rw [e] at hW
    rw [Ty.why]
    split
    · split
      · exact RsnOk.none _
      · exact RsnOk.lit (by omega) (Nat.zero_le _)
    · split
      · exact hW
      · exact RsnOk.lit (by omega) (Nat.zero_le _)
end Go.Proofs.YtifchfecfkdjlaaGreatDoor

