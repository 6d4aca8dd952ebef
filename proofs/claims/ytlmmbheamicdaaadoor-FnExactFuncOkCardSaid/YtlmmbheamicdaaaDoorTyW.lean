/-
  Walks of measuring, copying and comparing types' trees.
-/
import Derived.Test.YtlmmbheamicdaaaDoorTyPure
import Derived.Test.YtlmmbheamicdaaaDoorStrsW
namespace Go.Proofs.YtlmmbheamicdaaaDoor
open Go.ChangeShapes Go.WideShapes Go.ChangeAt Go.RowKit

/-- Where a row of trees lies. -/
def Ty.RowAt (w : World) (lo : Nat) (ks : List Ty) (B : Option Addr) : Prop := 0 < ks.length → ∃ b o : Nat, B = some ⟨b, o, none⟩ ∧ lo ≤ b ∧ ∀ (i : Nat) (t : Ty), ks[i]? = some t → ∃ A' B' ca cb, Ty.Cells w lo t b (o + i * 4) A' B' ca cb
theorem Ty.At.rowAt {w : World} {lo : Nat} {T : Ty} {A B : Option Addr} (h : Ty.At w lo T A B) : Ty.RowAt w lo T.kids B := fun hp => by
  obtain ⟨b, o, hb, hlo, hr⟩ := h.row hp
  refine ⟨b, o, hb, hlo, fun i t ht => ?_⟩
  rw [Nat.mul_comm i 4]
  exact hr i t ht
theorem Ty.RowAt.keep {w w' : World} {lo : Nat} {ks : List Ty} {B : Option Addr} (h : Ty.RowAt w lo ks B) (hk : KeptFrom lo w w') : Ty.RowAt w' lo ks B := fun hp => by
  obtain ⟨b, o, hb, hlo, hr⟩ := h hp
  refine ⟨b, o, hb, hlo, fun i t ht => ?_⟩
  obtain ⟨A', B', ca, cb, hc⟩ := hr i t ht
  exact ⟨A', B', ca, cb, hc.keep hk hlo⟩
theorem Ty.RowAt.below {w w' : World} {lo : Nat} {ks : List Ty} {B : Option Addr} (h : Ty.RowAt w lo ks B) (hb : Below w.heap.size w w') : Ty.RowAt w' lo ks B := h.keep (KeptFrom.below hb lo)
theorem Ty.RowAt.at_ {w : World} {lo : Nat} {ks : List Ty} {B : Option Addr} (h : Ty.RowAt w lo ks B) {k : Nat} (hk : k < ks.length) :
    ∃ (b o : Nat) (t : Ty) (A' B' : Option Addr) (ca cb : Nat), B = some ⟨b, o, none⟩ ∧ lo ≤ b ∧ ks[k]? = some t ∧ Ty.Cells w lo t b (o + k * 4) A' B' ca cb := by
  obtain ⟨b, o, ha, hlo, hc⟩ := h (by omega)
  obtain ⟨A', B', ca, cb, h⟩ := hc k _ (List.getElem?_eq_getElem hk)
  exact ⟨b, o, ks[k], A', B', ca, cb, ha, hlo, List.getElem?_eq_getElem hk, h⟩

mutual
/-- The weight of a tree. -/
def Ty.wt : Ty → Int | .mk _ n l ks => n.size + l.length + sumSz l + ks.length + Ty.wts ks
def Ty.wts : List Ty → Int | [] => 0 | t :: ts => t.wt + Ty.wts ts
end
theorem Ty.wt_eq (T : Ty) : T.wt = T.name.size + T.labels.length + sumSz T.labels + T.kids.length + Ty.wts T.kids := by
  cases T
  rw [Ty.wt]
  rfl
theorem Ty.wts_append : ∀ xs ys : List Ty, Ty.wts (xs ++ ys) = Ty.wts xs + Ty.wts ys
  | [], ys => by simp [Ty.wts]
  | x :: xs, ys => by
    simp only [List.cons_append, Ty.wts, Ty.wts_append xs ys]
    omega
theorem Ty.wts_nonneg_of {ks : List Ty} (h : ∀ (i : Nat) (t : Ty), ks[i]? = some t → 0 ≤ t.wt) : 0 ≤ Ty.wts ks := by
  induction ks with
  | nil => simp [Ty.wts]
  | cons x xs ih =>
    have h0 := h 0 x rfl
    have h1 := ih fun i t ht => h (i + 1) t (by simpa using ht)
    simp only [Ty.wts]
    omega
theorem Ty.wt_nonneg : ∀ T : Ty, 0 ≤ T.wt := by
  intro T
  induction T using Ty.kidInd with
  | h T ih =>
    have h1 := Ty.wts_nonneg_of ih
    have h2 := sumSz_nonneg T.labels
    rw [Ty.wt_eq]
    omega
theorem Ty.wts_nonneg (ks : List Ty) : 0 ≤ Ty.wts ks := Ty.wts_nonneg_of fun _ t _ => t.wt_nonneg
theorem Ty.wts_take {ks : List Ty} {i : Nat} {t : Ty} (h : ks[i]? = some t) : Ty.wts (ks.take (i + 1)) = Ty.wts (ks.take i) + t.wt := by
  rw [Ty.take_succ h, Ty.wts_append]
  simp [Ty.wts]
theorem Ty.wts_take_le (ks : List Ty) (i : Nat) : Ty.wts (ks.take i) ≤ Ty.wts ks := by
  have := Ty.wts_append (ks.take i) (ks.drop i)
  rw [List.take_append_drop] at this
  have := Ty.wts_nonneg (ks.drop i)
  omega

/-- What measuring a tree gives. -/
def SzTy (T : Ty) : Prop := ∀ (left : Int), 0 ≤ left → left ≤ 1048576 → ∀ (A B : Option Addr) (ca cb lo : Nat) (w : World), Ty.At w lo T A B →
  Calls Tryd.prog 10 #[.agg #[.int .i64 T.kind, .string T.name, .slice A T.labels.length ca, .slice B T.kids.length cb], .int .i64 left] w fun e w' => e = .returned (.int .i64 (leftOr (left - T.wt))) ∧ Below w.heap.size w w'

theorem szTypeS_of (ks : List Ty) (hl : ks.length ≤ maxLen) (ih : ∀ (i : Nat) (t : Ty), ks[i]? = some t → SzTy t) (left : Int) (h0 : 0 ≤ left) (h1 : left ≤ 1048576) (B : Option Addr) (cb lo : Nat) (w : World) (h : Ty.RowAt w lo ks B) :
    Calls Tryd.prog 22 #[.slice B ks.length cb, .int .i64 left] w fun e w' => e = .returned (.int .i64 (leftOr (left - ks.length - Ty.wts ks))) ∧ Below w.heap.size w w' := by
  unfold maxLen at hl
  have hsum := Ty.wts_nonneg ks
  have H := Lib.hid h
  have IH := Lib.hid ih
  clear h ih
  by_cases hn : left - (ks.length : Int) < 0
  · have hr := leftOr_neg (n := left - ks.length - Ty.wts ks) (by omega)
    rw [hr]
    go_enter Tryd.func22, Tryd.ntmps22
    go_wp2
    go_ret
    exact ⟨rfl, Below.refl _ _⟩
  · have hn' : (ks.length : Int) ≤ left := by omega
    obtain ⟨R, hR⟩ : ∃ R, leftOr (left - ks.length - Ty.wts ks) = R := ⟨_, rfl⟩
    rw [hR]
    have HR := Lib.hid hR
    clear hR hn
    go_enter Tryd.func22, Tryd.ntmps22
    go_wp2
    go_loopw [1, 5] (fun l i wr => ∃ k : Nat, k ≤ ks.length ∧ i = .int .i64 k ∧ ∃ L : Int, l = .int .i64 L ∧ 0 ≤ L ∧ L ≤ 1048576 ∧ Hid (L = left - ks.length - Ty.wts (ks.take k)) ∧ Below w.heap.size w wr) (fun _ i _ => ks.length - (intOf i).toNat)
    case atStart => exact ⟨0, Nat.zero_le _, rfl, _, rfl, by omega, by omega, by simp [Hid, Ty.wts], Below.refl _ _⟩
    case round =>
      obtain ⟨k, hk, rfl, L, rfl, L0, L1, hL, hbel⟩ := hrel
      by_cases hlt : k < ks.length
      · obtain ⟨b, o, t, A', B', ca', cb', rfl, _, htk, hc⟩ := (H.out.below hbel).at_ hlt
        have C := Lib.hid (IH.out k t htk L L0 L1 A' B' ca' cb' lo wr hc.tree)
        have HST := Lib.hid (Ty.wts_take htk)
        have hle := Ty.wts_take_le ks (k + 1)
        obtain ⟨c0, c1, c2, c3, _⟩ := hc
        have HB := Lib.hid hbel
        have hlc := hbel.size
        have hwt := t.wt_nonneg
        clear htk hbel
        generalize t.wt = wt at *
        have hlo : leftOr (L - wt) = -1 ∨ leftOr (L - wt) = L - wt := by unfold leftOr; split <;> omega
        by_cases hneg : L - wt < 0
        · have e := leftOr_neg hneg
          rw [e] at C
          go_wp2_with (go_at_call 10; (with_reducible refine C.out.mono ?_); rintro e wx ⟨rfl, hbx⟩)
          go_ret
          refine ⟨ret_int ?_, bchain HB.out hbx hlc⟩
          rw [← HR.out, leftOr_neg]
          have := hL.out
          have := HST.out
          omega
        · have e := leftOr_pos (n := L - wt) (by omega)
          rw [e] at C
          have hneg' : 0 ≤ L - wt := by omega
          clear hneg e hlo
          obtain ⟨M, hM⟩ : ∃ M, L - wt = M := ⟨_, rfl⟩
          rw [hM] at C hneg'
          have HM := Lib.hid hM
          have hM1 : M ≤ 1048576 := by omega
          clear hM
          go_wp2_with (go_at_call 10; (with_reducible refine C.out.mono ?_); rintro e wx ⟨rfl, hbx⟩)
          go_roundw
          case rel => exact ⟨k + 1, by omega, by go_num, _, rfl, by omega, by omega, by have := hL.out; have := HST.out; have := HM.out; simp only [Hid]; omega, bchain HB.out hbx hlc⟩
          case measure => simp [intOf]; omega
      · have hk' : k = ks.length := by omega
        go_wp2
        go_ret
        refine ⟨ret_int ?_, hbel⟩
        have e := hL.out
        rw [hk', List.take_length] at e
        rw [← HR.out, leftOr_pos (by omega)]
        exact e

theorem szType_any (T : Ty) (hT : T.Fin) : SzTy T := by
  induction T using Ty.kidInd with
  | h T ih =>
    intro left h0 h1 A B ca cb lo w h
    obtain ⟨f1, f2, f3, f4, _, _⟩ := hT.own
    unfold maxLen at f1 f2 f3
    have hS := h.strs
    have hR := h.rowAt
    have hw := T.wt_eq
    have hn0 := sumSz_nonneg T.labels
    have hn1 := Ty.wts_nonneg T.kids
    have IH : Hid (∀ (left : Int), 0 ≤ left → left ≤ 1048576 → ∀ W : World, Ty.RowAt W lo T.kids B → Calls Tryd.prog 22 #[.slice B T.kids.length cb, .int .i64 left] W fun e w' => e = .returned (.int .i64 (leftOr (left - T.kids.length - Ty.wts T.kids))) ∧ Below W.heap.size W w') := Lib.hid (fun l l0 l1 W hW => szTypeS_of T.kids (by unfold maxLen; omega) (fun i t ht => ih i t ht (hT.kid ht)) l l0 l1 B cb lo W hW)
    have IL : Hid (∀ (left : Int), 0 ≤ left → left ≤ 1048576 → ∀ W : World, Strs W lo T.labels A → Calls Tryd.prog 21 #[.slice A T.labels.length ca, .int .i64 left] W fun e w' => e = .returned (.int .i64 (leftOr (left - T.labels.length - sumSz T.labels))) ∧ W = w') := Lib.hid (fun l l0 l1 W hW => szStringS_any T.labels A ca l l0 l1 (by unfold maxLen; omega) f4 lo W hW)
    have HS := Lib.hid hS
    have HR := Lib.hid hR
    have HW := Lib.hid hw
    clear ih hT f4 hS hR h
    obtain ⟨R, hR⟩ : ∃ R, leftOr (left - T.wt) = R := ⟨_, rfl⟩
    rw [hR]
    have HRR := Lib.hid hR
    clear hR hw
    generalize T.kind = tk at *
    generalize T.name = tn at *
    generalize T.labels.length = ll at *
    generalize T.kids.length = kl at *
    generalize sumSz T.labels = sl at *
    generalize Ty.wts T.kids = wk at *
    generalize T.wt = W0 at *
    by_cases e1 : left - (tn.size : Int) < 0
    · go_enter Tryd.func10, Tryd.ntmps10
      go_wp2
      go_ret
      refine ⟨ret_int ?_, below1 _ _⟩
      have := HW.out
      rw [← HRR.out, leftOr_neg (by omega)]
    · have e1' : (tn.size : Int) ≤ left := by omega
      have C1 := Lib.hid (IL.out (left - tn.size) (by omega) (by omega))
      clear e1
      by_cases e2 : left - (tn.size : Int) - ll - sl < 0
      · have q := leftOr_neg e2
        rw [q] at C1
        clear q
        go_enter Tryd.func10, Tryd.ntmps10
        go_wp2_with (go_at_call 21; (with_reducible refine (C1.out _ (HS.out.below (below1 _ _))).mono ?_); rintro e wx ⟨rfl, rfl⟩)
        go_ret
        refine ⟨ret_int ?_, below1 _ _⟩
        have := HW.out
        rw [← HRR.out, leftOr_neg (by omega)]
      · have q := leftOr_pos (n := left - (tn.size : Int) - ll - sl) (by omega)
        rw [q] at C1
        clear q
        obtain ⟨M, hM⟩ : ∃ M, left - (tn.size : Int) - ll - sl = M := ⟨_, rfl⟩
        rw [hM] at C1
        have hM0 : 0 ≤ M := by omega
        have hM1 : M ≤ 1048576 := by omega
        have HM := Lib.hid hM
        have C2 := Lib.hid (IH.out M hM0 hM1)
        clear hM e2
        by_cases e3 : M - (kl : Int) - wk < 0
        · have q := leftOr_neg e3
          rw [q] at C2
          clear q
          go_enter Tryd.func10, Tryd.ntmps10
          go_wp2_with (first
            | (go_at_call 21; (with_reducible refine (C1.out _ (HS.out.below (below1 _ _))).mono ?_); rintro e wx ⟨rfl, rfl⟩)
            | (go_at_call 22; (with_reducible refine (C2.out _ (HR.out.below (below1 _ _))).mono ?_); rintro e wy ⟨rfl, hby⟩))
          go_ret
          refine ⟨ret_int ?_, bchain (below1 _ _) hby (by simp)⟩
          have := HW.out
          have := HM.out
          rw [← HRR.out, leftOr_neg (by omega)]
        · have q := leftOr_pos (n := M - (kl : Int) - wk) (by omega)
          rw [q] at C2
          clear q
          obtain ⟨N, hN⟩ : ∃ N, M - (kl : Int) - wk = N := ⟨_, rfl⟩
          rw [hN] at C2
          have hN0 : 0 ≤ N := by omega
          have HN := Lib.hid hN
          clear hN e3
          go_enter Tryd.func10, Tryd.ntmps10
          go_wp2_with (first
            | (go_at_call 21; (with_reducible refine (C1.out _ (HS.out.below (below1 _ _))).mono ?_); rintro e wx ⟨rfl, rfl⟩)
            | (go_at_call 22; (with_reducible refine (C2.out _ (HR.out.below (below1 _ _))).mono ?_); rintro e wy ⟨rfl, hby⟩))
          go_ret
          refine ⟨ret_int ?_, bchain (below1 _ _) hby (by simp)⟩
          have := HW.out
          have := HM.out
          have := HN.out
          rw [← HRR.out, leftOr_pos (by omega)]
          omega
end Go.Proofs.YtlmmbheamicdaaaDoor
