/-
  NrAll, TyW4, In, TySpec, TySize: in one text.
-/
import Derived.Test.YtifchfecfkdjlaaGreatDoorMB
import Derived.Deep.RegionHeld3
import Derived.Test.YtifchfecfkdjlaaGreatDoorBase
namespace Go.Proofs.YtifchfecfkdjlaaGreatDoor
open Go.ChangeShapes Go.WideShapes Go.ChangeAt Go.RowKit

theorem nrV_out {k : Int} (h : k < 3 ∨ 9 < k) : nrV k = (0, 0, false) ∧ numK k = false := by
  constructor
  · unfold nrV
    rw [if_neg (by omega)]
  · unfold numK
    rcases h with h | h
    · simp [show ¬ 3 ≤ k by omega]
    · simp [show ¬ k ≤ 9 by omega]
theorem numK_iff {k : Int} : numK k = true ↔ 3 ≤ k ∧ k ≤ 9 := by
  unfold numK
  simp
theorem nrV_3 : nrV 3 = (0, 255, true) ∧ numK 3 = true := ⟨by first | rfl | decide | simp [nrV, ranges], by first | rfl | decide⟩
theorem nrV_4 : nrV 4 = ((-128), 127, true) ∧ numK 4 = true := ⟨by first | rfl | decide | simp [nrV, ranges], by first | rfl | decide⟩
theorem nrV_5 : nrV 5 = (0, 65535, true) ∧ numK 5 = true := ⟨by first | rfl | decide | simp [nrV, ranges], by first | rfl | decide⟩
theorem nrV_6 : nrV 6 = ((-32768), 32767, true) ∧ numK 6 = true := ⟨by first | rfl | decide | simp [nrV, ranges], by first | rfl | decide⟩
theorem nrV_7 : nrV 7 = (0, 4294967295, true) ∧ numK 7 = true := ⟨by first | rfl | decide | simp [nrV, ranges], by first | rfl | decide⟩
theorem nrV_8 : nrV 8 = ((-2147483648), 2147483647, true) ∧ numK 8 = true := ⟨by first | rfl | decide | simp [nrV, ranges], by first | rfl | decide⟩
theorem nrV_9 : nrV 9 = ((-9223372036854775808), 9223372036854775807, true) ∧ numK 9 = true := ⟨by first | rfl | decide | simp [nrV, ranges], by first | rfl | decide⟩
theorem nr_spec (k : Int) (w : World) : Calls Tryz.prog 66 #[.int .i64 k] w fun e w' => e = .returned (.tuple #[.int .i64 (nrV k).1, .int .i64 (nrV k).2.1, .bool (numK k)]) ∧ Below w.heap.size w w' := by
  by_cases h : k < 3 ∨ 9 < k
  · rw [(nrV_out h).1, (nrV_out h).2]
    exact specNR_out k h w
  · have h2 : k = 3 ∨ k = 4 ∨ k = 5 ∨ k = 6 ∨ k = 7 ∨ k = 8 ∨ k = 9 := by omega
    rcases h2 with rfl | rfl | rfl | rfl | rfl | rfl | rfl
    · rw [nrV_3.1, nrV_3.2]
      exact specNR_3 w
    · rw [nrV_4.1, nrV_4.2]
      exact specNR_4 w
    · rw [nrV_5.1, nrV_5.2]
      exact specNR_5 w
    · rw [nrV_6.1, nrV_6.2]
      exact specNR_6 w
    · rw [nrV_7.1, nrV_7.2]
      exact specNR_7 w
    · rw [nrV_8.1, nrV_8.2]
      exact specNR_8 w
    · rw [nrV_9.1, nrV_9.2]
      exact specNR_9 w
theorem nr_impl (k : Int) (w : World) (ht : RTable w) : Calls Tryz.prog 50 #[.int .i64 k] w fun e w' => e = .returned (.tuple #[.int .i64 (nrV k).1, .int .i64 (nrV k).2.1, .bool (numK k)]) ∧ Below w.heap.size w w' := by
  by_cases h : k < 3 ∨ 9 < k
  · rw [(nrV_out h).1, (nrV_out h).2]
    exact implNR_out k h w
  · have h2 : k = 3 ∨ k = 4 ∨ k = 5 ∨ k = 6 ∨ k = 7 ∨ k = 8 ∨ k = 9 := by omega
    rcases h2 with rfl | rfl | rfl | rfl | rfl | rfl | rfl
    · rw [nrV_3.1, nrV_3.2]
      exact implNR_3 w (ht 3 _ _ rfl).1 (ht 3 _ _ rfl).2
    · rw [nrV_4.1, nrV_4.2]
      exact implNR_4 w (ht 4 _ _ rfl).1 (ht 4 _ _ rfl).2
    · rw [nrV_5.1, nrV_5.2]
      exact implNR_5 w (ht 5 _ _ rfl).1 (ht 5 _ _ rfl).2
    · rw [nrV_6.1, nrV_6.2]
      exact implNR_6 w (ht 6 _ _ rfl).1 (ht 6 _ _ rfl).2
    · rw [nrV_7.1, nrV_7.2]
      exact implNR_7 w (ht 7 _ _ rfl).1 (ht 7 _ _ rfl).2
    · rw [nrV_8.1, nrV_8.2]
      exact implNR_8 w (ht 8 _ _ rfl).1 (ht 8 _ _ rfl).2
    · rw [nrV_9.1, nrV_9.2]
      exact implNR_9 w (ht 9 _ _ rfl).1 (ht 9 _ _ rfl).2
/-- The bounds that a range has. -/
theorem nrV_bd (k : Int) : -9223372036854775808 ≤ (nrV k).1 ∧ (nrV k).1 ≤ 9223372036854775807 ∧ -9223372036854775808 ≤ (nrV k).2.1 ∧ (nrV k).2.1 ≤ 9223372036854775807 := by
  by_cases h : k < 3 ∨ 9 < k
  · rw [(nrV_out h).1]
    decide
  · have h2 : k = 3 ∨ k = 4 ∨ k = 5 ∨ k = 6 ∨ k = 7 ∨ k = 8 ∨ k = 9 := by omega
    rcases h2 with rfl | rfl | rfl | rfl | rfl | rfl | rfl
    · rw [nrV_3.1]
      decide
    · rw [nrV_4.1]
      decide
    · rw [nrV_5.1]
      decide
    · rw [nrV_6.1]
      decide
    · rw [nrV_7.1]
      decide
    · rw [nrV_8.1]
      decide
    · rw [nrV_9.1]
      decide
end Go.Proofs.YtifchfecfkdjlaaGreatDoor

namespace Go.Proofs.YtifchfecfkdjlaaGreatDoor
open Go.ChangeShapes Go.WideShapes Go.ChangeAt Go.RowKit Go.Deep

theorem belowN {W a : World} (h : Below W.heap.size W a) (n : Nat) : Below W.heap.size W (a.drewN n) := ⟨h.os, h.tape, h.output, h.size, h.block⟩

/-- A tree equals itself, wherever it lies. -/
def EqTy (T : Ty) : Prop := ∀ (A B A' B' : Option Addr) (ca cb ca' cb' lo lo' : Nat) (w : World), Ty.At w lo T A B → Ty.At w lo' T A' B' →
  Calls Tryz.prog 11 #[.agg #[.int .i64 T.kind, .string T.name, .slice A T.labels.length ca, .slice B T.kids.length cb], .agg #[.int .i64 T.kind, .string T.name, .slice A' T.labels.length ca', .slice B' T.kids.length cb']] w fun e w' => e = .returned (.bool true) ∧ Below w.heap.size w w'

theorem eqTypeS_of (ks : List Ty) (hl : ks.length ≤ 1048576) (ih : ∀ (i : Nat) (t : Ty), ks[i]? = some t → EqTy t) (B B' : Option Addr) (cb cb' lo lo' : Nat) (w : World) (h : Ty.RowAt w lo ks B) (h' : Ty.RowAt w lo' ks B') :
    Calls Tryz.prog 30 #[.slice B ks.length cb, .slice B' ks.length cb'] w fun e w' => e = .returned (.bool true) ∧ Below w.heap.size w w' := by
  have H := Lib.hid h
  have H' := Lib.hid h'
  have IH := Lib.hid ih
  clear h h' ih
  go_enter Tryz.func30, Tryz.ntmps30
  go_wp2
  go_loopw [5] (fun i wr => ∃ k : Nat, k ≤ ks.length ∧ i = .int .i64 k ∧ Below w.heap.size w wr) (fun i _ => ks.length - (intOf i).toNat)
  case atStart => exact ⟨0, Nat.zero_le _, rfl, Below.refl _ _⟩
  case round =>
    obtain ⟨k, hk, rfl, hbel⟩ := hrel
    by_cases hlt : k < ks.length
    · obtain ⟨b, o, t, A1, B1, ca1, cb1, rfl, _, htk, hc⟩ := (H.out.below hbel).at_ hlt
      obtain ⟨b', o', t', A2, B2, ca2, cb2, rfl, _, htk', hc'⟩ := (H'.out.below hbel).at_ hlt
      obtain rfl : t = t' := by
        rw [htk] at htk'
        exact Option.some.inj htk'
      have C : Hid (∀ n : Nat, Calls Tryz.prog 11 #[.agg #[.int .i64 t.kind, .string t.name, .slice A1 t.labels.length ca1, .slice B1 t.kids.length cb1], .agg #[.int .i64 t.kind, .string t.name, .slice A2 t.labels.length ca2, .slice B2 t.kids.length cb2]] (wr.drewN n) fun e w' => e = .returned (.bool true) ∧ Below wr.heap.size (wr.drewN n) w') := Lib.hid (fun n => IH.out k t htk A1 B1 A2 B2 ca1 cb1 ca2 cb2 lo lo' (wr.drewN n) (hc.tree.below (belowN (Below.refl _ _) n)) (hc'.tree.below (belowN (Below.refl _ _) n)))
      obtain ⟨c0, c1, c2, c3, _⟩ := hc
      obtain ⟨d0, d1, d2, d3, _⟩ := hc'
      have HB := Lib.hid hbel
      have hli : (k : Int) < (ks.length : Int) := by omega
      clear htk htk' hbel
      go_wp2_with fail
      go_region_held3 (fun w' => w'.cell? ⟨b, o + k * 4, none⟩ = some (.int .i64 t.kind) ∧ w'.cell? ⟨b, o + k * 4 + 1, none⟩ = some (.string t.name) ∧ w'.cell? ⟨b, o + k * 4 + 2, none⟩ = some (.slice A1 t.labels.length ca1) ∧ w'.cell? ⟨b, o + k * 4 + 3, none⟩ = some (.slice B1 t.kids.length cb1) ∧ w'.cell? ⟨b', o' + k * 4, none⟩ = some (.int .i64 t.kind) ∧ w'.cell? ⟨b', o' + k * 4 + 1, none⟩ = some (.string t.name) ∧ w'.cell? ⟨b', o' + k * 4 + 2, none⟩ = some (.slice A2 t.labels.length ca2) ∧ w'.cell? ⟨b', o' + k * 4 + 3, none⟩ = some (.slice B2 t.kids.length cb2) ∧ Below wr.heap.size wr w')
        (first | assumption | (exact (Below.refl _ _).drew) | (exact ⟨c0, c1, c2, c3, d0, d1, d2, d3, (Below.refl _ _).drew⟩) | (refine ⟨?_, ?_, ?_, ?_, ?_, ?_, ?_, ?_, ?_⟩ <;> assumption))
        (first | (go_at_call 11; refine (C.out 1).mono ?_; rintro e wx ⟨rfl, hbx⟩; have hbw : Below wr.heap.size wr wx := (Below.refl wr.heap.size wr).drew.trans hbx; have p0 := keepCell hbw c0; have p1 := keepCell hbw c1; have p2 := keepCell hbw c2; have p3 := keepCell hbw c3; have p4 := keepCell hbw d0; have p5 := keepCell hbw d1; have p6 := keepCell hbw d2; have p7 := keepCell hbw d3))
      go_wp2_with fail
      go_roundw
      case rel => exact ⟨k + 1, by omega, by go_num, bnext HB.out (by assumption)⟩
      case measure => simp [intOf]; omega
    · go_wp2
      go_ret
      exact ⟨rfl, hbel⟩

theorem eqType_any (T : Ty) (hT : T.wt ≤ 1048576) : EqTy T := by
  induction T using Ty.kidInd with
  | h T ih =>
    intro A B A' B' ca cb ca' cb' lo lo' w h h'
    obtain ⟨q1, q2, q3, _, _⟩ := Ty.len_le hT
    have CS : Hid (∀ W : World, Strs W lo T.labels A → Strs W lo' T.labels A' → Calls Tryz.prog 29 #[.slice A T.labels.length ca, .slice A' T.labels.length ca'] W fun e w' => e = .returned (.bool true) ∧ ∃ n, w' = W.drewN n) := Lib.hid (fun W h1 h2 => eqStringS_same T.labels A A' ca ca' (by unfold maxLen; omega) lo lo' W h1 h2)
    have CK : Hid (∀ W : World, Ty.RowAt W lo T.kids B → Ty.RowAt W lo' T.kids B' → Calls Tryz.prog 30 #[.slice B T.kids.length cb, .slice B' T.kids.length cb'] W fun e w' => e = .returned (.bool true) ∧ Below W.heap.size W w') := Lib.hid (fun W h1 h2 => eqTypeS_of T.kids q2 (fun i t ht => ih i t ht (q3 i t ht)) B B' cb cb' lo lo' W h1 h2)
    have HS := Lib.hid h.strs
    have HR := Lib.hid h.rowAt
    have HS' := Lib.hid h'.strs
    have HR' := Lib.hid h'.rowAt
    clear ih h h' q3 hT
    generalize T.kind = tk at *
    generalize T.name = tn at *
    go_enter Tryz.func11, Tryz.ntmps11
    go_wp2_with (first
      | (go_at_call 29; (with_reducible refine (CS.out _ (HS.out.below (below2 _ _ _)) (HS'.out.below (below2 _ _ _))).mono ?_); rintro e w2 ⟨rfl, n2, rfl⟩)
      | (go_at_call 30; (with_reducible refine (CK.out _ (HR.out.below (belowN (below2 _ _ _) n2)) (HR'.out.below (belowN (below2 _ _ _) n2))).mono ?_); rintro e w3 ⟨rfl, hb3⟩))
    go_ret
    exact ⟨rfl, bnext (belowN (below2 _ _ _) n2) hb3⟩
end Go.Proofs.YtifchfecfkdjlaaGreatDoor

namespace Go.Proofs.YtifchfecfkdjlaaGreatDoor
open Go.ChangeShapes Go.WideShapes Go.ChangeAt Go.RowKit

theorem l00In_yes (n l h : Int) (w : World) (h1 : l ≤ n) (h2 : n ≤ h) :
    Calls Tryz.prog 65 #[.int .i64 n, .int .i64 l, .int .i64 h] w fun e w' => e = .returned (.bool true) ∧ w = w' := by
  go_enter Tryz.func65, Tryz.ntmps65
  go_wp2
  go_ret
  exact ⟨rfl, rfl⟩
theorem l00In_no (n l h : Int) (w : World) (h1 : n < l ∨ h < n) :
    Calls Tryz.prog 65 #[.int .i64 n, .int .i64 l, .int .i64 h] w fun e w' => e = .returned (.bool false) ∧ w = w' := by
  by_cases h2 : l ≤ n
  · have h3 : ¬ n ≤ h := by omega
    go_enter Tryz.func65, Tryz.ntmps65
    go_wp2
    go_ret
    exact ⟨rfl, rfl⟩
  · go_enter Tryz.func65, Tryz.ntmps65
    go_wp2
    go_ret
    exact ⟨rfl, rfl⟩

end Go.Proofs.YtifchfecfkdjlaaGreatDoor

namespace Go.Proofs.YtifchfecfkdjlaaGreatDoor
open Go.ChangeShapes Go.WideShapes Go.ChangeAt Go.RowKit Go.Deep

theorem In_any (n l h : Int) (w : World) :
    Calls Tryz.prog 65 #[.int .i64 n, .int .i64 l, .int .i64 h] w fun e w' => e = .returned (.bool (decide (l ≤ n) && decide (n ≤ h))) ∧ w = w' := by
  by_cases h1 : l ≤ n ∧ n ≤ h
  · refine (l00In_yes n l h w h1.1 h1.2).mono ?_
    rintro e w' ⟨rfl, rfl⟩
    simp [h1.1, h1.2]
  · refine (l00In_no n l h w (by omega)).mono ?_
    rintro e w' ⟨rfl, rfl⟩
    refine ⟨ret_bool ?_, rfl⟩
    by_cases h2 : l ≤ n
    · simp [show ¬ n ≤ h by omega]
    · simp [h2]

/-- The kinds from one to another. -/
def inB (l h : Int) : Int → Bool := fun k => decide (l ≤ k) && decide (k ≤ h)

def HasTy (l h : Int) (T : Ty) : Prop := ∀ (A B : Option Addr) (ca cb lo : Nat) (w : World), Ty.At w lo T A B →
  Calls Tryz.prog 78 #[.agg #[.int .i64 T.kind, .string T.name, .slice A T.labels.length ca, .slice B T.kids.length cb], .int .i64 l, .int .i64 h] w fun e w' => e = .returned (.bool (T.has (inB l h))) ∧ Below w.heap.size w w'

theorem l03Has_any (l h : Int) (T : Ty) (hT : T.wt ≤ 1048576) : HasTy l h T := by
  induction T using Ty.kidInd with
  | h T ih =>
    intro A B ca cb lo w hat
    obtain ⟨q1, q2, q3, _, _⟩ := Ty.len_le hT
    have IH : Hid (∀ (i : Nat) (t : Ty), T.kids[i]? = some t → HasTy l h t) := Lib.hid (fun i t ht => ih i t ht (q3 i t ht))
    have HR := Lib.hid hat.rowAt
    have HE := Lib.hid (Ty.has_eq (inB l h) T)
    have C : Hid (∀ W : World, Calls Tryz.prog 65 #[.int .i64 T.kind, .int .i64 l, .int .i64 h] W fun e w' => e = .returned (.bool (inB l h T.kind)) ∧ W = w') := Lib.hid (fun W => In_any T.kind l h W)
    clear ih hat q3 hT
    obtain ⟨V, hV⟩ : ∃ V, T.has (inB l h) = V := ⟨_, rfl⟩
    rw [hV] at HE
    rw [hV]
    clear hV
    cases hk : inB l h T.kind with
    | true =>
      rw [hk] at C
      have HK := Lib.hid hk
      clear hk
      go_enter Tryz.func78, Tryz.ntmps78
      go_wp2_with (go_at_call 65; (with_reducible refine (C.out _).mono ?_); rintro e w2 ⟨rfl, rfl⟩)
      go_ret
      exact ⟨ret_bool (by have := HE.out; rw [HK.out] at this; simpa using this.symm), below1 _ _⟩
    | false =>
      rw [hk] at C
      have HK := Lib.hid hk
      clear hk
      go_enter Tryz.func78, Tryz.ntmps78
      go_wp2_with (go_at_call 65; (with_reducible refine (C.out _).mono ?_); rintro e w2 ⟨rfl, rfl⟩)
      clear C
      go_loopw [7] (fun i wr => ∃ k : Nat, k ≤ T.kids.length ∧ i = .int .i64 k ∧ Hid (Ty.hass (inB l h) (T.kids.take k) = false) ∧ wr.cell? ⟨w.heap.size, 3, none⟩ = some (.slice B T.kids.length cb) ∧ Below w.heap.size w wr) (fun i _ => T.kids.length - (intOf i).toNat)
      case atStart => exact ⟨0, Nat.zero_le _, rfl, by simp [Hid, Ty.hass], by go_simp, below1 _ _⟩
      case round =>
        obtain ⟨k, hk, rfl, hno, hbox, hbel⟩ := hrel
        by_cases hlt : k < T.kids.length
        · obtain ⟨b, o, t, A', B', ca', cb', rfl, _, htk, hc⟩ := (HR.out.below hbel).at_ hlt
          have C := Lib.hid (IH.out k t htk A' B' ca' cb' lo wr hc.tree)
          have HS := Lib.hid (Ty.hass_take (p := inB l h) htk)
          obtain ⟨c0, c1, c2, c3, _⟩ := hc
          have HB := Lib.hid hbel
          have HX := Lib.hid hbox
          clear htk hbel
          cases hv : t.has (inB l h) with
          | true =>
            rw [hv] at C HS
            clear hv
            go_wp2_with (go_at_call 78; (with_reducible refine C.out.mono ?_); rintro e w2 ⟨rfl, hb2⟩; have HB2 := Lib.hid hb2; clear hb2)
            go_ret
            refine ⟨ret_bool ?_, bnext HB.out HB2.out⟩
            have h1 := Ty.hass_of_take (p := inB l h) (ks := T.kids) (i := k + 1) (by rw [HS.out]; simp)
            rw [HE.out, h1]
            simp
          | false =>
            rw [hv] at C HS
            clear hv
            go_wp2_with (go_at_call 78; (with_reducible refine C.out.mono ?_); rintro e w2 ⟨rfl, hb2⟩; have HB2 := Lib.hid hb2; clear hb2)
            go_roundw
            case rel => exact ⟨k + 1, by omega, by go_num, by have h1 := hno.out; have h2 := HS.out; rw [h1] at h2; exact h2, keepCell HB2.out HX.out, bnext HB.out HB2.out⟩
            case measure => simp [intOf]; omega
        · have hk' : k = T.kids.length := by omega
          have HB := Lib.hid hbel
          clear hbel
          go_wp2
          go_ret
          refine ⟨ret_bool ?_, HB.out⟩
          have h1 := hno.out
          rw [hk', List.take_length] at h1
          rw [HE.out, HK.out, h1]
          rfl
end Go.Proofs.YtifchfecfkdjlaaGreatDoor

namespace Go.Proofs.YtifchfecfkdjlaaGreatDoor
open Go.ChangeShapes Go.WideShapes Go.ChangeAt Go.RowKit Go.Deep

theorem Max_any (a b : Int) (w : World) :
    Calls Tryz.prog 84 #[.int .i64 a, .int .i64 b] w fun e w' => e = .returned (.int .i64 (max a b)) ∧ w = w' := by
  by_cases h : b < a
  · have e : max a b = a := by omega
    rw [e]
    go_enter Tryz.func84, Tryz.ntmps84
    go_wp2
    go_ret
    exact ⟨rfl, rfl⟩
  · have e : max a b = b := by omega
    have h' : a ≤ b := by omega
    rw [e]
    go_enter Tryz.func84, Tryz.ntmps84
    go_wp2
    go_ret
    exact ⟨rfl, rfl⟩

/-- What l03Size gives. -/
def szA (T : Ty) (d : Nat) : Int := if T.fits d then T.depth else 5
def szB (T : Ty) (d : Nat) : Int := if T.fits d then T.size else 25
def SizeTy (T : Ty) : Prop := ∀ d : Nat, 1 ≤ d → d ≤ 5 → ∀ (A B : Option Addr) (ca cb lo : Nat) (w : World), Ty.At w lo T A B →
  Calls Tryz.prog 61 #[.agg #[.int .i64 T.kind, .string T.name, .slice A T.labels.length ca, .slice B T.kids.length cb], .int .i64 d] w fun e w' => e = .returned (.tuple #[.int .i64 (szA T d), .int .i64 (szB T d)]) ∧ Below w.heap.size w w'
theorem sz_not {T : Ty} {d : Nat} (h : ¬ T.fits d) : szA T d = 5 ∧ szB T d = 25 := ⟨if_neg h, if_neg h⟩
theorem sz_yes {T : Ty} {d : Nat} (h : T.fits d) : szA T d = T.depth ∧ szB T d = T.size := ⟨if_pos h, if_pos h⟩

set_option maxHeartbeats 1000000 in
theorem l03Size_any (T : Ty) (hT : T.wt ≤ 1048576) : SizeTy T := by
  induction T using Ty.kidInd with
  | h T ih =>
    intro d hd1 hd5 A B ca cb lo w hat
    obtain ⟨q1, q2, q3, _, _⟩ := Ty.len_le hT
    have hp := T.depth_pos
    have hse := T.size_eq
    have hle := Ty.length_le T.kids
    by_cases hd : d = 5
    · subst hd
      obtain ⟨e1, e2⟩ := sz_not (T := T) (d := 5) (fun h => by unfold Ty.fits at h; omega)
      rw [e1, e2]
      clear ih hat q3 hT hp hse hle
      go_enter Tryz.func61, Tryz.ntmps61
      go_wp2
      go_ret2
      exact ⟨rfl, below1 _ _⟩
    by_cases hn : 24 < T.kids.length
    · obtain ⟨e1, e2⟩ := sz_not (T := T) (d := d) (fun h => by unfold Ty.fits at h; omega)
      rw [e1, e2]
      have hn' : (24 : Int) < (T.kids.length : Int) := by omega
      have hd' : ¬ 4 < d := by omega
      clear ih hat q3 hT hp hse hle hd
      go_enter Tryz.func61, Tryz.ntmps61
      go_wp2
      go_ret2
      exact ⟨rfl, below1 _ _⟩
    have hd4 : d ≤ 4 := by omega
    have IH : Hid (∀ (i : Nat) (t : Ty), T.kids[i]? = some t → SizeTy t) := Lib.hid (fun i t ht => ih i t ht (q3 i t ht))
    have HR := Lib.hid hat.rowAt
    have HSE := Lib.hid hse
    have HDE := Lib.hid T.depth_eq
    have hn' : ¬ (24 : Int) < (T.kids.length : Int) := by omega
    have hd' : ¬ 4 < d := by omega
    obtain ⟨a, ha⟩ : ∃ a, szA T d = a := ⟨_, rfl⟩
    obtain ⟨b, hb⟩ : ∃ b, szB T d = b := ⟨_, rfl⟩
    rw [ha, hb]
    have HA := Lib.hid ha
    have HB0 := Lib.hid hb
    clear ih hat q3 hT hp hse hle ha hb
    go_enter Tryz.func61, Tryz.ntmps61
    go_wp2
    go_loopw [6, 7, 8] (fun m p i wr => ∃ k : Nat, k ≤ T.kids.length ∧ i = .int .i64 k ∧ (∃ M P : Nat, m = .int .i64 M ∧ p = .int .i64 P ∧ M ≤ 4 ∧ 1 ≤ P ∧ P ≤ 24 ∧ Hid (M = Ty.depths (T.kids.take k) ∧ P = 1 + Ty.sizes (T.kids.take k) ∧ ((k = 0 ∧ M = 0) ∨ d + 1 + M ≤ 5))) ∧ wr.cell? ⟨w.heap.size, 3, none⟩ = some (.slice B T.kids.length cb) ∧ Below w.heap.size w wr) (fun _ _ i _ => T.kids.length - (intOf i).toNat)
    case atStart => exact ⟨0, Nat.zero_le _, rfl, ⟨0, 1, rfl, rfl, by omega, by omega, by omega, by simp [Hid, Ty.depths, Ty.sizes]⟩, by go_simp, below1 _ _⟩
    case round =>
      obtain ⟨k, hk, rfl, ⟨M, P, rfl, rfl, hM, hP1, hP, hinv⟩, hbox, hbel⟩ := hrel
      by_cases hlt : k < T.kids.length
      · obtain ⟨b1, o, t, A', B', ca', cb', rfl, _, htk, hc⟩ := (HR.out.below hbel).at_ hlt
        have C := Lib.hid (IH.out k t htk (d + 1) (by omega) (by omega) A' B' ca' cb' lo wr hc.tree)
        have HD := Lib.hid (Ty.depths_take htk)
        have HS := Lib.hid (Ty.sizes_take htk)
        have HT := Lib.hid htk
        obtain ⟨c0, c1, c2, c3, _⟩ := hc
        have HB := Lib.hid hbel
        have HX := Lib.hid hbox
        have hstl := Ty.sizes_take_le T.kids (k + 1)
        clear htk hbel
        have hcast : ((d + 1 : Nat) : Int) = (d : Int) + 1 := by omega
        rw [hcast] at C
        clear hcast
        by_cases hf : t.fits (d + 1)
        · obtain ⟨e1, e2⟩ := sz_yes hf
          rw [e1, e2] at C
          have hf1 : d + 1 + t.depth ≤ 5 := hf.1
          have hf2 : t.size ≤ 24 := hf.2
          have CM := Lib.hid (fun W => Max_any (M : Int) (t.depth : Int) W)
          have HF := Lib.hid hf
          have hmx : max (M : Int) (t.depth : Int) = ((max M t.depth : Nat) : Int) := by omega
          rw [hmx] at CM
          have hmb : max M t.depth ≤ 4 := by omega
          have HMX : Hid (max M t.depth = Ty.depths (T.kids.take (k + 1)) ∧ P + t.size = 1 + Ty.sizes (T.kids.take (k + 1)) ∧ d + 1 + max M t.depth ≤ 5) := Lib.hid (by
            obtain ⟨i1, i2, i3⟩ := hinv.out
            have := HD.out
            have := HS.out
            omega)
          clear hf e1 e2 hmx
          generalize max M t.depth = M' at *
          generalize t.depth = td at *
          generalize t.size = ts at *
          by_cases h24 : 24 < P + ts
          · have h24' : (24 : Int) < (P : Int) + (ts : Int) := by omega
            go_wp2_with (first
              | (go_at_call 61; (with_reducible refine C.out.mono ?_); rintro e w2 ⟨rfl, hb2⟩; have HB2 := Lib.hid hb2; clear hb2)
              | (go_at_call 84; (with_reducible refine (CM.out _).mono ?_); rintro e w3 ⟨rfl, rfl⟩))
            go_ret2
            obtain ⟨m1, m2, m3⟩ := HMX.out
            obtain ⟨n1, n2⟩ := sz_not (T := T) (d := d) (fun h => by have h4 := h.2; have := HSE.out; omega)
            rw [← HA.out, ← HB0.out, n1, n2]
            exact ⟨rfl, bnext HB.out HB2.out⟩
          · have h24' : (P : Int) + (ts : Int) ≤ 24 := by omega
            clear h24
            go_wp2_with (first
              | (go_at_call 61; (with_reducible refine C.out.mono ?_); rintro e w2 ⟨rfl, hb2⟩; have HB2 := Lib.hid hb2; clear hb2)
              | (go_at_call 84; (with_reducible refine (CM.out _).mono ?_); rintro e w3 ⟨rfl, rfl⟩))
            go_roundw
            case rel => exact ⟨k + 1, by omega, by go_num, ⟨M', P + ts, rfl, by go_num, by omega, by omega, by omega, ⟨HMX.out.1, HMX.out.2.1, Or.inr HMX.out.2.2⟩⟩, keepCell HB2.out HX.out, bnext HB.out HB2.out⟩
            case measure => simp [intOf]; omega
        · obtain ⟨e1, e2⟩ := sz_not hf
          rw [e1, e2] at C
          have CM := Lib.hid (fun W => Max_any (M : Int) 5 W)
          have hmx : max (M : Int) 5 = 5 := by omega
          rw [hmx] at CM
          have HF := Lib.hid hf
          clear hf e1 e2 hmx
          go_wp2_with (first
            | (go_at_call 61; (with_reducible refine C.out.mono ?_); rintro e w2 ⟨rfl, hb2⟩; have HB2 := Lib.hid hb2; clear hb2)
            | (go_at_call 84; (with_reducible refine (CM.out _).mono ?_); rintro e w3 ⟨rfl, rfl⟩))
          go_ret2
          obtain ⟨n1, n2⟩ := sz_not (T := T) (d := d) (fun h => HF.out (Ty.fits_kid h HT.out))
          rw [← HA.out, ← HB0.out, n1, n2]
          exact ⟨rfl, bnext HB.out HB2.out⟩
      · have hk' : k = T.kids.length := by omega
        have HB := Lib.hid hbel
        clear hbel
        go_wp2
        go_ret2
        obtain ⟨i1, i2, i3⟩ := hinv.out
        rw [hk', List.take_length] at i1 i2
        have hfit : T.fits d := by
          refine Ty.fits_of hd4 ?_ (by omega)
          rcases i3 with i3 | i3
          · left
            exact List.eq_nil_of_length_eq_zero (by omega)
          · right
            omega
        obtain ⟨n1, n2⟩ := sz_yes hfit
        have g1 := HSE.out
        have g2 := HDE.out
        rw [← HA.out, ← HB0.out, n1, n2]
        refine ⟨?_, HB.out⟩
        have k1 : (M : Int) + 1 = (T.depth : Int) := by omega
        have k2 : (P : Int) = (T.size : Int) := by omega
        rw [k1, k2]
        rfl
end Go.Proofs.YtifchfecfkdjlaaGreatDoor

