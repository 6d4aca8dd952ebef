/-
  Walks of comparing types' trees that are the same.
-/
import Derived.Test.YtlmmbheamicdaaaDoorTyW3
import Derived.Deep.RegionHeld3
namespace Go.Proofs.YtlmmbheamicdaaaDoor
open Go.ChangeShapes Go.WideShapes Go.ChangeAt Go.RowKit Go.Deep

theorem belowN {W a : World} (h : Below W.heap.size W a) (n : Nat) : Below W.heap.size W (a.drewN n) := ⟨h.os, h.tape, h.output, h.size, h.block⟩

/-- A tree equals itself, wherever it lies. -/
def EqTy (T : Ty) : Prop := ∀ (A B A' B' : Option Addr) (ca cb ca' cb' lo lo' : Nat) (w : World), Ty.At w lo T A B → Ty.At w lo' T A' B' →
  Calls Tryd.prog 19 #[.agg #[.int .i64 T.kind, .string T.name, .slice A T.labels.length ca, .slice B T.kids.length cb], .agg #[.int .i64 T.kind, .string T.name, .slice A' T.labels.length ca', .slice B' T.kids.length cb']] w fun e w' => e = .returned (.bool true) ∧ Below w.heap.size w w'

theorem eqTypeS_of (ks : List Ty) (hl : ks.length ≤ 1048576) (ih : ∀ (i : Nat) (t : Ty), ks[i]? = some t → EqTy t) (B B' : Option Addr) (cb cb' lo lo' : Nat) (w : World) (h : Ty.RowAt w lo ks B) (h' : Ty.RowAt w lo' ks B') :
    Calls Tryd.prog 36 #[.slice B ks.length cb, .slice B' ks.length cb'] w fun e w' => e = .returned (.bool true) ∧ Below w.heap.size w w' := by
  have H := Lib.hid h
  have H' := Lib.hid h'
  have IH := Lib.hid ih
  clear h h' ih
  go_enter Tryd.func36, Tryd.ntmps36
  go_wp2
  go_loopw [5] (fun i wr => ∃ k : Nat, k ≤ ks.length ∧ i = .int .i64 k ∧ Below w.heap.size w wr) (fun i _ => ks.length - (intOf i).toNat)
  case atStart => exact ⟨0, Nat.zero_le _, rfl, Below.refl _ _⟩
  case round =>
    obtain ⟨k, hk, rfl, hbel⟩ := hrel
    by_cases hlt : k < ks.length
    · obtain ⟨b, o, t, A1, B1, ca1, cb1, rfl, _, htk, hc⟩ := (H.out.below hbel).at_ hlt
      obtain ⟨b', o', t', A2, B2, ca2, cb2, rfl, _, htk', hc'⟩ := (H'.out.below hbel).at_ hlt
      obtain rfl : t = t' := by
        rw [htk] at htk'
        exact Option.some.inj htk'
      have C : Hid (∀ n : Nat, Calls Tryd.prog 19 #[.agg #[.int .i64 t.kind, .string t.name, .slice A1 t.labels.length ca1, .slice B1 t.kids.length cb1], .agg #[.int .i64 t.kind, .string t.name, .slice A2 t.labels.length ca2, .slice B2 t.kids.length cb2]] (wr.drewN n) fun e w' => e = .returned (.bool true) ∧ Below wr.heap.size (wr.drewN n) w') := Lib.hid (fun n => IH.out k t htk A1 B1 A2 B2 ca1 cb1 ca2 cb2 lo lo' (wr.drewN n) (hc.tree.below (belowN (Below.refl _ _) n)) (hc'.tree.below (belowN (Below.refl _ _) n)))
      obtain ⟨c0, c1, c2, c3, _⟩ := hc
      obtain ⟨d0, d1, d2, d3, _⟩ := hc'
      have HB := Lib.hid hbel
      have hli : (k : Int) < (ks.length : Int) := by omega
      clear htk htk' hbel
      go_wp2_with fail
      go_region_held3 (fun w' => w'.cell? ⟨b, o + k * 4, none⟩ = some (.int .i64 t.kind) ∧ w'.cell? ⟨b, o + k * 4 + 1, none⟩ = some (.string t.name) ∧ w'.cell? ⟨b, o + k * 4 + 2, none⟩ = some (.slice A1 t.labels.length ca1) ∧ w'.cell? ⟨b, o + k * 4 + 3, none⟩ = some (.slice B1 t.kids.length cb1) ∧ w'.cell? ⟨b', o' + k * 4, none⟩ = some (.int .i64 t.kind) ∧ w'.cell? ⟨b', o' + k * 4 + 1, none⟩ = some (.string t.name) ∧ w'.cell? ⟨b', o' + k * 4 + 2, none⟩ = some (.slice A2 t.labels.length ca2) ∧ w'.cell? ⟨b', o' + k * 4 + 3, none⟩ = some (.slice B2 t.kids.length cb2) ∧ Below wr.heap.size wr w')
        (first | assumption | (exact (Below.refl _ _).drew) | (exact ⟨c0, c1, c2, c3, d0, d1, d2, d3, (Below.refl _ _).drew⟩) | (refine ⟨?_, ?_, ?_, ?_, ?_, ?_, ?_, ?_, ?_⟩ <;> assumption))
        (first | (go_at_call 19; refine (C.out 1).mono ?_; rintro e wx ⟨rfl, hbx⟩; have hbw : Below wr.heap.size wr wx := (Below.refl wr.heap.size wr).drew.trans hbx; have p0 := keepCell hbw c0; have p1 := keepCell hbw c1; have p2 := keepCell hbw c2; have p3 := keepCell hbw c3; have p4 := keepCell hbw d0; have p5 := keepCell hbw d1; have p6 := keepCell hbw d2; have p7 := keepCell hbw d3))
      go_wp2_with fail
      go_roundw
      case rel => exact ⟨k + 1, by omega, by go_num, bnext HB.out (by assumption)⟩
      case measure => simp [intOf]; omega
    · go_wp2
      go_ret
      exact ⟨rfl, hbel⟩

theorem eqType_any (T : Ty) (hT : T.wt ≤ 1048576) : EqTy T := by
  induction T using Ty.kidInd with
  | h T ih =>
    intro A B A' B' ca cb ca' cb' lo lo' w h h'
    obtain ⟨q1, q2, q3, _, _⟩ := Ty.len_le hT
    have CS : Hid (∀ W : World, Strs W lo T.labels A → Strs W lo' T.labels A' → Calls Tryd.prog 35 #[.slice A T.labels.length ca, .slice A' T.labels.length ca'] W fun e w' => e = .returned (.bool true) ∧ ∃ n, w' = W.drewN n) := Lib.hid (fun W h1 h2 => eqStringS_same T.labels A A' ca ca' (by unfold maxLen; omega) lo lo' W h1 h2)
    have CK : Hid (∀ W : World, Ty.RowAt W lo T.kids B → Ty.RowAt W lo' T.kids B' → Calls Tryd.prog 36 #[.slice B T.kids.length cb, .slice B' T.kids.length cb'] W fun e w' => e = .returned (.bool true) ∧ Below W.heap.size W w') := Lib.hid (fun W h1 h2 => eqTypeS_of T.kids q2 (fun i t ht => ih i t ht (q3 i t ht)) B B' cb cb' lo lo' W h1 h2)
    have HS := Lib.hid h.strs
    have HR := Lib.hid h.rowAt
    have HS' := Lib.hid h'.strs
    have HR' := Lib.hid h'.rowAt
    clear ih h h' q3 hT
    generalize T.kind = tk at *
    generalize T.name = tn at *
    go_enter Tryd.func19, Tryd.ntmps19
    go_wp2_with (first
      | (go_at_call 35; (with_reducible refine (CS.out _ (HS.out.below (below2 _ _ _)) (HS'.out.below (below2 _ _ _))).mono ?_); rintro e w2 ⟨rfl, n2, rfl⟩)
      | (go_at_call 36; (with_reducible refine (CK.out _ (HR.out.below (belowN (below2 _ _ _) n2)) (HR'.out.below (belowN (below2 _ _ _) n2))).mono ?_); rintro e w3 ⟨rfl, hb3⟩))
    go_ret
    exact ⟨rfl, bnext (belowN (below2 _ _ _) n2) hb3⟩
end Go.Proofs.YtlmmbheamicdaaaDoor
