/-
  The walk of the model's l03Same and SameType.
-/
import Derived.Test.YtifchfecfkdjlaaGreatDoorTyPl
import Derived.IntWalk
namespace Go.Proofs.YtifchfecfkdjlaaGreatDoor
open Go.ChangeShapes Go.WideShapes Go.ChangeAt Go.RowKit Go.Deep

/-- Equal, and not too deep. -/
def SameOk (T U : Ty) (d : Nat) : Prop := T = U ∧ d + T.depth ≤ 101
/-- So many kids are. -/
def SameKids (ks us : List Ty) (d k : Nat) : Prop := ∀ (i : Nat) (t u : Ty), i < k → ks[i]? = some t → us[i]? = some u → SameOk t u d
theorem SameKids.step {ks us : List Ty} {d k : Nat} {t u : Ty} (h : SameKids ks us d k) (ht : ks[k]? = some t) (hu : us[k]? = some u) (e : SameOk t u d) : SameKids ks us d (k + 1) := fun i x y hi hx hy => by
  by_cases e2 : i = k
  · subst e2
    rw [ht] at hx
    rw [hu] at hy
    cases hx
    cases hy
    exact e
  · exact h i x y (by omega) hx hy
theorem Ty.depths_le_of {ks : List Ty} {n : Nat} (h : ∀ (i : Nat) (t : Ty), ks[i]? = some t → t.depth ≤ n) : Ty.depths ks ≤ n := by
  induction ks with
  | nil => simp [Ty.depths]
  | cons x xs ih =>
    have h0 := h 0 x rfl
    have h1 := ih fun i t ht => h (i + 1) t (by simpa using ht)
    simp only [Ty.depths]
    omega
theorem SameKids.all {ks us : List Ty} {d : Nat} (hl : ks.length = us.length) (h : SameKids ks us d ks.length) : ks = us ∧ ∀ (i : Nat) (t : Ty), ks[i]? = some t → d + t.depth ≤ 101 := by
  have key : ∀ (i : Nat) (t : Ty), ks[i]? = some t → us[i]? = some t ∧ d + t.depth ≤ 101 := fun i t ht => by
    have hi := (List.getElem?_eq_some_iff.1 ht).1
    have hu : us[i]? = some (us[i]'(by omega)) := List.getElem?_eq_getElem (by omega)
    obtain ⟨e1, e2⟩ := h i t _ hi ht hu
    rw [hu, ← e1]
    exact ⟨rfl, e2⟩
  refine ⟨List.ext_getElem? fun i => ?_, fun i t ht => (key i t ht).2⟩
  by_cases hi : i < ks.length
  · rw [(key i _ (List.getElem?_eq_getElem hi)).1, List.getElem?_eq_getElem hi]
  · rw [List.getElem?_eq_none (by omega), List.getElem?_eq_none (by omega)]
theorem SameOk.kid {T U t u : Ty} {d i : Nat} (h : SameOk T U d) (ht : T.kids[i]? = some t) (hu : U.kids[i]? = some u) : SameOk t u (d + 1) := by
  obtain ⟨rfl, h2⟩ := h
  rw [ht] at hu
  cases hu
  have h3 := Ty.depths_get ht
  have h4 := T.depth_eq
  exact ⟨rfl, by omega⟩

def SameTy (T : Ty) : Prop := ∀ U : Ty, U.wt ≤ 1048576 → ∀ d : Nat, 1 ≤ d → d ≤ 101 → ∀ (A B A' B' : Option Addr) (ca cb ca' cb' lo lo' : Nat) (w : World), Ty.At w lo T A B → Ty.At w lo' U A' B' →
  Calls Tryz.prog 68 #[.agg #[.int .i64 T.kind, .string T.name, .slice A T.labels.length ca, .slice B T.kids.length cb], .agg #[.int .i64 U.kind, .string U.name, .slice A' U.labels.length ca', .slice B' U.kids.length cb'], .int .i64 d] w (SaysB (SameOk T U d) w)

set_option maxHeartbeats 4000000 in
set_option maxRecDepth 100000 in
theorem l03Same_any (T : Ty) (hT : T.wt ≤ 1048576) : SameTy T := by
  induction T using Ty.kidInd with
  | h T ih =>
    intro U hU d hd1 hd2 A B A' B' ca cb ca' cb' lo lo' w h h'
    obtain ⟨q1, q2, q3, _, _⟩ := Ty.len_le hT
    obtain ⟨p1, p2, p3, _, _⟩ := Ty.len_le hU
    have hdp := T.depth_pos
    have IH : Hid (∀ (i : Nat) (t : Ty), T.kids[i]? = some t → SameTy t) := Lib.hid (fun i t ht => ih i t ht (q3 i t ht))
    have UW : Hid (∀ (i : Nat) (u : Ty), U.kids[i]? = some u → u.wt ≤ 1048576) := Lib.hid p3
    have CL : ∀ W : World, Strs W lo T.labels A → Strs W lo' U.labels A' → Calls Tryz.prog 86 #[.slice A T.labels.length ca, .slice A' U.labels.length ca'] W (SaysD (T.labels = U.labels) W) := fun W h1 h2 => l03Texts_any T.labels U.labels q1 p1 A A' ca ca' lo lo' W h1 h2
    have HS := Lib.hid h.strs
    have HR := Lib.hid h.rowAt
    have HS' := Lib.hid h'.strs
    have HR' := Lib.hid h'.rowAt
    clear ih h h' q3 p3 hT hU
    by_cases hd : d = 101
    · have hd3 : (100 : Int) < (d : Int) := by omega
      have HF : Hid (¬ SameOk T U d) := Lib.hid (fun h => by have := h.2; omega)
      clear hd CL
      go_enter Tryz.func68, Tryz.ntmps68
      go_wp2_with fail
      go_ret
      exact ⟨false, rfl, iffF HF.out, below2 _ _ _⟩
    have hd3 : ¬ (100 : Int) < (d : Int) := by omega
    by_cases hk : ¬ T.kind = U.kind
    · have e1 : (T.kind == U.kind) = false := by rw [beq_eq_false_iff_ne]; exact hk
      have e1' : (T.kind != U.kind) = true := by rw [bne_iff_ne]; exact hk
      have HF : Hid (¬ SameOk T U d) := Lib.hid (fun h => hk (by rw [h.1]))
      clear hk CL
      go_enter Tryz.func68, Tryz.ntmps68
      go_wp2_with fail
      go_ret
      exact ⟨false, rfl, iffF HF.out, below2 _ _ _⟩
    replace hk := Classical.not_not.mp hk
    by_cases hn : ¬ T.name = U.name
    · have e1 := text_ne hn
      have HF : Hid (¬ SameOk T U d) := Lib.hid (fun h => hn (by rw [h.1]))
      have HK := Lib.hid hk
      have e2 : (T.kind == U.kind) = true := by rw [beq_iff_eq]; exact hk
      have e2' : (T.kind != U.kind) = false := by rw [bne_eq_false_iff_eq]; exact hk
      clear hn CL hk
      go_enter Tryz.func68, Tryz.ntmps68
      go_wp2_with fail
      go_ret
      exact ⟨false, rfl, iffF HF.out, below2 _ _ _⟩
    replace hn := Classical.not_not.mp hn
    have HK := Lib.hid hk
    have HN := Lib.hid hn
    have e1 : (T.kind == U.kind) = true := by rw [beq_iff_eq]; exact hk
    have e1' : (T.kind != U.kind) = false := by rw [bne_eq_false_iff_eq]; exact hk
    have e2 : (T.name.toList == U.name.toList) = true := by rw [hn, beq_iff_eq]
    clear hk hn
    by_cases hl : ¬ T.labels = U.labels
    · have CL' := Lib.hid (fun W h1 h2 => (CL W h1 h2).mono fun e w' (k : SaysD _ W e w') => (show e = .returned (.bool false) ∧ ∃ n, w' = W.drewN n by
        obtain ⟨v, rfl, hv, hn⟩ := k
        refine ⟨?_, hn⟩
        cases v
        · rfl
        · exact absurd (hv.mp rfl) hl))
      have HF : Hid (¬ SameOk T U d) := Lib.hid (fun h => hl (by rw [h.1]))
      clear hl CL
      go_enter Tryz.func68, Tryz.ntmps68
      go_wp2_with fail
      go_at_call 86
      refine (CL'.out _ (HS.out.below (below2 _ _ _)) (HS'.out.below (below2 _ _ _))).mono ?_
      rintro e w2 ⟨rfl, n2, rfl⟩
      go_wp2_with fail
      go_ret
      exact ⟨false, rfl, iffF HF.out, belowN (below2 _ _ _) n2⟩
    replace hl := Classical.not_not.mp hl
    have CL' := Lib.hid (fun W h1 h2 => (CL W h1 h2).mono fun e w' (k : SaysD _ W e w') => (show e = .returned (.bool true) ∧ ∃ n, w' = W.drewN n by
      obtain ⟨v, rfl, hv, hn⟩ := k
      rw [hv.mpr hl]
      exact ⟨rfl, hn⟩))
    have HLB := Lib.hid hl
    clear hl CL
    by_cases hkl : ¬ T.kids.length = U.kids.length
    · have HF : Hid (¬ SameOk T U d) := Lib.hid (fun h => hkl (by rw [h.1]))
      have e3 : ((T.kids.length : Int) == (U.kids.length : Int)) = false := by rw [beq_eq_false_iff_ne]; omega
      clear hkl
      go_enter Tryz.func68, Tryz.ntmps68
      go_wp2_with fail
      go_at_call 86
      refine (CL'.out _ (HS.out.below (below2 _ _ _)) (HS'.out.below (below2 _ _ _))).mono ?_
      rintro e w2 ⟨rfl, n2, rfl⟩
      go_wp2_with fail
      go_ret
      exact ⟨false, rfl, iffF HF.out, belowN (below2 _ _ _) n2⟩
    replace hkl := Classical.not_not.mp hkl
    have HKL := Lib.hid hkl
    have HTU : Hid (T.kids = U.kids → T = U) := Lib.hid (fun e => Ty.ext' HK.out HN.out HLB.out e)
    rw [← hkl]
    clear hkl
    go_enter Tryz.func68, Tryz.ntmps68
    go_wp2_with fail
    go_at_call 86
    refine (CL'.out _ (HS.out.below (below2 _ _ _)) (HS'.out.below (below2 _ _ _))).mono ?_
    rintro e w2 ⟨rfl, n2, rfl⟩
    clear CL'
    go_wp2_with fail
    go_loopw [7] (fun i wr => ∃ k : Nat, k ≤ T.kids.length ∧ i = .int .i64 k ∧ Hid (SameKids T.kids U.kids (d + 1) k) ∧ wr.cell? ⟨w.heap.size, 3, none⟩ = some (.slice B T.kids.length cb) ∧ wr.cell? ⟨w.heap.size + 1, 3, none⟩ = some (.slice B' T.kids.length cb') ∧ Below w.heap.size w wr) (fun i _ => T.kids.length - (intOf i).toNat)
    case atStart => exact ⟨0, Nat.zero_le _, rfl, (fun i t u hi => by omega), by go_simp, by go_simp, belowN (below2 _ _ _) n2⟩
    case round =>
      obtain ⟨k, hk, rfl, hno, hx3, hy3, hbel⟩ := hrel
      by_cases hlt : k < T.kids.length
      · obtain ⟨b, o, t, A1, B1, ca1, cb1, rfl, _, htk, hc⟩ := (HR.out.below hbel).at_ hlt
        obtain ⟨b', o', u, A2, B2, ca2, cb2, rfl, _, huk, hc'⟩ := (HR'.out.below hbel).at_ (k := k) (by have := HKL.out; omega)
        have C : ∀ n : Nat, Calls Tryz.prog 68 #[.agg #[.int .i64 t.kind, .string t.name, .slice A1 t.labels.length ca1, .slice B1 t.kids.length cb1], .agg #[.int .i64 u.kind, .string u.name, .slice A2 u.labels.length ca2, .slice B2 u.kids.length cb2], .int .i64 ((d : Int) + 1)] (wr.drewN n) (SaysB (SameOk t u (d + 1)) (wr.drewN n)) := fun n => by
          have h9 := IH.out k t htk u (UW.out k u huk) (d + 1) (by omega) (by omega) A1 B1 A2 B2 ca1 cb1 ca2 cb2 lo lo' (wr.drewN n) (hc.tree.below (belowN (Below.refl _ _) n)) (hc'.tree.below (belowN (Below.refl _ _) n))
          rw [show ((d + 1 : Nat) : Int) = (d : Int) + 1 by omega] at h9
          exact h9
        obtain ⟨c0, c1, c2, c3, _⟩ := hc
        obtain ⟨d0, d1, d2, d3, _⟩ := hc'
        have HB := Lib.hid hbel
        have HT := Lib.hid htk
        have HU := Lib.hid huk
        have hli : (k : Int) < (T.kids.length : Int) := by omega
        clear htk huk hbel
        by_cases hs : SameOk t u (d + 1)
        · have C' : Hid (∀ n : Nat, Calls Tryz.prog 68 #[.agg #[.int .i64 t.kind, .string t.name, .slice A1 t.labels.length ca1, .slice B1 t.kids.length cb1], .agg #[.int .i64 u.kind, .string u.name, .slice A2 u.labels.length ca2, .slice B2 u.kids.length cb2], .int .i64 ((d : Int) + 1)] (wr.drewN n) fun e w' => e = .returned (.bool true) ∧ Below wr.heap.size (wr.drewN n) w') := Lib.hid (fun n => (C n).mono fun _ _ j => j.yes hs)
          have HSO := Lib.hid hs
          have hw1 : IntKind.i64.wrap ((d : Int) + 1) = (d : Int) + 1 := IntWalk.i64_in _ (by omega)
          clear hs C
          go_wp2_with fail
          go_region_held3 (fun w' => w'.cell? ⟨b, o + k * 4, none⟩ = some (.int .i64 t.kind) ∧ w'.cell? ⟨b, o + k * 4 + 1, none⟩ = some (.string t.name) ∧ w'.cell? ⟨b, o + k * 4 + 2, none⟩ = some (.slice A1 t.labels.length ca1) ∧ w'.cell? ⟨b, o + k * 4 + 3, none⟩ = some (.slice B1 t.kids.length cb1) ∧ w'.cell? ⟨b', o' + k * 4, none⟩ = some (.int .i64 u.kind) ∧ w'.cell? ⟨b', o' + k * 4 + 1, none⟩ = some (.string u.name) ∧ w'.cell? ⟨b', o' + k * 4 + 2, none⟩ = some (.slice A2 u.labels.length ca2) ∧ w'.cell? ⟨b', o' + k * 4 + 3, none⟩ = some (.slice B2 u.kids.length cb2) ∧ w'.cell? ⟨w.heap.size, 3, none⟩ = some (.slice (some ⟨b, o, none⟩) T.kids.length cb) ∧ w'.cell? ⟨w.heap.size + 1, 3, none⟩ = some (.slice (some ⟨b', o', none⟩) T.kids.length cb') ∧ Below wr.heap.size wr w')
            (first | assumption | (exact (Below.refl _ _).drew) | (exact ⟨c0, c1, c2, c3, d0, d1, d2, d3, hx3, hy3, (Below.refl _ _).drew⟩) | (refine ⟨?_, ?_, ?_, ?_, ?_, ?_, ?_, ?_, ?_, ?_, ?_⟩ <;> assumption))
            (first | (go_at_call 68; refine (C'.out 1).mono ?_; rintro e wx ⟨rfl, hbx⟩; have hbw : Below wr.heap.size wr wx := (Below.refl wr.heap.size wr).drew.trans hbx; have p0 := keepCell hbw c0; have p1 := keepCell hbw c1; have p2 := keepCell hbw c2; have p3 := keepCell hbw c3; have q0 := keepCell hbw d0; have q1 := keepCell hbw d1; have q2 := keepCell hbw d2; have q3 := keepCell hbw d3; have p4 := keepCell hbw hx3; have q4 := keepCell hbw hy3))
          go_wp2_with fail
          go_roundw
          case rel => exact ⟨k + 1, by omega, by go_num, hno.out.step HT.out HU.out HSO.out, by assumption, by assumption, bnext HB.out (by assumption)⟩
          case measure => simp [intOf]; omega
        · have C' : Hid (∀ n : Nat, Calls Tryz.prog 68 #[.agg #[.int .i64 t.kind, .string t.name, .slice A1 t.labels.length ca1, .slice B1 t.kids.length cb1], .agg #[.int .i64 u.kind, .string u.name, .slice A2 u.labels.length ca2, .slice B2 u.kids.length cb2], .int .i64 ((d : Int) + 1)] (wr.drewN n) fun e w' => e = .returned (.bool false) ∧ Below wr.heap.size (wr.drewN n) w') := Lib.hid (fun n => (C n).mono fun _ _ j => j.no hs)
          have HSO := Lib.hid hs
          have hw1 : IntKind.i64.wrap ((d : Int) + 1) = (d : Int) + 1 := IntWalk.i64_in _ (by omega)
          clear hs C
          go_wp2_with fail
          go_region_held3 (fun w' => w'.cell? ⟨b, o + k * 4, none⟩ = some (.int .i64 t.kind) ∧ w'.cell? ⟨b, o + k * 4 + 1, none⟩ = some (.string t.name) ∧ w'.cell? ⟨b, o + k * 4 + 2, none⟩ = some (.slice A1 t.labels.length ca1) ∧ w'.cell? ⟨b, o + k * 4 + 3, none⟩ = some (.slice B1 t.kids.length cb1) ∧ w'.cell? ⟨b', o' + k * 4, none⟩ = some (.int .i64 u.kind) ∧ w'.cell? ⟨b', o' + k * 4 + 1, none⟩ = some (.string u.name) ∧ w'.cell? ⟨b', o' + k * 4 + 2, none⟩ = some (.slice A2 u.labels.length ca2) ∧ w'.cell? ⟨b', o' + k * 4 + 3, none⟩ = some (.slice B2 u.kids.length cb2) ∧ w'.cell? ⟨w.heap.size, 3, none⟩ = some (.slice (some ⟨b, o, none⟩) T.kids.length cb) ∧ w'.cell? ⟨w.heap.size + 1, 3, none⟩ = some (.slice (some ⟨b', o', none⟩) T.kids.length cb') ∧ Below wr.heap.size wr w')
            (first | assumption | (exact (Below.refl _ _).drew) | (exact ⟨c0, c1, c2, c3, d0, d1, d2, d3, hx3, hy3, (Below.refl _ _).drew⟩) | (refine ⟨?_, ?_, ?_, ?_, ?_, ?_, ?_, ?_, ?_, ?_, ?_⟩ <;> assumption))
            (first | (go_at_call 68; refine (C'.out 1).mono ?_; rintro e wx ⟨rfl, hbx⟩; have hbw : Below wr.heap.size wr wx := (Below.refl wr.heap.size wr).drew.trans hbx; have p0 := keepCell hbw c0; have p1 := keepCell hbw c1; have p2 := keepCell hbw c2; have p3 := keepCell hbw c3; have q0 := keepCell hbw d0; have q1 := keepCell hbw d1; have q2 := keepCell hbw d2; have q3 := keepCell hbw d3; have p4 := keepCell hbw hx3; have q4 := keepCell hbw hy3))
          go_wp2_with fail
          go_ret
          exact ⟨false, rfl, iffF (fun h => HSO.out (h.kid HT.out HU.out)), bnext HB.out (by assumption)⟩
      · have hk' : k = T.kids.length := by omega
        have HB := Lib.hid hbel
        clear hbel
        go_wp2
        go_ret
        have h9 := hno.out
        rw [hk'] at h9
        obtain ⟨g1, g2⟩ := SameKids.all HKL.out h9
        have g3 := T.depth_eq
        have g4 : Ty.depths T.kids ≤ 100 - d := Ty.depths_le_of fun i t ht => by have := g2 i t ht; omega
        exact ⟨true, rfl, iffT ⟨HTU.out g1, by omega⟩, HB.out⟩
end Go.Proofs.YtifchfecfkdjlaaGreatDoor
