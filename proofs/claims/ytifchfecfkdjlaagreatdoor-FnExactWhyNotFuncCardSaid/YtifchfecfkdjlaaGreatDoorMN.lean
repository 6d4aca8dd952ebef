/-
  SameS, PairMap, SameI, SameT: in one text.
-/
import Derived.Test.YtifchfecfkdjlaaGreatDoorTyPl
import Derived.IntWalk
import Derived.LaidEqlPtr
import Derived.Maps.OwnOps
import Derived.WideKeyRuns
import Derived.RegionTactic
import Derived.ChangeAlike
import Derived.BigRegion
namespace Go.Proofs.YtifchfecfkdjlaaGreatDoor
open Go.ChangeShapes Go.WideShapes Go.ChangeAt Go.RowKit Go.Deep

/-- Equal, and not too deep. -/
def SameOk (T U : Ty) (d : Nat) : Prop := T = U ∧ d + T.depth ≤ 101
/-- So many kids are. -/
def SameKids (ks us : List Ty) (d k : Nat) : Prop := ∀ (i : Nat) (t u : Ty), i < k → ks[i]? = some t → us[i]? = some u → SameOk t u d
theorem SameKids.step {ks us : List Ty} {d k : Nat} {t u : Ty} (h : SameKids ks us d k) (ht : ks[k]? = some t) (hu : us[k]? = some u) (e : SameOk t u d) : SameKids ks us d (k + 1) := fun i x y hi hx hy => by
  by_cases e2 : i = k
  · subst e2
    rw [ht] at hx
    rw [hu] at hy
    cases hx
    cases hy
    exact e
  · exact h i x y (by omega) hx hy
theorem Ty.depths_le_of {ks : List Ty} {n : Nat} (h : ∀ (i : Nat) (t : Ty), ks[i]? = some t → t.depth ≤ n) : Ty.depths ks ≤ n := by
  induction ks with
  | nil => simp [Ty.depths]
  | cons x xs ih =>
    have h0 := h 0 x rfl
    have h1 := ih fun i t ht => h (i + 1) t (by simpa using ht)
    simp only [Ty.depths]
    omega
theorem SameKids.all {ks us : List Ty} {d : Nat} (hl : ks.length = us.length) (h : SameKids ks us d ks.length) : ks = us ∧ ∀ (i : Nat) (t : Ty), ks[i]? = some t → d + t.depth ≤ 101 := by
  have key : ∀ (i : Nat) (t : Ty), ks[i]? = some t → us[i]? = some t ∧ d + t.depth ≤ 101 := fun i t ht => by
    have hi := (List.getElem?_eq_some_iff.1 ht).1
    have hu : us[i]? = some (us[i]'(by omega)) := List.getElem?_eq_getElem (by omega)
    obtain ⟨e1, e2⟩ := h i t _ hi ht hu
    rw [hu, ← e1]
    exact ⟨rfl, e2⟩
  refine ⟨List.ext_getElem? fun i => ?_, fun i t ht => (key i t ht).2⟩
  by_cases hi : i < ks.length
  · rw [(key i _ (List.getElem?_eq_getElem hi)).1, List.getElem?_eq_getElem hi]
  · rw [List.getElem?_eq_none (by omega), List.getElem?_eq_none (by omega)]
theorem SameOk.kid {T U t u : Ty} {d i : Nat} (h : SameOk T U d) (ht : T.kids[i]? = some t) (hu : U.kids[i]? = some u) : SameOk t u (d + 1) := by
  obtain ⟨rfl, h2⟩ := h
  rw [ht] at hu
  cases hu
  have h3 := Ty.depths_get ht
  have h4 := T.depth_eq
  exact ⟨rfl, by omega⟩

def SameTy (T : Ty) : Prop := ∀ U : Ty, U.wt ≤ 1048576 → ∀ d : Nat, 1 ≤ d → d ≤ 101 → ∀ (A B A' B' : Option Addr) (ca cb ca' cb' lo lo' : Nat) (w : World), Ty.At w lo T A B → Ty.At w lo' U A' B' →
  Calls Tryz.prog 68 #[.agg #[.int .i64 T.kind, .string T.name, .slice A T.labels.length ca, .slice B T.kids.length cb], .agg #[.int .i64 U.kind, .string U.name, .slice A' U.labels.length ca', .slice B' U.kids.length cb'], .int .i64 d] w (SaysB (SameOk T U d) w)

set_option maxHeartbeats 4000000 in
set_option maxRecDepth 100000 in
theorem l03Same_any (T : Ty) (hT : T.wt ≤ 1048576) : SameTy T := by
  induction T using Ty.kidInd with
  | h T ih =>
    intro U hU d hd1 hd2 A B A' B' ca cb ca' cb' lo lo' w h h'
    obtain ⟨q1, q2, q3, _, _⟩ := Ty.len_le hT
    obtain ⟨p1, p2, p3, _, _⟩ := Ty.len_le hU
    have hdp := T.depth_pos
    have IH : Hid (∀ (i : Nat) (t : Ty), T.kids[i]? = some t → SameTy t) := Lib.hid (fun i t ht => ih i t ht (q3 i t ht))
    have UW : Hid (∀ (i : Nat) (u : Ty), U.kids[i]? = some u → u.wt ≤ 1048576) := Lib.hid p3
    have CL : ∀ W : World, Strs W lo T.labels A → Strs W lo' U.labels A' → Calls Tryz.prog 86 #[.slice A T.labels.length ca, .slice A' U.labels.length ca'] W (SaysD (T.labels = U.labels) W) := fun W h1 h2 => l03Texts_any T.labels U.labels q1 p1 A A' ca ca' lo lo' W h1 h2
    have HS := Lib.hid h.strs
    have HR := Lib.hid h.rowAt
    have HS' := Lib.hid h'.strs
    have HR' := Lib.hid h'.rowAt
    clear ih h h' q3 p3 hT hU
    by_cases hd : d = 101
    · have hd3 : (100 : Int) < (d : Int) := by omega
      have HF : Hid (¬ SameOk T U d) := Lib.hid (fun h => by have := h.2; omega)
      clear hd CL
      go_enter Tryz.func68, Tryz.ntmps68
      go_wp2_with fail
      go_ret
      exact ⟨false, rfl, iffF HF.out, below2 _ _ _⟩
    have hd3 : ¬ (100 : Int) < (d : Int) := by omega
    by_cases hk : ¬ T.kind = U.kind
    · have e1 : (T.kind == U.kind) = false := by rw [beq_eq_false_iff_ne]; exact hk
      have e1' : (T.kind != U.kind) = true := by rw [bne_iff_ne]; exact hk
      have HF : Hid (¬ SameOk T U d) := Lib.hid (fun h => hk (by rw [h.1]))
      clear hk CL
      go_enter Tryz.func68, Tryz.ntmps68
      go_wp2_with fail
      go_ret
      exact ⟨false, rfl, iffF HF.out, below2 _ _ _⟩
    replace hk := Classical.not_not.mp hk
    by_cases hn : ¬ T.name = U.name
    · have e1 := text_ne hn
      have HF : Hid (¬ SameOk T U d) := Lib.hid (fun h => hn (by rw [h.1]))
      have HK := Lib.hid hk
      have e2 : (T.kind == U.kind) = true := by rw [beq_iff_eq]; exact hk
      have e2' : (T.kind != U.kind) = false := by rw [bne_eq_false_iff_eq]; exact hk
      clear hn CL hk
      go_enter Tryz.func68, Tryz.ntmps68
      go_wp2_with fail
      go_ret
      exact ⟨false, rfl, iffF HF.out, below2 _ _ _⟩
    replace hn := Classical.not_not.mp hn
    have HK := Lib.hid hk
    have HN := Lib.hid hn
    have e1 : (T.kind == U.kind) = true := by rw [beq_iff_eq]; exact hk
    have e1' : (T.kind != U.kind) = false := by rw [bne_eq_false_iff_eq]; exact hk
    have e2 : (T.name.toList == U.name.toList) = true := by rw [hn, beq_iff_eq]
    clear hk hn
    by_cases hl : ¬ T.labels = U.labels
    · have CL' := Lib.hid (fun W h1 h2 => (CL W h1 h2).mono fun e w' (k : SaysD _ W e w') => (show e = .returned (.bool false) ∧ ∃ n, w' = W.drewN n by
        obtain ⟨v, rfl, hv, hn⟩ := k
        refine ⟨?_, hn⟩
        cases v
        · rfl
        · exact absurd (hv.mp rfl) hl))
      have HF : Hid (¬ SameOk T U d) := Lib.hid (fun h => hl (by rw [h.1]))
      clear hl CL
      go_enter Tryz.func68, Tryz.ntmps68
      go_wp2_with fail
      go_at_call 86
      refine (CL'.out _ (HS.out.below (below2 _ _ _)) (HS'.out.below (below2 _ _ _))).mono ?_
      rintro e w2 ⟨rfl, n2, rfl⟩
      go_wp2_with fail
      go_ret
      exact ⟨false, rfl, iffF HF.out, belowN (below2 _ _ _) n2⟩
    replace hl := Classical.not_not.mp hl
    have CL' := Lib.hid (fun W h1 h2 => (CL W h1 h2).mono fun e w' (k : SaysD _ W e w') => (show e = .returned (.bool true) ∧ ∃ n, w' = W.drewN n by
      obtain ⟨v, rfl, hv, hn⟩ := k
      rw [hv.mpr hl]
      exact ⟨rfl, hn⟩))
    have HLB := Lib.hid hl
    clear hl CL
    by_cases hkl : ¬ T.kids.length = U.kids.length
    · have HF : Hid (¬ SameOk T U d) := Lib.hid (fun h => hkl (by rw [h.1]))
      have e3 : ((T.kids.length : Int) == (U.kids.length : Int)) = false := by rw [beq_eq_false_iff_ne]; omega
      clear hkl
      go_enter Tryz.func68, Tryz.ntmps68
      go_wp2_with fail
      go_at_call 86
      refine (CL'.out _ (HS.out.below (below2 _ _ _)) (HS'.out.below (below2 _ _ _))).mono ?_
      rintro e w2 ⟨rfl, n2, rfl⟩
      go_wp2_with fail
      go_ret
      exact ⟨false, rfl, iffF HF.out, belowN (below2 _ _ _) n2⟩
    replace hkl := Classical.not_not.mp hkl
    have HKL := Lib.hid hkl
    have HTU : Hid (T.kids = U.kids → T = U) := Lib.hid (fun e => Ty.ext' HK.out HN.out HLB.out e)
    rw [← hkl]
    clear hkl
    go_enter Tryz.func68, Tryz.ntmps68
    go_wp2_with fail
    go_at_call 86
    refine (CL'.out _ (HS.out.below (below2 _ _ _)) (HS'.out.below (below2 _ _ _))).mono ?_
    rintro e w2 ⟨rfl, n2, rfl⟩
    clear CL'
    go_wp2_with fail
    go_loopw [7] (fun i wr => ∃ k : Nat, k ≤ T.kids.length ∧ i = .int .i64 k ∧ Hid (SameKids T.kids U.kids (d + 1) k) ∧ wr.cell? ⟨w.heap.size, 3, none⟩ = some (.slice B T.kids.length cb) ∧ wr.cell? ⟨w.heap.size + 1, 3, none⟩ = some (.slice B' T.kids.length cb') ∧ Below w.heap.size w wr) (fun i _ => T.kids.length - (intOf i).toNat)
    case atStart => exact ⟨0, Nat.zero_le _, rfl, (fun i t u hi => by omega), by go_simp, by go_simp, belowN (below2 _ _ _) n2⟩
    case round =>
      obtain ⟨k, hk, rfl, hno, hx3, hy3, hbel⟩ := hrel
      by_cases hlt : k < T.kids.length
      · obtain ⟨b, o, t, A1, B1, ca1, cb1, rfl, _, htk, hc⟩ := (HR.out.below hbel).at_ hlt
        obtain ⟨b', o', u, A2, B2, ca2, cb2, rfl, _, huk, hc'⟩ := (HR'.out.below hbel).at_ (k := k) (by have := HKL.out; omega)
        have C : ∀ n : Nat, Calls Tryz.prog 68 #[.agg #[.int .i64 t.kind, .string t.name, .slice A1 t.labels.length ca1, .slice B1 t.kids.length cb1], .agg #[.int .i64 u.kind, .string u.name, .slice A2 u.labels.length ca2, .slice B2 u.kids.length cb2], .int .i64 ((d : Int) + 1)] (wr.drewN n) (SaysB (SameOk t u (d + 1)) (wr.drewN n)) := fun n => by
          have h9 := IH.out k t htk u (UW.out k u huk) (d + 1) (by omega) (by omega) A1 B1 A2 B2 ca1 cb1 ca2 cb2 lo lo' (wr.drewN n) (hc.tree.below (belowN (Below.refl _ _) n)) (hc'.tree.below (belowN (Below.refl _ _) n))
          rw [show ((d + 1 : Nat) : Int) = (d : Int) + 1 by omega] at h9
          exact h9
        obtain ⟨c0, c1, c2, c3, _⟩ := hc
        obtain ⟨d0, d1, d2, d3, _⟩ := hc'
        have HB := Lib.hid hbel
        have HT := Lib.hid htk
        have HU := Lib.hid huk
        have hli : (k : Int) < (T.kids.length : Int) := by omega
        clear htk huk hbel
        by_cases hs : SameOk t u (d + 1)
        · have C' : Hid (∀ n : Nat, Calls Tryz.prog 68 #[.agg #[.int .i64 t.kind, .string t.name, .slice A1 t.labels.length ca1, .slice B1 t.kids.length cb1], .agg #[.int .i64 u.kind, .string u.name, .slice A2 u.labels.length ca2, .slice B2 u.kids.length cb2], .int .i64 ((d : Int) + 1)] (wr.drewN n) fun e w' => e = .returned (.bool true) ∧ Below wr.heap.size (wr.drewN n) w') := Lib.hid (fun n => (C n).mono fun _ _ j => j.yes hs)
          have HSO := Lib.hid hs
          have hw1 : IntKind.i64.wrap ((d : Int) + 1) = (d : Int) + 1 := IntWalk.i64_in _ (by omega)
          clear hs C
          go_wp2_with fail
          go_region_held3 (fun w' => w'.cell? ⟨b, o + k * 4, none⟩ = some (.int .i64 t.kind) ∧ w'.cell? ⟨b, o + k * 4 + 1, none⟩ = some (.string t.name) ∧ w'.cell? ⟨b, o + k * 4 + 2, none⟩ = some (.slice A1 t.labels.length ca1) ∧ w'.cell? ⟨b, o + k * 4 + 3, none⟩ = some (.slice B1 t.kids.length cb1) ∧ w'.cell? ⟨b', o' + k * 4, none⟩ = some (.int .i64 u.kind) ∧ w'.cell? ⟨b', o' + k * 4 + 1, none⟩ = some (.string u.name) ∧ w'.cell? ⟨b', o' + k * 4 + 2, none⟩ = some (.slice A2 u.labels.length ca2) ∧ w'.cell? ⟨b', o' + k * 4 + 3, none⟩ = some (.slice B2 u.kids.length cb2) ∧ w'.cell? ⟨w.heap.size, 3, none⟩ = some (.slice (some ⟨b, o, none⟩) T.kids.length cb) ∧ w'.cell? ⟨w.heap.size + 1, 3, none⟩ = some (.slice (some ⟨b', o', none⟩) T.kids.length cb') ∧ Below wr.heap.size wr w')
            (first | assumption | (exact (Below.refl _ _).drew) | (exact ⟨c0, c1, c2, c3, d0, d1, d2, d3, hx3, hy3, (Below.refl _ _).drew⟩) | (refine ⟨?_, ?_, ?_, ?_, ?_, ?_, ?_, ?_, ?_, ?_, ?_⟩ <;> assumption))
            (first | (go_at_call 68; refine (C'.out 1).mono ?_; rintro e wx ⟨rfl, hbx⟩; have hbw : Below wr.heap.size wr wx := (Below.refl wr.heap.size wr).drew.trans hbx; have p0 := keepCell hbw c0; have p1 := keepCell hbw c1; have p2 := keepCell hbw c2; have p3 := keepCell hbw c3; have q0 := keepCell hbw d0; have q1 := keepCell hbw d1; have q2 := keepCell hbw d2; have q3 := keepCell hbw d3; have p4 := keepCell hbw hx3; have q4 := keepCell hbw hy3))
          go_wp2_with fail
          go_roundw
          case rel => exact ⟨k + 1, by omega, by go_num, hno.out.step HT.out HU.out HSO.out, by assumption, by assumption, bnext HB.out (by assumption)⟩
          case measure => simp [intOf]; omega
        · have C' : Hid (∀ n : Nat, Calls Tryz.prog 68 #[.agg #[.int .i64 t.kind, .string t.name, .slice A1 t.labels.length ca1, .slice B1 t.kids.length cb1], .agg #[.int .i64 u.kind, .string u.name, .slice A2 u.labels.length ca2, .slice B2 u.kids.length cb2], .int .i64 ((d : Int) + 1)] (wr.drewN n) fun e w' => e = .returned (.bool false) ∧ Below wr.heap.size (wr.drewN n) w') := Lib.hid (fun n => (C n).mono fun _ _ j => j.no hs)
          have HSO := Lib.hid hs
          have hw1 : IntKind.i64.wrap ((d : Int) + 1) = (d : Int) + 1 := IntWalk.i64_in _ (by omega)
          clear hs C
          go_wp2_with fail
          go_region_held3 (fun w' => w'.cell? ⟨b, o + k * 4, none⟩ = some (.int .i64 t.kind) ∧ w'.cell? ⟨b, o + k * 4 + 1, none⟩ = some (.string t.name) ∧ w'.cell? ⟨b, o + k * 4 + 2, none⟩ = some (.slice A1 t.labels.length ca1) ∧ w'.cell? ⟨b, o + k * 4 + 3, none⟩ = some (.slice B1 t.kids.length cb1) ∧ w'.cell? ⟨b', o' + k * 4, none⟩ = some (.int .i64 u.kind) ∧ w'.cell? ⟨b', o' + k * 4 + 1, none⟩ = some (.string u.name) ∧ w'.cell? ⟨b', o' + k * 4 + 2, none⟩ = some (.slice A2 u.labels.length ca2) ∧ w'.cell? ⟨b', o' + k * 4 + 3, none⟩ = some (.slice B2 u.kids.length cb2) ∧ w'.cell? ⟨w.heap.size, 3, none⟩ = some (.slice (some ⟨b, o, none⟩) T.kids.length cb) ∧ w'.cell? ⟨w.heap.size + 1, 3, none⟩ = some (.slice (some ⟨b', o', none⟩) T.kids.length cb') ∧ Below wr.heap.size wr w')
            (first | assumption | (exact (Below.refl _ _).drew) | (exact ⟨c0, c1, c2, c3, d0, d1, d2, d3, hx3, hy3, (Below.refl _ _).drew⟩) | (refine ⟨?_, ?_, ?_, ?_, ?_, ?_, ?_, ?_, ?_, ?_, ?_⟩ <;> assumption))
            (first | (go_at_call 68; refine (C'.out 1).mono ?_; rintro e wx ⟨rfl, hbx⟩; have hbw : Below wr.heap.size wr wx := (Below.refl wr.heap.size wr).drew.trans hbx; have p0 := keepCell hbw c0; have p1 := keepCell hbw c1; have p2 := keepCell hbw c2; have p3 := keepCell hbw c3; have q0 := keepCell hbw d0; have q1 := keepCell hbw d1; have q2 := keepCell hbw d2; have q3 := keepCell hbw d3; have p4 := keepCell hbw hx3; have q4 := keepCell hbw hy3))
          go_wp2_with fail
          go_ret
          exact ⟨false, rfl, iffF (fun h => HSO.out (h.kid HT.out HU.out)), bnext HB.out (by assumption)⟩
      · have hk' : k = T.kids.length := by omega
        have HB := Lib.hid hbel
        clear hbel
        go_wp2
        go_ret
        have h9 := hno.out
        rw [hk'] at h9
        obtain ⟨g1, g2⟩ := SameKids.all HKL.out h9
        have g3 := T.depth_eq
        have g4 : Ty.depths T.kids ≤ 100 - d := Ty.depths_le_of fun i t ht => by have := g2 i t ht; omega
        exact ⟨true, rfl, iffT ⟨HTU.out g1, by omega⟩, HB.out⟩
end Go.Proofs.YtifchfecfkdjlaaGreatDoor

namespace Go.Proofs.YtifchfecfkdjlaaGreatDoor
open Go.ChangeShapes Go.WideShapes Go.ChangeAt Go.RowKit Go.Deep Go.MapKept

/-- A key. -/
def pk (a b : Addr) (n l : Int) : Value := .agg #[.pointer (some a), .pointer (some b), .int .i64 n, .int .i64 l]

theorem pk_fields : (Tryz.prog.fieldsOf 123).toList.map (fun f => (f.name == "_", f.type, f.offset)) = [(false, 121, 0), (false, 121, 1), (false, 3, 2), (false, 3, 3)] := by kernel_rfl
theorem agg_ptr (w : World) : (isAgg 121).run Tryz.prog w = .ok false w := by kernel_rfl
theorem agg_int (w : World) : (isAgg 3).run Tryz.prog w = .ok false w := by kernel_rfl
theorem part_of {t : TypeId} {w : World} (h : (isAgg t).run Tryz.prog w = .ok false w) {cs : Array Value} {i : Nat} {v : Value} (hv : cs[i]? = some v) : (part t cs i).run Tryz.prog w = .ok v w := by
  unfold part
  simp [h, hv]
theorem pk_info : ∃ j, Tryz.prog.info? 30 = some j ∧ j.size ≠ 0 := by
  have h := infoType
  cases e : Tryz.prog.info? 30 with
  | none => rw [e] at h; cases h
  | some j =>
    rw [e] at h
    simp at h
    exact ⟨j, rfl, by omega⟩

theorem eq_ptr (w : World) (d : Nat) (a b : Addr) (ha : Blk w a.block) (hb : Blk w b.block) :
    ∃ r : Bool, (Op.equalIn (d + 1) 121 (.pointer (some a)) (.pointer (some b))).run Tryz.prog w = .ok r w ∧ (r = true ↔ a = b) := by
  obtain ⟨j, hj, hs⟩ := pk_info
  have hp := Tryz.underlying121
  by_cases e : a = b
  · subst e
    exact ⟨true, by simp [Op.equalIn, run_underlying hp, sizeOf, typeInfo, hj, run_sameAddr_same], by simp⟩
  · obtain ⟨c1, t1, h1⟩ := ha
    obtain ⟨c2, t2, h2⟩ := hb
    exact ⟨false, by simp [Op.equalIn, run_underlying hp, sizeOf, typeInfo, hj, hs, run_sameAddr_other w e h1 h2], by simp [e]⟩

theorem fl4 {α : Type} {l : List α} (h : l.length = 4) : ∃ a b c d, l = [a, b, c, d] := by
  match l, h with
  | [a, b, c, d], _ => exact ⟨a, b, c, d, rfl⟩
theorem eqFields_step (d : Nat) (xs ys : Array Value) (f : Field) (fs : List Field) (w : World) (hn : (f.name == "_") = false) {x y : Value} (hx : (part f.type xs f.offset).run Tryz.prog w = .ok x w) (hy : (part f.type ys f.offset).run Tryz.prog w = .ok y w) {r : Bool} (hr : (Op.equalIn d f.type x y).run Tryz.prog w = .ok r w) :
    (Op.eqFields d xs ys (f :: fs)).run Tryz.prog w = if r = true then (Op.eqFields d xs ys fs).run Tryz.prog w else .ok false w := by
  have hn' : f.name ≠ "_" := by simpa using hn
  rw [Op.eqFields, if_pos hn']
  cases r <;> simp [hx, hy, hr]

theorem pk_equal (w : World) (a b a' b' : Addr) (n l n' l' : Int) (h1 : Blk w a.block) (h2 : Blk w b.block) (h3 : Blk w a'.block) (h4 : Blk w b'.block) :
    ∃ r : Bool, (Op.equal 123 (pk a b n l) (pk a' b' n' l')).run Tryz.prog w = .ok r w ∧ (r = true ↔ pk a b n l = pk a' b' n' l') := by
  obtain ⟨r1, e1, i1⟩ := eq_ptr w 9998 a a' h1 h3
  obtain ⟨r2, e2, i2⟩ := eq_ptr w 9998 b b' h2 h4
  have e3 : (Op.equalIn 9999 3 (.int .i64 n) (.int .i64 n')).run Tryz.prog w = .ok (n == n') w := run_equalIn_int w 9998 3 .i64 .i64 n n' Tryz.underlying3
  have e4 : (Op.equalIn 9999 3 (.int .i64 l) (.int .i64 l')).run Tryz.prog w = .ok (l == l') w := run_equalIn_int w 9998 3 .i64 .i64 l l' Tryz.underlying3
  have hf := pk_fields
  have hrun : (Op.equal 123 (pk a b n l) (pk a' b' n' l')).run Tryz.prog w = .ok (r1 && r2 && (n == n') && (l == l')) w := by
    unfold pk
    rw [Op.equal, Op.maxDepth, run_equalIn_struct w 9999 123 _ _ (by kernel_rfl) (by kernel_rfl)]
    generalize (Tryz.prog.fieldsOf 123).toList = L at hf ⊢
    obtain ⟨f0, f1, f2, f3, rfl⟩ := fl4 (l := L) (by simpa using congrArg List.length hf)
    simp only [List.map_cons, List.map_nil, List.cons.injEq, Prod.mk.injEq, and_true] at hf
    obtain ⟨⟨n0, t0, o0⟩, ⟨n1, t1, o1⟩, ⟨n2, t2, o2⟩, ⟨n3, t3, o3⟩⟩ := hf
    have p0 : ∀ (x y z u : Value), (part f0.type #[x, y, z, u] f0.offset).run Tryz.prog w = .ok x w := fun x y z u => by rw [t0, o0]; exact part_of (agg_ptr w) rfl
    have p1 : ∀ (x y z u : Value), (part f1.type #[x, y, z, u] f1.offset).run Tryz.prog w = .ok y w := fun x y z u => by rw [t1, o1]; exact part_of (agg_ptr w) rfl
    have p2 : ∀ (x y z u : Value), (part f2.type #[x, y, z, u] f2.offset).run Tryz.prog w = .ok z w := fun x y z u => by rw [t2, o2]; exact part_of (agg_int w) rfl
    have p3 : ∀ (x y z u : Value), (part f3.type #[x, y, z, u] f3.offset).run Tryz.prog w = .ok u w := fun x y z u => by rw [t3, o3]; exact part_of (agg_int w) rfl
    rw [eqFields_step 9999 _ _ f0 _ w n0 (p0 _ _ _ _) (p0 _ _ _ _) (by rw [t0]; exact e1), eqFields_step 9999 _ _ f1 _ w n1 (p1 _ _ _ _) (p1 _ _ _ _) (by rw [t1]; exact e2),
      eqFields_step 9999 _ _ f2 _ w n2 (p2 _ _ _ _) (p2 _ _ _ _) (by rw [t2]; exact e3), eqFields_step 9999 _ _ f3 _ w n3 (p3 _ _ _ _) (p3 _ _ _ _) (by rw [t3]; exact e4)]
    cases r1 <;> cases r2 <;> cases (n == n') <;> cases (l == l') <;> simp [Op.eqFields]
  refine ⟨_, hrun, ?_⟩
  unfold pk
  simp only [Bool.and_eq_true, i1, i2, beq_iff_eq]
  constructor
  · rintro ⟨⟨⟨rfl, rfl⟩, rfl⟩, rfl⟩
    rfl
  · intro h
    injection h with h
    simp only [Array.mk.injEq, List.cons.injEq, Value.pointer.injEq, Option.some.injEq, Value.int.injEq, true_and, and_true] at h
    exact ⟨⟨⟨h.1, h.2.1⟩, h.2.2.1⟩, h.2.2.2⟩

theorem pk_check (em : Bool) (a b : Addr) (n l : Int) (w : World) : (Instr.checkKey em 10000 123 (pk a b n l)).run Tryz.prog w = .ok () w := by kernel_rfl
theorem pk_stays (a b : Addr) (n l : Int) (w : World) : (Instr.keyThatStays (pk a b n l) (pk a b n l)).run Tryz.prog w = .ok (pk a b n l) w := by
  simp [Instr.keyThatStays, pk, Instr.sameBits]

/-- An entry whose key lies in plain blocks. -/
def KeyOk (w : World) (e : MapEntry) : Prop := ∃ (a b : Addr) (n l : Int), e.key = pk a b n l ∧ Blk w a.block ∧ Blk w b.block
theorem pk_find (w : World) (a b : Addr) (n l : Int) (ha : Blk w a.block) (hb : Blk w b.block) : ∀ (es : List MapEntry) (i : Nat), (∀ e ∈ es, KeyOk w e) →
    (Instr.findAsking 123 (pk a b n l) es i).run Tryz.prog w = .ok none w ∨ ∃ j e, (Instr.findAsking 123 (pk a b n l) es i).run Tryz.prog w = .ok (some (i + j, e.val)) w ∧ es[j]? = some e ∧ e.key = pk a b n l
  | [], i, _ => Or.inl (by simp [Instr.findAsking])
  | e :: es, i, h => by
    obtain ⟨a', b', n', l', hk, ha', hb'⟩ := h e (by simp)
    obtain ⟨r, hr, hi⟩ := pk_equal w a b a' b' n l n' l' ha hb ha' hb'
    rw [← hk] at hr hi
    cases r
    · rcases pk_find w a b n l ha hb es (i + 1) (fun y hy => h y (by simp [hy])) with h1 | ⟨j, e', h1, h2, h3⟩
      · exact Or.inl (by simp [Instr.findAsking, hr, h1])
      · exact Or.inr ⟨j + 1, e', by simp [Instr.findAsking, hr, h1, Nat.add_assoc, Nat.add_comm 1 j], by simpa using h2, h3⟩
    · exact Or.inr ⟨0, e, by simp [Instr.findAsking, hr], rfl, (hi.mp rfl).symm⟩

/-- Two rows that are equal, and not too deep. -/
def SameAll (ks us : List Ty) (d : Nat) : Prop := ks = us ∧ Ty.depths ks ≤ d
/-- What a key stands for. -/
def Good (w : World) (a b : Addr) (n l : Int) : Prop := ∃ (ks us : List Ty) (d : Nat), n = ks.length ∧ l = d ∧ 0 < ks.length ∧ ks.length = us.length ∧ Ty.RowP w ks (some a) ∧ Ty.RowP w us (some b) ∧ SameAll ks us d
theorem Good.keep {w w' : World} {a b : Addr} {n l : Int} (h : Good w a b n l) (hk : Kp w w') : Good w' a b n l := by
  obtain ⟨ks, us, d, h1, h2, h3, h4, h5, h6, h7⟩ := h
  exact ⟨ks, us, d, h1, h2, h3, h4, h5.keep hk, h6.keep hk, h7⟩
theorem Ty.RowP.blk {w : World} {ks : List Ty} {a : Addr} (h : Ty.RowP w ks (some a)) (hp : 0 < ks.length) : Blk w a.block := by
  obtain ⟨b, o, e, hb, _⟩ := h hp
  cases e
  exact hb
theorem Good.blk {w : World} {a b : Addr} {n l : Int} (h : Good w a b n l) : Blk w a.block ∧ Blk w b.block := by
  obtain ⟨ks, us, d, h1, h2, h3, h4, h5, h6, h7⟩ := h
  exact ⟨h5.blk h3, h6.blk (by omega)⟩
/-- Block m is a map of such keys. -/
def Pairs (w : World) (m : Nat) : Prop := ∃ es clock, w.heap[m]? = some (.map es clock) ∧ ∀ e ∈ es.toList, e.val = .bool true ∧ ∃ a b n l, e.key = pk a b n l ∧ Good w a b n l
theorem Pairs.made (w : World) : Pairs (w.alloc (.map #[] 0)) w.heap.size := ⟨#[], 0, by show (w.heap.push _)[w.heap.size]? = _; simp, by simp⟩
theorem Pairs.lt {w : World} {m : Nat} (h : Pairs w m) : m < w.heap.size := by
  obtain ⟨es, clock, h1, _⟩ := h
  exact (Array.getElem?_eq_some_iff.1 h1).1
theorem Pairs.below {w w' : World} {m : Nat} (h : Pairs w m) (hb : Below w.heap.size w w') : Pairs w' m := by
  have hl := h.lt
  obtain ⟨es, clock, h1, h2⟩ := h
  refine ⟨es, clock, (hb.block m hl).trans h1, fun e he => ?_⟩
  obtain ⟨h3, a, b, n, l, h4, h5⟩ := h2 e he
  exact ⟨h3, a, b, n, l, h4, h5.keep (Kp.below hb)⟩
/-- A world in which nothing but a map's block has turned. -/
theorem Pairs.kp {w w' : World} {m : Nat} (h : Pairs w m) (hg : w.grownBy w' (some m)) : Kp w w' := by
  obtain ⟨es, clock, h1, _⟩ := h
  refine Kp.of (fun a v _ hc => ?_) (fun g hgb => ?_)
  · have hlt := World.block_lt_of_cell? w a hc
    have hne : a.block ≠ m := fun e => by
      rw [World.cell?, e, h1] at hc
      simp at hc
    rw [← hc]
    exact World.cell?_of_block (hg.block a.block hlt (fun e => hne (Option.some.inj e)))
  · have hne : g ≠ m := fun e => by
      obtain ⟨c, t, h2⟩ := hgb
      rw [e, h1] at h2
      cases h2
    exact hgb.same (hg.block g hgb.lt (fun e => hne (Option.some.inj e)))

theorem pairs_lookup {w : World} {m : Nat} (h : Pairs w m) (a b : Addr) (n l : Int) (ha : Blk w a.block) (hb : Blk w b.block) :
    ∃ v : Bool, (Instr.lookup 117 (.map (some m)) (pk a b n l) false).run Tryz.prog w = .ok (.bool v) w ∧ (v = true → Good w a b n l) := by
  obtain ⟨es, clock, h1, h2⟩ := h
  have hz : (zeroValue 4).run Tryz.prog w = .ok (.bool false) w := by kernel_rfl
  have hu := Tryz.underlying117
  have hk : ∀ e ∈ es.toList, KeyOk w e := fun e he => by
    obtain ⟨_, a', b', n', l', h4, h5⟩ := h2 e he
    exact ⟨a', b', n', l', h4, h5.blk.1, h5.blk.2⟩
  have hfk : (Instr.findKey 123 (pk a b n l) es.toList).run Tryz.prog w = (Instr.findAsking 123 (pk a b n l) es.toList).run Tryz.prog w := run_findKey_eq w (by kernel_rfl) _ _
  rcases pk_find w a b n l ha hb es.toList 0 hk with h3 | ⟨j, e, h3, h4, h5⟩
  · exact ⟨false, by simp [Instr.lookup, run_underlying hu, MapKept.run_getObj_map h1, pk_check, hfk, h3, hz], by simp⟩
  · obtain ⟨h6, a', b', n', l', h7, h8⟩ := h2 e (List.mem_of_getElem? h4)
    refine ⟨true, by simp [Instr.lookup, run_underlying hu, MapKept.run_getObj_map h1, pk_check, hfk, h3, h6], fun _ => ?_⟩
    have h9 := h7.symm.trans h5
    unfold pk at h9
    injection h9 with h9
    simp only [Array.mk.injEq, List.cons.injEq, Value.pointer.injEq, Option.some.injEq, Value.int.injEq, true_and, and_true] at h9
    obtain ⟨rfl, rfl, rfl, rfl⟩ := h9
    exact h8

theorem pairs_update {w : World} {m : Nat} (h : Pairs w m) (a b : Addr) (n l : Int) (hg : Good w a b n l) :
    ∃ w', (Instr.mapUpdate 117 (.map (some m)) (pk a b n l) (.bool true)).run Tryz.prog w = .ok () w' ∧ Pairs w' m ∧ w.grownBy w' (some m) := by
  have H := h
  obtain ⟨es, clock, h1, h2⟩ := h
  have hu := Tryz.underlying117
  have hk : ∀ e ∈ es.toList, KeyOk w e := fun e he => by
    obtain ⟨_, a', b', n', l', h4, h5⟩ := h2 e he
    exact ⟨a', b', n', l', h4, h5.blk.1, h5.blk.2⟩
  have hfk : (Instr.findKey 123 (pk a b n l) es.toList).run Tryz.prog w = (Instr.findAsking 123 (pk a b n l) es.toList).run Tryz.prog w := run_findKey_eq w (by kernel_rfl) _ _
  have grow : ∀ o : Obj, w.grownBy (ChangeMaps.setBlock w m o) (some m) := fun o => ⟨rfl, rfl, rfl, by simp [ChangeMaps.setBlock], fun i _ hi => ChangeMaps.heap_setBlock_other h1 _ (fun e => hi (by rw [e]))⟩
  rcases pk_find w a b n l hg.blk.1 hg.blk.2 es.toList 0 hk with h3 | ⟨j, e, h3, h4, h5⟩
  · refine ⟨ChangeMaps.setBlock w m (.map (es.push { key := pk a b n l, val := .bool true, born := clock }) (clock + 1)), by simp [Instr.mapUpdate, run_underlying hu, MapKept.run_getObj_map h1, pk_check, hfk, h3, MapKept.run_setObj_map _ h1, ChangeMaps.setBlock], ?_, grow _⟩
    have hkp := H.kp (grow (.map (es.push { key := pk a b n l, val := .bool true, born := clock }) (clock + 1)))
    refine ⟨_, _, ChangeMaps.heap_setBlock_same h1 _, fun e he => ?_⟩
    rw [Array.toList_push, List.mem_append] at he
    rcases he with he | he
    · obtain ⟨h6, a', b', n', l', h7, h8⟩ := h2 e he
      exact ⟨h6, a', b', n', l', h7, h8.keep hkp⟩
    · simp at he
      subst he
      exact ⟨rfl, a, b, n, l, rfl, hg.keep hkp⟩
  · have hj : es[j]? = some e := by simpa using h4
    refine ⟨ChangeMaps.setBlock w m (.map (es.modify j fun e => { e with key := pk a b n l, val := .bool true }) clock), by simp [Instr.mapUpdate, run_underlying hu, MapKept.run_getObj_map h1, pk_check, hfk, h3, hj, h5, pk_stays, MapKept.run_setObj_map _ h1, ChangeMaps.setBlock], ?_, grow _⟩
    have hkp := H.kp (grow (.map (es.modify j fun e => { e with key := pk a b n l, val := .bool true }) clock))
    refine ⟨_, _, ChangeMaps.heap_setBlock_same h1 _, fun x hx => ?_⟩
    obtain ⟨i, hi⟩ := List.getElem?_of_mem hx
    rw [Array.getElem?_toList, Array.getElem?_modify] at hi
    split at hi
    · cases hy : es[i]? with
      | none => rw [hy] at hi; cases hi
      | some y =>
        rw [hy] at hi
        simp at hi
        subst hi
        exact ⟨rfl, a, b, n, l, rfl, hg.keep hkp⟩
    · obtain ⟨h6, a', b', n', l', h7, h8⟩ := h2 x (List.mem_of_getElem? (by rw [Array.getElem?_toList]; exact hi))
      exact ⟨h6, a', b', n', l', h7, h8.keep hkp⟩

theorem wpList_pairs_update (w : World) {ops : Array Oper} {rest : List Oper} {o : Oper} {a : Act} {Q : Exit → Act → World → Prop}
    (hg : o.guard = none) (m x v : Operand) (hop : o.op = Op.mapUpdate 117 m x v) (b : Nat)
    (hm : a.eval m = .map (some b)) (hown : Pairs w b) (p q : Addr) (n l : Int) (hx : a.eval x = pk p q n l) (hv : a.eval v = .bool true) (hgood : Good w p q n l)
    (hK : ∀ w', Pairs w' b → w.grownBy w' (some b) → wpList Tryz.prog ops Q rest (a.put o.dst undef) w') :
    wpList Tryz.prog ops Q (o :: rest) a w := by
  refine wpList_plain hg fun K' hK' => ?_
  obtain ⟨w', hrun, r1, r2⟩ := pairs_update hown p q n l hgood
  unfold Oper.wp
  simp [execOp, hop, hm, hx, hv, hrun, Result.andThen]
  exact hK' _ _ (hK w' r1 r2)
theorem wpList_pairs_lookup (w : World) {ops : Array Oper} {rest : List Oper} {o : Oper} {a : Act} {Q : Exit → Act → World → Prop}
    (hg : o.guard = none) (m x : Operand) (hop : o.op = Op.lookup 117 m x false) (b : Nat)
    (hm : a.eval m = .map (some b)) (hown : Pairs w b) (p q : Addr) (n l : Int) (hx : a.eval x = pk p q n l) (hp : Blk w p.block) (hq : Blk w q.block)
    (hK : ∀ v : Bool, (v = true → Good w p q n l) → wpList Tryz.prog ops Q rest (a.put o.dst (.bool v)) w) :
    wpList Tryz.prog ops Q (o :: rest) a w := by
  refine wpList_plain hg fun K' hK' => ?_
  obtain ⟨v, hrun, r1⟩ := pairs_lookup hown p q n l hp hq
  unfold Oper.wp
  simp [execOp, hop, hm, hx, hrun, Result.andThen]
  exact hK' _ _ (hK v r1)
end Go.Proofs.YtifchfecfkdjlaaGreatDoor

namespace Go.Proofs.YtifchfecfkdjlaaGreatDoor
open Go.ChangeShapes Go.WideShapes Go.ChangeAt Go.RowKit Go.Deep

/-- Nothing has turned but block m and new memory. -/
def Gm (m : Nat) (w w' : World) : Prop := w.grownBy w' (some m)
theorem Gm.refl (m : Nat) (w : World) : Gm m w w := ⟨rfl, rfl, rfl, Nat.le_refl _, fun _ _ _ => rfl⟩
theorem Gm.trans {m : Nat} {a b c : World} (h : Gm m a b) (k : Gm m b c) : Gm m a c :=
  ⟨k.os.trans h.os, k.tape.trans h.tape, k.output.trans h.output, Nat.le_trans h.size k.size, fun i hi hn => (k.block i (Nat.lt_of_lt_of_le hi h.size) hn).trans (h.block i hi hn)⟩
theorem Gm.of_below {m : Nat} {w w' : World} (h : Below w.heap.size w w') : Gm m w w' := ⟨h.os, h.tape, h.output, h.size, fun i hi _ => h.block i hi⟩
theorem Gm.kp {m : Nat} {w w' : World} (h : Gm m w w') (hp : Pairs w m) : Kp w w' := hp.kp h

theorem SameAll.nil (d : Nat) : SameAll [] [] d := ⟨rfl, by simp [Ty.depths]⟩
theorem SameAll.len {ks us : List Ty} {d : Nat} (h : SameAll ks us d) : ks.length = us.length := by rw [h.1]
theorem SameAll.zero {ks us : List Ty} (h : SameAll ks us 0) : ks = [] := by
  obtain ⟨_, h2⟩ := h
  cases ks with
  | nil => rfl
  | cons x xs =>
    simp only [Ty.depths] at h2
    have := x.depth_pos
    omega
/-- Each of the first so many is alike. -/
def AllTo (ks us : List Ty) (d k : Nat) : Prop := ∀ (i : Nat) (t u : Ty), i < k → ks[i]? = some t → us[i]? = some u → t = u ∧ t.depth ≤ d
theorem AllTo.step {ks us : List Ty} {d k : Nat} {t u : Ty} (h : AllTo ks us d k) (ht : ks[k]? = some t) (hu : us[k]? = some u) (e : t = u ∧ t.depth ≤ d) : AllTo ks us d (k + 1) := fun i x y hi hx hy => by
  by_cases e2 : i = k
  · subst e2
    rw [ht] at hx
    rw [hu] at hy
    cases hx
    cases hy
    exact e
  · exact h i x y (by omega) hx hy
theorem AllTo.all {ks us : List Ty} {d : Nat} (hl : ks.length = us.length) (h : AllTo ks us d ks.length) : SameAll ks us d := by
  have key : ∀ (i : Nat) (t : Ty), ks[i]? = some t → us[i]? = some t ∧ t.depth ≤ d := fun i t ht => by
    have hi := (List.getElem?_eq_some_iff.1 ht).1
    have hu : us[i]? = some (us[i]'(by omega)) := List.getElem?_eq_getElem (by omega)
    obtain ⟨e1, e2⟩ := h i t _ hi ht hu
    rw [hu, ← e1]
    exact ⟨rfl, e2⟩
  refine ⟨List.ext_getElem? fun i => ?_, Ty.depths_le_of fun i t ht => (key i t ht).2⟩
  by_cases hi : i < ks.length
  · rw [(key i _ (List.getElem?_eq_getElem hi)).1, List.getElem?_eq_getElem hi]
  · rw [List.getElem?_eq_none (by omega), List.getElem?_eq_none (by omega)]
theorem SameAll.at_ {ks us : List Ty} {d k : Nat} {t u : Ty} (h : SameAll ks us d) (ht : ks[k]? = some t) (hu : us[k]? = some u) : t = u ∧ t.depth ≤ d := by
  obtain ⟨rfl, h2⟩ := h
  rw [ht] at hu
  cases hu
  exact ⟨rfl, Nat.le_trans (Ty.depths_get ht) h2⟩

def SamePost (ks us : List Ty) (d m : Nat) (w : World) (e : Ending) (w' : World) : Prop := ∃ v : Bool, e = .returned (.bool v) ∧ (v = true ↔ SameAll ks us d) ∧ Pairs w' m ∧ Gm m w w'
theorem SamePost.yes {ks us : List Ty} {d m : Nat} {w w' : World} {e : Ending} (h : SamePost ks us d m w e w') (hs : SameAll ks us d) : e = .returned (.bool true) ∧ Pairs w' m ∧ Gm m w w' := by
  obtain ⟨v, rfl, hv, h1, h2⟩ := h
  rw [hv.mpr hs]
  exact ⟨rfl, h1, h2⟩
theorem SamePost.no {ks us : List Ty} {d m : Nat} {w w' : World} {e : Ending} (h : SamePost ks us d m w e w') (hs : ¬ SameAll ks us d) : e = .returned (.bool false) ∧ Pairs w' m ∧ Gm m w w' := by
  obtain ⟨v, rfl, hv, h1, h2⟩ := h
  cases v
  · exact ⟨rfl, h1, h2⟩
  · exact absurd (hv.mp rfl) hs

def SameTs (d : Nat) : Prop := ∀ (ks us : List Ty), ks.length ≤ 1048576 → us.length ≤ 1048576 → (∀ (i : Nat) (t : Ty), ks[i]? = some t → t.wt ≤ 1048576) → (∀ (i : Nat) (t : Ty), us[i]? = some t → t.wt ≤ 1048576) →
  ∀ (A B : Option Addr) (ca cb m : Nat) (w : World), Ty.RowP w ks A → Ty.RowP w us B → Pairs w m →
  Calls Tryz.prog 96 #[.slice A ks.length ca, .slice B us.length cb, .int .i64 d, .map (some m)] w (SamePost ks us d m w)

theorem sameTypes_len (d : Nat) (ks us : List Ty) (A B : Option Addr) (ca cb m : Nat) (w : World) (hm : Pairs w m) (hl : ¬ ks.length = us.length) :
    Calls Tryz.prog 96 #[.slice A ks.length ca, .slice B us.length cb, .int .i64 d, .map (some m)] w (SamePost ks us d m w) := by
  have HM := Lib.hid hm
  have HL := Lib.hid hl
  have e1 : ((ks.length : Int) == (us.length : Int)) = false := by rw [beq_eq_false_iff_ne]; omega
  clear hm hl
  go_enter Tryz.func96, Tryz.ntmps96
  go_wp2_with fail
  go_ret
  exact ⟨false, rfl, iffF (fun h => HL.out h.len), HM.out, Gm.refl _ _⟩
theorem sameTypes_nil (d : Nat) (A B : Option Addr) (ca cb m : Nat) (w : World) (hm : Pairs w m) :
    Calls Tryz.prog 96 #[.slice A (0 : Nat) ca, .slice B (0 : Nat) cb, .int .i64 d, .map (some m)] w (SamePost [] [] d m w) := by
  have HM := Lib.hid hm
  clear hm
  go_enter Tryz.func96, Tryz.ntmps96
  go_wp2_with fail
  go_ret
  exact ⟨true, rfl, iffT (SameAll.nil d), HM.out, Gm.refl _ _⟩
theorem sameTypes_zero (n : Nat) (ks us : List Ty) (hn : 0 < n) (hk : ks.length = n) (hu : us.length = n) (A B : Option Addr) (ca cb m : Nat) (w : World) (hm : Pairs w m) :
    Calls Tryz.prog 96 #[.slice A n ca, .slice B n cb, .int .i64 (0 : Nat), .map (some m)] w (SamePost ks us 0 m w) := by
  have HM := Lib.hid hm
  have HF : Hid (¬ SameAll ks us 0) := Lib.hid (fun h => by
    have := h.zero
    rw [this] at hk
    simp at hk
    omega)
  have hn' : (0 : Int) < (n : Int) := by omega
  clear hm hk hu
  go_enter Tryz.func96, Tryz.ntmps96
  go_wp2_with fail
  go_ret
  exact ⟨false, rfl, iffF HF.out, HM.out, Gm.refl _ _⟩

theorem wpList_lookup_eq {P : Program} (w : World) {ops : Array Oper} {rest : List Oper} {o : Oper} {a : Act} {Q : Exit → Act → World → Prop}
    (hg : o.guard = none) (m x : Operand) (t : TypeId) (hop : o.op = Op.lookup t m x false) (mv kv : Value) (hm : a.eval m = mv) (hx : a.eval x = kv) {r : Value} (hrun : (Instr.lookup t mv kv false).run P w = .ok r w)
    (hK : wpList P ops Q rest (a.put o.dst r) w) : wpList P ops Q (o :: rest) a w := by
  refine wpList_plain hg fun K' hK' => ?_
  unfold Oper.wp
  simp [execOp, hop, hm, hx, hrun, Result.andThen]
  exact hK' _ _ hK
theorem same_iff {t u : Ty} {d : Nat} : (t = u ∧ t.depth ≤ d + 1) ↔ t.kind = u.kind ∧ t.name = u.name ∧ t.labels = u.labels ∧ SameAll t.kids u.kids d := by
  have h := t.depth_eq
  constructor
  · rintro ⟨rfl, h2⟩
    exact ⟨rfl, rfl, rfl, rfl, by omega⟩
  · rintro ⟨h1, h2, h3, h4, h5⟩
    exact ⟨Ty.ext' h1 h2 h3 h4, by omega⟩

set_option maxHeartbeats 4000000 in
set_option maxRecDepth 100000 in
theorem sameTypes_some (d : Nat) (hd : d ≤ 99) (ih : SameTs d) (n : Nat) (hn : 0 < n) (ks us : List Ty) (hk : ks.length = n) (hu : us.length = n) (hn2 : n ≤ 1048576) (hwk : ∀ (i : Nat) (t : Ty), ks[i]? = some t → t.wt ≤ 1048576) (hwu : ∀ (i : Nat) (t : Ty), us[i]? = some t → t.wt ≤ 1048576)
    (A B : Option Addr) (ca cb m : Nat) (w : World) (ha : Ty.RowP w ks A) (hb : Ty.RowP w us B) (hm : Pairs w m) :
    Calls Tryz.prog 96 #[.slice A n ca, .slice B n cb, .int .i64 ((d : Int) + 1), .map (some m)] w (SamePost ks us (d + 1) m w) := by
  obtain ⟨b, o, t0, A0, B0, c00, c01, rfl, hblk, _, _⟩ := ha.at_ (k := 0) (by omega)
  obtain ⟨b', o', u0, A0', B0', c00', c01', rfl, hblk', _, _⟩ := hb.at_ (k := 0) (by omega)
  obtain ⟨v, hrun, hv⟩ := pairs_lookup (w := (w.alloc (.cells #[.pointer (some ⟨b, o, none⟩), .pointer (some ⟨b', o', none⟩), .int .i64 n, .int .i64 ((d : Int) + 1)] 123)).drew) (m := m) (hm.below (below1 _ _).drew) ⟨b, o, none⟩ ⟨b', o', none⟩ n ((d : Int) + 1) (hblk.below (below1 _ _).drew) (hblk'.below (below1 _ _).drew)
  have HR := Lib.hid hrun
  have HV := Lib.hid hv
  have IH := Lib.hid ih
  have HK := Lib.hid hk
  have HU := Lib.hid hu
  have HA := Lib.hid ha
  have HBB := Lib.hid hb
  have HM := Lib.hid hm
  have HWK := Lib.hid hwk
  have HWU := Lib.hid hwu
  have HBL := Lib.hid hblk
  have HBL' := Lib.hid hblk'
  have HML := Lib.hid hm.lt
  have hn' : (0 : Int) < (n : Int) := by omega
  have e0 : ((n : Int) == 0) = false := by rw [beq_eq_false_iff_ne]; omega
  have e1 : ((d : Int) + 1 == 0) = false := by rw [beq_eq_false_iff_ne]; omega
  clear ih hk hu ha hb hm hwk hwu hblk hblk' hrun hv
  cases v
  · go_enter Tryz.func96, Tryz.ntmps96
    go_wp2_with fail
    go_region
    go_wp2_with (at_lookup; refine wpList_lookup_eq _ rfl _ _ _ rfl _ _ rfl rfl HR.out ?_)
    clear HR HV
    go_loopw [43] (fun i wr => ∃ k : Nat, k ≤ n ∧ i = .int .i64 k ∧ Hid (AllTo ks us (d + 1) k) ∧ Hid (Pairs wr m) ∧ wr.cell? ⟨w.heap.size, 0, none⟩ = some (.pointer (some ⟨b, o, none⟩)) ∧ wr.cell? ⟨w.heap.size, 1, none⟩ = some (.pointer (some ⟨b', o', none⟩)) ∧ wr.cell? ⟨w.heap.size, 2, none⟩ = some (.int .i64 n) ∧ wr.cell? ⟨w.heap.size, 3, none⟩ = some (.int .i64 ((d : Int) + 1)) ∧ Hid (Gm m w wr)) (fun i _ => n - (intOf i).toNat)
    case atStart => exact ⟨0, Nat.zero_le _, rfl, (fun i t u hi => by omega), HM.out.below (below1 _ _).drew, by go_simp, by go_simp, by go_simp, by go_simp, Gm.of_below (below1 _ _).drew⟩
    case round =>
      obtain ⟨k, hk, rfl, hno, hpr, p0, p1, p2, p3, hgm⟩ := hrel
      by_cases hlt : k < n
      · have hkp := hgm.out.kp HM.out
        obtain ⟨b1, o1, t, A1, B1, ca1, cb1, e9, hb1, htk, hc⟩ := (HA.out.keep hkp).at_ (k := k) (by rw [HK.out]; exact hlt)
        obtain ⟨rfl, rfl⟩ : b = b1 ∧ o = o1 := by cases e9; exact ⟨rfl, rfl⟩
        obtain ⟨b2, o2, u, A2, B2, ca2, cb2, e8, hb2, huk, hd⟩ := (HBB.out.keep hkp).at_ (k := k) (by rw [HU.out]; exact hlt)
        obtain ⟨rfl, rfl⟩ : b' = b2 ∧ o' = o2 := by cases e8; exact ⟨rfl, rfl⟩
        have hz1 : b < wr.heap.size := hb1.lt
        have hz2 : b' < wr.heap.size := hb2.lt
        clear e9 e8 hkp hb1 hb2
        obtain ⟨q1, q2, q3, _, _⟩ := Ty.len_le (HWK.out k t htk)
        obtain ⟨r1, r2, r3, _, _⟩ := Ty.len_le (HWU.out k u huk)
        have CL : ∀ W : World, Strs W 0 t.labels A1 → Strs W 0 u.labels A2 → Calls Tryz.prog 100 #[.slice A1 t.labels.length ca1, .slice A2 u.labels.length ca2] W (SaysD (t.labels = u.labels) W) := fun W h1 h2 => sliEqual_any t.labels u.labels q1 r1 A1 A2 ca1 ca2 0 0 W h1 h2
        have CS := Lib.hid (fun W h1 h2 h3 => IH.out t.kids u.kids q2 r2 q3 r3 B1 B2 cb1 cb2 m W h1 h2 h3)
        have HS1 := Lib.hid hc.tree.strs
        have HS2 := Lib.hid hd.tree.strs
        have HR1 := Lib.hid hc.tree.rowP
        have HR2 := Lib.hid hd.tree.rowP
        obtain ⟨c0, c1, c2, c3, _⟩ := hc
        obtain ⟨d0, d1, d2, d3, _⟩ := hd
        have HT := Lib.hid htk
        have HUU := Lib.hid huk
        have hli : (k : Int) < (n : Int) := by omega
        clear htk huk q3 r3
        by_cases hki : ¬ t.kind = u.kind
        · have x1 : (t.kind == u.kind) = false := by rw [beq_eq_false_iff_ne]; exact hki
          have x1' : (t.kind != u.kind) = true := by rw [bne_iff_ne]; exact hki
          have HNO : Hid (¬ (t = u ∧ t.depth ≤ d + 1)) := Lib.hid (fun h => hki (same_iff.mp h).1)
          clear hki CL CS
          go_wp2_with fail
          go_ret
          exact ⟨false, rfl, iffF (fun h => HNO.out (h.at_ HT.out HUU.out)), hpr.out.below (below2 _ _ _), hgm.out.trans (Gm.of_below (below2 _ _ _))⟩
        replace hki := Classical.not_not.mp hki
        have x1 : (t.kind == u.kind) = true := by rw [beq_iff_eq]; exact hki
        have x1' : (t.kind != u.kind) = false := by rw [bne_eq_false_iff_eq]; exact hki
        have HKI := Lib.hid hki
        clear hki
        by_cases hna : ¬ t.name = u.name
        · have x2 := text_ne hna
          have HNO : Hid (¬ (t = u ∧ t.depth ≤ d + 1)) := Lib.hid (fun h => hna (same_iff.mp h).2.1)
          clear hna CL CS
          go_wp2_with fail
          go_ret
          exact ⟨false, rfl, iffF (fun h => HNO.out (h.at_ HT.out HUU.out)), hpr.out.below (below2 _ _ _), hgm.out.trans (Gm.of_below (below2 _ _ _))⟩
        replace hna := Classical.not_not.mp hna
        have x2 : (t.name.toList == u.name.toList) = true := by rw [hna, beq_iff_eq]
        have HNA := Lib.hid hna
        clear hna
        by_cases hla : ¬ t.labels = u.labels
        · have CL' := Lib.hid (fun W h1 h2 => (CL W h1 h2).mono fun e w' (k : SaysD _ W e w') => (show e = .returned (.bool false) ∧ ∃ n, w' = W.drewN n by
            obtain ⟨v, rfl, hv, hn⟩ := k
            refine ⟨?_, hn⟩
            cases v
            · rfl
            · exact absurd (hv.mp rfl) hla))
          have HNO : Hid (¬ (t = u ∧ t.depth ≤ d + 1)) := Lib.hid (fun h => hla (same_iff.mp h).2.2.1)
          clear hla CL CS
          go_wp2_with (go_at_call 100; refine (CL'.out _ (HS1.out.below (below2 _ _ _)) (HS2.out.below (below2 _ _ _))).mono ?_; rintro e w2 ⟨rfl, n2, rfl⟩)
          go_ret
          exact ⟨false, rfl, iffF (fun h => HNO.out (h.at_ HT.out HUU.out)), hpr.out.below (belowN (below2 _ _ _) n2), hgm.out.trans (Gm.of_below (belowN (below2 _ _ _) n2))⟩
        replace hla := Classical.not_not.mp hla
        have CL' := Lib.hid (fun W h1 h2 => (CL W h1 h2).mono fun e w' (k : SaysD _ W e w') => (show e = .returned (.bool true) ∧ ∃ n, w' = W.drewN n by
          obtain ⟨v, rfl, hv, hn⟩ := k
          rw [hv.mpr hla]
          exact ⟨rfl, hn⟩))
        have HLA := Lib.hid hla
        clear hla CL
        by_cases hsa : SameAll t.kids u.kids d
        · have CS' := Lib.hid (fun W h1 h2 h3 => (CS.out W h1 h2 h3).mono fun _ _ j => j.yes hsa)
          have HYES : Hid (t = u ∧ t.depth ≤ d + 1) := Lib.hid (same_iff.mpr ⟨HKI.out, HNA.out, HLA.out, hsa⟩)
          clear hsa CS
          go_wp2_with (go_at_call 100; refine (CL'.out _ (HS1.out.below (below2 _ _ _)) (HS2.out.below (below2 _ _ _))).mono ?_; rintro e w2 ⟨rfl, n2, rfl⟩)
          go_at_call 96
          refine (CS'.out _ (HR1.out.keep (Kp.below (belowN (below2 _ _ _) n2))) (HR2.out.keep (Kp.below (belowN (below2 _ _ _) n2))) (hpr.out.below (belowN (below2 _ _ _) n2))).mono ?_
          rintro e w3 ⟨rfl, hp3, hg3⟩
          have hk3 := hg3.kp (hpr.out.below (belowN (below2 _ _ _) n2))
          replace p0 := hk3.cell (keepCell (belowN (below2 _ _ _) n2) p0)
          replace p1 := hk3.cell (keepCell (belowN (below2 _ _ _) n2) p1)
          replace p2 := hk3.cell (keepCell (belowN (below2 _ _ _) n2) p2)
          replace p3 := hk3.cell (keepCell (belowN (below2 _ _ _) n2) p3)
          have HP3 := Lib.hid hp3
          have HG3 := Lib.hid (hgm.out.trans ((Gm.of_below (belowN (below2 _ _ _) n2)).trans hg3))
          clear hp3 hg3 hk3 CL' CS'
          go_wp2_with fail
          go_roundw
          case rel => exact ⟨k + 1, by omega, by go_num, hno.out.step HT.out HUU.out HYES.out, HP3.out, p0, p1, p2, p3, HG3.out⟩
          case measure => simp [intOf]; omega
        · have CS' := Lib.hid (fun W h1 h2 h3 => (CS.out W h1 h2 h3).mono fun _ _ j => j.no hsa)
          have HNO : Hid (¬ (t = u ∧ t.depth ≤ d + 1)) := Lib.hid (fun h => hsa (same_iff.mp h).2.2.2)
          clear hsa CS
          go_wp2_with (go_at_call 100; refine (CL'.out _ (HS1.out.below (below2 _ _ _)) (HS2.out.below (below2 _ _ _))).mono ?_; rintro e w2 ⟨rfl, n2, rfl⟩)
          go_at_call 96
          refine (CS'.out _ (HR1.out.keep (Kp.below (belowN (below2 _ _ _) n2))) (HR2.out.keep (Kp.below (belowN (below2 _ _ _) n2))) (hpr.out.below (belowN (below2 _ _ _) n2))).mono ?_
          rintro e w3 ⟨rfl, hp3, hg3⟩
          have HP3 := Lib.hid hp3
          have HG3 := Lib.hid (hgm.out.trans ((Gm.of_below (belowN (below2 _ _ _) n2)).trans hg3))
          clear hp3 hg3 CL' CS'
          go_wp2_with fail
          go_ret
          exact ⟨false, rfl, iffF (fun h => HNO.out (h.at_ HT.out HUU.out)), HP3.out, HG3.out⟩
      · have hkn : k = n := by omega
        have h9 := hno.out
        rw [hkn, ← HK.out] at h9
        have HALL := Lib.hid (AllTo.all (by rw [HK.out, HU.out]) h9)
        have hkp := hgm.out.kp HM.out
        have HGOOD : Hid (Good wr ⟨b, o, none⟩ ⟨b', o', none⟩ n ((d : Int) + 1)) := Lib.hid ⟨ks, us, d + 1, by rw [HK.out], by omega, by rw [HK.out]; exact hn, by rw [HK.out, HU.out], HA.out.keep hkp, HBB.out.keep hkp, HALL.out⟩
        clear h9 hkp hkn
        go_wp2_with (at_mapUpdate; refine wpList_pairs_update _ rfl _ _ _ rfl m rfl hpr.out ⟨b, o, none⟩ ⟨b', o', none⟩ n ((d : Int) + 1) rfl rfl HGOOD.out ?_; intro w4 hp4 hg4)
        have HP4 := Lib.hid hp4
        have HG4 := Lib.hid hg4
        clear hp4 hg4
        go_ret
        exact ⟨true, rfl, iffT HALL.out, HP4.out, hgm.out.trans HG4.out⟩
  · go_enter Tryz.func96, Tryz.ntmps96
    go_wp2_with fail
    go_region
    go_wp2_with (at_lookup; refine wpList_lookup_eq _ rfl _ _ _ rfl _ _ rfl rfl HR.out ?_)
    go_ret
    refine ⟨true, rfl, iffT ?_, HM.out.below (below1 _ _).drew, Gm.of_below (below1 _ _).drew⟩
    obtain ⟨ks', us', d', h1, h2, h3, h4, h5, h6, h7⟩ := HV.out trivial
    have g1 := h5.uniq (HA.out.keep (Kp.below (below1 _ _).drew)) (by have := HK.out; omega)
    have g2 := h6.uniq (HBB.out.keep (Kp.below (below1 _ _).drew)) (by have := HU.out; omega)
    obtain rfl : d' = d + 1 := by omega
    rw [g1, g2] at h7
    exact h7

theorem sameTypes_any : ∀ (d : Nat), d ≤ 100 → SameTs d
  | 0, _ => fun ks us hk hu hwk hwu A B ca cb m w ha hb hm => by
    by_cases hl : ks.length = us.length
    · by_cases h0 : 0 < ks.length
      · have h := sameTypes_zero ks.length ks us h0 rfl hl.symm A B ca cb m w hm
        rw [hl] at h
        rw [hl]
        exact h
      · have h1 : ks = [] := List.eq_nil_of_length_eq_zero (by omega)
        have h2 : us = [] := List.eq_nil_of_length_eq_zero (by omega)
        subst h1 h2
        exact sameTypes_nil 0 A B ca cb m w hm
    · exact sameTypes_len 0 ks us A B ca cb m w hm hl
  | d + 1, hd => fun ks us hk hu hwk hwu A B ca cb m w ha hb hm => by
    by_cases hl : ks.length = us.length
    · by_cases h0 : 0 < ks.length
      · have h := sameTypes_some d (by omega) (sameTypes_any d (by omega)) ks.length h0 ks us rfl hl.symm hk hwk hwu A B ca cb m w ha hb hm
        rw [← hl]
        exact h
      · have h1 : ks = [] := List.eq_nil_of_length_eq_zero (by omega)
        have h2 : us = [] := List.eq_nil_of_length_eq_zero (by omega)
        subst h1 h2
        exact sameTypes_nil (d + 1) A B ca cb m w hm
    · exact sameTypes_len (d + 1) ks us A B ca cb m w hm hl
end Go.Proofs.YtifchfecfkdjlaaGreatDoor

namespace Go.Proofs.YtifchfecfkdjlaaGreatDoor
open Go.ChangeShapes Go.WideShapes Go.ChangeAt Go.RowKit Go.Deep

theorem specSameType_any (T U : Ty) (hT : T.wt ≤ 1048576) (hU : U.wt ≤ 1048576) (A B A' B' : Option Addr) (ca cb ca' cb' lo lo' : Nat) (w : World) (h : Ty.At w lo T A B) (h' : Ty.At w lo' U A' B') :
    Calls Tryz.prog 49 #[.agg #[.int .i64 T.kind, .string T.name, .slice A T.labels.length ca, .slice B T.kids.length cb], .agg #[.int .i64 U.kind, .string U.name, .slice A' U.labels.length ca', .slice B' U.kids.length cb']] w (SaysB (SameOk T U 1) w) := by
  have C := Lib.hid (fun W x y => l03Same_any T hT U hU 1 (by omega) (by omega) A B A' B' ca cb ca' cb' lo lo' W x y)
  have H := Lib.hid h
  have H' := Lib.hid h'
  clear h h' hT hU
  go_enter Tryz.func49, Tryz.ntmps49
  go_wp2_with fail
  go_at_call 68
  refine (C.out _ (H.out.below (below2 _ _ _)) (H'.out.below (below2 _ _ _))).mono ?_
  rintro e w2 ⟨v, rfl, hv, hb⟩
  have HV := Lib.hid hv
  have HB := Lib.hid (bnext (below2 _ _ _) hb)
  clear hv hb C
  go_wp2_with fail
  go_ret
  exact ⟨v, rfl, HV.out, HB.out⟩

theorem Ty.rowP_one {W : World} {T : Ty} {A B : Option Addr} {ca cb g : Nat} (hb : Blk W g) (h0 : W.cell? ⟨g, 0, none⟩ = some (.int .i64 T.kind)) (h1 : W.cell? ⟨g, 1, none⟩ = some (.string T.name)) (h2 : W.cell? ⟨g, 2, none⟩ = some (.slice A T.labels.length ca)) (h3 : W.cell? ⟨g, 3, none⟩ = some (.slice B T.kids.length cb)) (ht : Ty.Pl W 0 T A B) : Ty.RowP W [T] (some ⟨g, 0, none⟩) := fun _ => ⟨g, 0, rfl, hb, fun i t hi => by
  cases i with
  | zero =>
    cases hi
    exact ⟨A, B, ca, cb, by simpa using h0, by simpa using h1, by simpa using h2, by simpa using h3, ht⟩
  | succ i => simp at hi⟩
theorem same_one {T U : Ty} : SameAll [T] [U] 100 ↔ SameOk T U 1 := by
  unfold SameAll SameOk
  simp only [Ty.depths, List.cons.injEq, and_true]
  constructor
  · rintro ⟨h1, h2⟩
    exact ⟨h1, by omega⟩
  · rintro ⟨h1, h2⟩
    exact ⟨h1, by omega⟩
theorem sameTypes_one (T U : Ty) (hT : T.wt ≤ 1048576) (hU : U.wt ≤ 1048576) (g g' m : Nat) (W : World) (h1 : Ty.RowP W [T] (some ⟨g, 0, none⟩)) (h2 : Ty.RowP W [U] (some ⟨g', 0, none⟩)) (h3 : Pairs W m) :
    Calls Tryz.prog 96 #[.slice (some ⟨g, 0, none⟩) (1 : Nat) (1 : Nat), .slice (some ⟨g', 0, none⟩) (1 : Nat) (1 : Nat), .int .i64 100, .map (some m)] W fun e w' => ∃ v : Bool, e = .returned (.bool v) ∧ (v = true ↔ SameOk T U 1) ∧ Gm m W w' := by
  have one : ∀ V : Ty, V.wt ≤ 1048576 → ∀ (i : Nat) (t : Ty), [V][i]? = some t → t.wt ≤ 1048576 := fun V hV i t hi => by
    cases i with
    | zero =>
      cases hi
      exact hV
    | succ i => simp at hi
  exact (sameTypes_any 100 (by omega) [T] [U] (by simp) (by simp) (one T hT) (one U hU) (some ⟨g, 0, none⟩) (some ⟨g', 0, none⟩) 1 1 m W h1 h2 h3).mono fun _ _ ⟨v, e1, e2, _, e4⟩ => ⟨v, e1, e2.trans same_one, e4⟩

theorem blk_new (w : World) (c : Array Value) (t : TypeId) : Blk (w.alloc (.cells c t)) w.heap.size := ⟨c, t, by show (w.heap.push _)[w.heap.size]? = _; simp⟩
theorem Blk.alloc {w : World} {g : Nat} (h : Blk w g) (o : Obj) : Blk (w.alloc o) g := h.below (below1 _ _)

theorem blk_new2 (w : World) (a b : Obj) (c : Array Value) (t : TypeId) : Blk (((w.alloc a).alloc b).alloc (.cells c t)) (w.heap.size + 1 + 1) := by
  have h := blk_new ((w.alloc a).alloc b) c t
  simpa using h
theorem blk_new3 (w : World) (a b d : Obj) (c : Array Value) (t : TypeId) : Blk ((((w.alloc a).alloc b).alloc d).alloc (.cells c t)) (w.heap.size + 1 + 1 + 1) := by
  have h := blk_new (((w.alloc a).alloc b).alloc d) c t
  simpa using h
theorem made4 (w : World) (a b c d : Obj) : Pairs (((((w.alloc a).alloc b).alloc c).alloc d).alloc (.map #[] 0)) (w.heap.size + 1 + 1 + 1 + 1) := by
  have h := Pairs.made ((((w.alloc a).alloc b).alloc c).alloc d)
  simpa using h
theorem Gm.below {m B : Nat} {a b : World} (h : Gm m a b) (hm : B ≤ m) (hs : B ≤ a.heap.size) : Below B a b := ⟨h.os, h.tape, h.output, h.size, fun k hk => h.block k (by omega) (fun e => by have := Option.some.inj e; omega)⟩

theorem implSameType_any (T U : Ty) (hT : T.wt ≤ 1048576) (hU : U.wt ≤ 1048576) (A B A' B' : Option Addr) (ca cb ca' cb' : Nat) (w : World) (h : Ty.Pl w 0 T A B) (h' : Ty.Pl w 0 U A' B') :
    Calls Tryz.prog 90 #[.agg #[.int .i64 T.kind, .string T.name, .slice A T.labels.length ca, .slice B T.kids.length cb], .agg #[.int .i64 U.kind, .string U.name, .slice A' U.labels.length ca', .slice B' U.kids.length cb']] w (SaysB (SameOk T U 1) w) := by
  have C := Lib.hid (fun g g' m W x y z => sameTypes_one T U hT hU g g' m W x y z)
  have H := Lib.hid h
  have H' := Lib.hid h'
  clear h h' hT hU
  have hmm := @run_makeMap Tryz.prog
  go_enter Tryz.func90, Tryz.ntmps90
  go_wp2_with fail
  go_at_call 96
  refine (C.out _ _ _ _ (Ty.rowP_one (A := A) (B := B) (ca := ca) (cb := cb) ((blk_new2 _ _ _ _ _).alloc _ |>.alloc _) (by go_simp) (by go_simp) (by go_simp) (by go_simp) (H.out.keep (Kp.below (below5 _ _ _ _ _ _)).1)) (Ty.rowP_one (A := A') (B := B') (ca := ca') (cb := cb') ((blk_new3 _ _ _ _ _ _).alloc _) (by go_simp) (by go_simp) (by go_simp) (by go_simp) (H'.out.keep (Kp.below (below5 _ _ _ _ _ _)).1)) (made4 _ _ _ _ _)).mono ?_
  rintro e w2 ⟨v, rfl, hv, hg⟩
  have HV := Lib.hid hv
  have HB : Hid (Below w.heap.size w w2) := Lib.hid ((below5 _ _ _ _ _ _).trans (hg.below (by omega) (by simp; omega)))
  clear hv hg C
  go_wp2_with fail
  go_ret
  exact ⟨v, rfl, HV.out, HB.out⟩
end Go.Proofs.YtifchfecfkdjlaaGreatDoor

