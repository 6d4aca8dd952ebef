/-
  TyBorrowI, FnOkI, WhyK: in one text.
-/
import Derived.Test.YtifchfecfkdjlaaGreatDoorMK
import Derived.Test.YtifchfecfkdjlaaGreatDoorFnOkS
import Derived.OwnWalk
import Derived.Laws.AppendOwn
import Derived.Laws.OwnMore
import Derived.Test.YtifchfecfkdjlaaGreatDoorMG
import Derived.Deep.RegionHeld3
namespace Go.Proofs.YtifchfecfkdjlaaGreatDoor
open Go.ChangeShapes Go.WideShapes Go.ChangeAt Go.RowKit Go.Deep

/-- A valid type with a borrow in it. -/
def BorrowIn (T : Ty) : Prop := T.Ok ∧ T.has (inB 21 21) = true

theorem implBorrow_any (T : Ty) (lo : Nat) (hT : T.wt ≤ 1048576) (A B : Option Addr) (ca cb : Nat) (w : World) (hat : Ty.At w lo T A B) (hm : MaxC w) :
    Calls Tryz.prog 55 #[.agg #[.int .i64 T.kind, .string T.name, .slice A T.labels.length ca, .slice B T.kids.length cb]] w (SaysB (BorrowIn T) w) := by
  have CO := fun W h hm => implTypeOk_any T lo hT A B ca cb W h hm
  have CH := Lib.hid (fun W h => mentions_any 21 T hT A B ca cb lo W h)
  have HA := Lib.hid hat
  have HM := Lib.hid hm
  clear hat hT hm
  by_cases ho : T.Ok
  · have CO' := Lib.hid (fun W h hm => (CO W h hm).mono fun _ _ k => k.yes ho)
    have HO := Lib.hid ho
    clear ho CO
    go_enter Tryz.func55, Tryz.ntmps55
    go_wp2_with fail
    go_at_call 28
    refine (CO'.out _ (HA.out.below (below1 _ _)) (HM.out.keep (below1 _ _))).mono ?_
    rintro e w2 ⟨rfl, hb2⟩
    have k0 := keepCell (a := ⟨w.heap.size, 0, none⟩) (v := .int .i64 T.kind) hb2 (by go_simp)
    have k1 := keepCell (a := ⟨w.heap.size, 1, none⟩) (v := .string T.name) hb2 (by go_simp)
    have k2 := keepCell (a := ⟨w.heap.size, 2, none⟩) (v := .slice A T.labels.length ca) hb2 (by go_simp)
    have k3 := keepCell (a := ⟨w.heap.size, 3, none⟩) (v := .slice B T.kids.length cb) hb2 (by go_simp)
    have HB2 := Lib.hid (bnext (below1 _ _) hb2)
    clear hb2
    go_wp2_with fail
    go_at_call 80
    refine (CH.out _ (HA.out.below HB2.out)).mono ?_
    rintro e w3 ⟨rfl, hb3⟩
    have HB3 := Lib.hid (bnext HB2.out hb3)
    clear hb3
    go_wp2_with fail
    go_ret
    exact ⟨_, rfl, ⟨fun h => ⟨HO.out, h⟩, fun h => h.2⟩, HB3.out⟩
  · have CO' := Lib.hid (fun W h hm => (CO W h hm).mono fun _ _ k => k.no ho)
    have HO := Lib.hid ho
    clear ho CO
    go_enter Tryz.func55, Tryz.ntmps55
    go_wp2_with fail
    go_at_call 28
    refine (CO'.out _ (HA.out.below (below1 _ _)) (HM.out.keep (below1 _ _))).mono ?_
    rintro e w2 ⟨rfl, hb2⟩
    have HB2 := Lib.hid (bnext (below1 _ _) hb2)
    clear hb2
    go_wp2_with fail
    go_ret
    exact ⟨false, rfl, iffF (fun h => HO.out h.1), HB2.out⟩
end Go.Proofs.YtifchfecfkdjlaaGreatDoor

namespace Go.Proofs.YtifchfecfkdjlaaGreatDoor
open Go.ChangeShapes Go.WideShapes Go.ChangeAt Go.RowKit Go.Deep

theorem strCells_get {xs : List ByteArray} {i : Nat} {s : ByteArray} (h : xs[i]? = some s) : (xs.map Value.string)[i]? = some (.string s) := by simp [h]
/-- A row of strings of its own is a list of strings in memory. -/
theorem strs_own {w : World} {base m c : Nat} {R : Option Addr} {xs : List ByteArray} (hm : xs.length = m) (hown : w.ownsRow base 9 1 (.slice R m c) m (xs.map Value.string)) : Strs w base xs R := fun hp => by
  subst hm
  rcases hown.2 with ⟨e1, e2⟩ | ⟨g, cap', cur, e1, e2, e3, e4, _⟩
  · omega
  · injection e1 with e5 e6 e7
    subst e5
    refine ⟨g, 0, rfl, e2, fun i s hs => ?_⟩
    have hi := (List.getElem?_eq_some_iff.1 hs).1
    rw [Nat.zero_add, hown.cellAt i (by omega)]
    exact strCells_get hs

theorem pmNames_take {ps : List Pm} {k : Nat} {p : Pm} (h : ps[k]? = some p) : pmNames (ps.take (k + 1)) = pmNames (ps.take k) ++ [p.name] := by
  obtain ⟨hi, rfl⟩ := List.getElem?_eq_some_iff.1 h
  rw [List.take_succ_eq_append_getElem hi]
  unfold pmNames
  rw [List.map_append]
  rfl

set_option maxHeartbeats 4000000 in
set_option maxRecDepth 100000 in
theorem implFuncOk_any (x : Fn) (hT : x.wt ≤ 1048576) (R A B : Option Addr) (c ca cb lo : Nat) (w : World) (hat : Fn.At w lo x R A B) (hm : MaxC w) :
    Calls Tryz.prog 37 #[.agg #[.slice R x.params.length c, .int .i64 x.res.kind, .string x.res.name, .slice A x.res.labels.length ca, .slice B x.res.kids.length cb, .bool x.async]] w (SaysB (Fn.Ok x) w) := by
  obtain ⟨q1, q2, _⟩ := Fn.parts_le hT
  obtain ⟨h1, h2⟩ := hat
  have HP := Lib.hid h1
  have HR := Lib.hid h2
  have HM := Lib.hid hm
  have CO := fun W h hm => implTypeOk_any x.res lo q2 A B ca cb W h hm
  have CH := fun W h hm => implBorrow_any x.res lo q2 A B ca cb W h hm
  have hpw : ∀ (i : Nat) (p : Pm), x.params[i]? = some p → p.ty.wt ≤ 1048576 ∧ p.name.size ≤ 1048576 := fun i p hp => by
    have e1 := Pm.wt_mem hp
    obtain ⟨e2, e3, _⟩ := Pm.parts_le (x := p) (by omega)
    exact ⟨e3, by omega⟩
  have HNS : Hid (∀ s ∈ pmNames x.params, s.size ≤ 1048576) := Lib.hid (fun s hs => by
    obtain ⟨i, hi⟩ := List.getElem?_of_mem hs
    simp only [pmNames, List.getElem?_map, Option.map_eq_some_iff] at hi
    obtain ⟨p, hp, rfl⟩ := hi
    exact (hpw i p hp).2)
  have CT : Hid (∀ (i : Nat) (p : Pm), x.params[i]? = some p → ∀ A B ca cb W, Ty.At W lo p.ty A B → MaxC W → Calls Tryz.prog 28 #[.agg #[.int .i64 p.ty.kind, .string p.ty.name, .slice A p.ty.labels.length ca, .slice B p.ty.kids.length cb]] W (SaysB p.ty.Ok W)) := Lib.hid (fun i p hp A B ca cb W h hm => implTypeOk_any p.ty lo (hpw i p hp).1 A B ca cb W h hm)
  clear h1 h2 hT hpw hm
  by_cases hlen : 6 < x.params.length
  · have hlen' : (6 : Int) < (x.params.length : Int) := by omega
    clear CO CH
    go_enter Tryz.func37, Tryz.ntmps37
    go_wp2_with fail
    go_ret
    exact ⟨false, rfl, iffF (fun h => by have := h.1; omega), below1 _ _⟩
  have hlen' : ¬ (6 : Int) < (x.params.length : Int) := by omega
  by_cases ho : x.res.Ok
  · have CO' := Lib.hid (fun W h hm => (CO W h hm).mono fun _ _ k => k.yes ho)
    have HO := Lib.hid ho
    clear CO
    by_cases hb : BorrowIn x.res
    · have CH' := Lib.hid (fun W h hm => (CH W h hm).mono fun _ _ k => k.yes hb)
      have HB0 := Lib.hid hb
      clear hb ho CH
      go_enter Tryz.func37, Tryz.ntmps37
      go_wp2_with fail
      go_at_call 28
      refine (CO'.out _ (HR.out.below (below1 _ _)).1 (HM.out.keep (below1 _ _))).mono ?_
      rintro e w2 ⟨rfl, hb2⟩
      have k1 := keepCell (a := ⟨w.heap.size, 1, none⟩) (v := .int .i64 x.res.kind) hb2 (by go_simp)
      have k2 := keepCell (a := ⟨w.heap.size, 2, none⟩) (v := .string x.res.name) hb2 (by go_simp)
      have k3 := keepCell (a := ⟨w.heap.size, 3, none⟩) (v := .slice A x.res.labels.length ca) hb2 (by go_simp)
      have k4 := keepCell (a := ⟨w.heap.size, 4, none⟩) (v := .slice B x.res.kids.length cb) hb2 (by go_simp)
      have HB2 := Lib.hid (bnext (below1 _ _) hb2)
      clear hb2
      go_wp2_with fail
      go_at_call 55
      refine (CH'.out _ (HR.out.below HB2.out).1 (HM.out.keep HB2.out)).mono ?_
      rintro e w3 ⟨rfl, hb3⟩
      have HB3 := Lib.hid (bnext HB2.out hb3)
      clear hb3
      go_wp2_with fail
      go_ret
      exact ⟨false, rfl, iffF (fun h => by have h9 := h.2.2.1; rw [HB0.out.2] at h9; cases h9), HB3.out⟩
    · have CH' := Lib.hid (fun W h hm => (CH W h hm).mono fun _ _ k => k.no hb)
      have HB0 : Hid (x.res.has (inB 21 21) = false) := Lib.hid (by
        cases e : x.res.has (inB 21 21) with
        | true => exact absurd ⟨ho, e⟩ hb
        | false => rfl)
      clear hb ho CH
      obtain ⟨i0, hi, hz0, hz1, hz2⟩ := info_parts infoString
      go_enter Tryz.func37, Tryz.ntmps37
      go_wp2_with fail
      go_at_call 28
      refine (CO'.out _ (HR.out.below (below1 _ _)).1 (HM.out.keep (below1 _ _))).mono ?_
      rintro e w2 ⟨rfl, hb2⟩
      have k0 := keepCell (a := ⟨w.heap.size, 0, none⟩) (v := .slice R x.params.length c) hb2 (by go_simp)
      have k1 := keepCell (a := ⟨w.heap.size, 1, none⟩) (v := .int .i64 x.res.kind) hb2 (by go_simp)
      have k2 := keepCell (a := ⟨w.heap.size, 2, none⟩) (v := .string x.res.name) hb2 (by go_simp)
      have k3 := keepCell (a := ⟨w.heap.size, 3, none⟩) (v := .slice A x.res.labels.length ca) hb2 (by go_simp)
      have k4 := keepCell (a := ⟨w.heap.size, 4, none⟩) (v := .slice B x.res.kids.length cb) hb2 (by go_simp)
      have HB2 := Lib.hid (bnext (below1 _ _) hb2)
      clear hb2
      go_wp2_with fail
      go_at_call 55
      refine (CH'.out _ (HR.out.below HB2.out).1 (HM.out.keep HB2.out)).mono ?_
      rintro e w3 ⟨rfl, hb3⟩
      replace k0 := keepCell hb3 k0
      have HB3 := Lib.hid (bnext HB2.out hb3)
      clear hb3 k1 k2 k3 k4 CH' CO'
      go_wp2_with fail
      go_loopw [3, 24] (fun s i wr => ∃ k : Nat, k ≤ x.params.length ∧ i = .int .i64 k ∧ (∃ (R2 : Option Addr) (c2 : Nat), s = .slice R2 k c2 ∧ Hid (PmTo x.params k ∧ wr.ownsRow w.heap.size 9 1 (.slice R2 k c2) k ((pmNames (x.params.take k)).map Value.string))) ∧ Below w.heap.size w wr) (fun _ i _ => x.params.length - (intOf i).toNat)
      case atStart => exact ⟨0, Nat.zero_le _, rfl, ⟨none, 0, rfl, (fun i u hi => by omega), World.ownsRow_nil _ _ _ _⟩, HB3.out⟩
      case round =>
        obtain ⟨k, hk, rfl, ⟨R2, c2, rfl, hinv⟩, hbel⟩ := hrel
        clear k0
        by_cases hlt : k < x.params.length
        · obtain ⟨b, o, p, A', B', ca', cb', rfl, _, hpk, hc⟩ := (HP.out.below hbel).at_ hlt
          have CT' := CT.out k p hpk A' B' ca' cb'
          have CU := Lib.hid (fun W => isUnit_any p.ty.kind p.ty.name A' B' p.ty.labels.length p.ty.kids.length ca' cb' W)
          have HTR := Lib.hid hc.at_
          have HPK := Lib.hid hpk
          obtain ⟨c0, c1, c2', c3, c4, _⟩ := hc
          have lb : b < wr.heap.size := World.block_lt_of_cell? wr _ c0
          have HB := Lib.hid hbel
          have hbz := hbel.size
          have hli : (k : Int) < (x.params.length : Int) := by omega
          clear hpk hbel
          by_cases hto : p.ty.Ok
          · have CT2 := Lib.hid (fun W h hm => (CT' W h hm).mono fun _ _ k => k.yes hto)
            have HTO := Lib.hid hto
            clear hto CT'
            by_cases hu : p.ty.kind = 1
            · rw [show (p.ty.kind == 1) = true by rw [beq_iff_eq]; exact hu] at CU
              have HU := Lib.hid hu
              clear hu
              go_wp2_with fail
              go_at_call 28
              refine (CT2.out _ (HTR.out.below (below1 _ _)).1 (HM.out.keep (bnext HB.out (below1 _ _)))).mono ?_
              rintro e w5 ⟨rfl, hb5⟩
              have j1 := keepCell (a := ⟨wr.heap.size, 1, none⟩) (v := .int .i64 p.ty.kind) hb5 (by go_simp)
              have j2 := keepCell (a := ⟨wr.heap.size, 2, none⟩) (v := .string p.ty.name) hb5 (by go_simp)
              have j3 := keepCell (a := ⟨wr.heap.size, 3, none⟩) (v := .slice A' p.ty.labels.length ca') hb5 (by go_simp)
              have j4 := keepCell (a := ⟨wr.heap.size, 4, none⟩) (v := .slice B' p.ty.kids.length cb') hb5 (by go_simp)
              have HB5 := Lib.hid (bnext (below1 _ _) hb5)
              clear hb5
              go_wp2_with fail
              go_at_call 56
              refine (CU.out _).mono ?_
              rintro e w6 ⟨rfl, hb6⟩
              have HB6 := Lib.hid (bnext HB5.out hb6)
              clear hb6
              go_wp2_with fail
              go_ret
              exact ⟨false, rfl, iffF (fun h => (h.pm HPK.out).2.2.2 HU.out), bnext HB.out HB6.out⟩
            · rw [show (p.ty.kind == 1) = false by rw [beq_eq_false_iff_ne]; exact hu] at CU
              have HU := Lib.hid hu
              clear hu
              go_wp2_with fail
              go_at_call 28
              refine (CT2.out _ (HTR.out.below (below1 _ _)).1 (HM.out.keep (bnext HB.out (below1 _ _)))).mono ?_
              rintro e w5 ⟨rfl, hb5⟩
              have j0 := keepCell (a := ⟨wr.heap.size, 0, none⟩) (v := .string p.name) hb5 (by go_simp)
              have j1 := keepCell (a := ⟨wr.heap.size, 1, none⟩) (v := .int .i64 p.ty.kind) hb5 (by go_simp)
              have j2 := keepCell (a := ⟨wr.heap.size, 2, none⟩) (v := .string p.ty.name) hb5 (by go_simp)
              have j3 := keepCell (a := ⟨wr.heap.size, 3, none⟩) (v := .slice A' p.ty.labels.length ca') hb5 (by go_simp)
              have j4 := keepCell (a := ⟨wr.heap.size, 4, none⟩) (v := .slice B' p.ty.kids.length cb') hb5 (by go_simp)
              have HB5 := Lib.hid (bnext (below1 _ _) hb5)
              clear hb5
              go_wp2_with fail
              go_at_call 56
              refine (CU.out _).mono ?_
              rintro e w6 ⟨rfl, hb6⟩
              replace j0 := keepCell hb6 j0
              have HB6 := Lib.hid (bnext HB5.out hb6)
              clear hb6 j1 j2 j3 j4
              have HO6 : Hid (w6.ownsRow w.heap.size 9 1 (.slice R2 k c2) k ((pmNames (x.params.take k)).map Value.string)) := Lib.hid (hinv.out.2.kept (grown_of_below HB6.out) (Classical.em _))
              have hz6 : w.heap.size ≤ w6.heap.size := Nat.le_trans hbz HB6.out.size
              go_wp2_with (at_builtin; refine wpList_append_own _ rfl _ _ 22 rfl w.heap.size 9 i0 _ 1 16 Tryz.underlying22 hi hz0 hz1 hz2 rfl (by decide) (.slice R2 k c2) k ((pmNames (x.params.take k)).map Value.string) rfl (HO6.out.alloc _) ⟨w6.heap.size, 0, none⟩ 1 1 [.string p.name] rfl rfl ?c1 ?c2 ?c3 ?c4 ?c5 ?_)
              case c1 =>
                intro j u hu
                cases j with
                | zero =>
                  simp at hu
                  subst hu
                  simp [Addr.add]
                | succ n => simp at hu
              case c2 => simp [Value.oneCell']
              case c3 => unfold maxLen; omega
              case c4 => omega
              case c5 => simp; omega
              intro v1 w7 hown7 hgrow7 _
              obtain ⟨R7, cap7, rfl⟩ := own_form hown7
              have HB7 := Lib.hid ((bnext (bnext HB.out HB6.out) (below1 _ _)).grown hgrow7 (by simp; omega) (own_block_ge HO6.out))
              have HO7 := Lib.hid hown7
              clear hown7 hgrow7
              go_wp2_with fail
              go_roundw
              case rel =>
                exact ⟨k + 1, by omega, by go_num, ⟨R7, cap7, rfl, hinv.out.1.step HPK.out ⟨HTO.out, HU.out⟩, by
                  have h2 := HO7.out
                  rw [pmNames_take HPK.out, List.map_append]
                  exact h2⟩, HB7.out⟩
              case measure => simp [intOf]; omega
          · have CT2 := Lib.hid (fun W h hm => (CT' W h hm).mono fun _ _ k => k.no hto)
            have HTO := Lib.hid hto
            clear hto CT'
            go_wp2_with fail
            go_at_call 28
            refine (CT2.out _ (HTR.out.below (below1 _ _)).1 (HM.out.keep (bnext HB.out (below1 _ _)))).mono ?_
            rintro e w5 ⟨rfl, hb5⟩
            have HB5 := Lib.hid (bnext (below1 _ _) hb5)
            clear hb5
            go_wp2_with fail
            go_ret
            exact ⟨false, rfl, iffF (fun h => HTO.out (h.pm HPK.out).2.2.1), bnext HB.out HB5.out⟩
        · have hk' : k = x.params.length := by omega
          have HB := Lib.hid hbel
          have HPM : Hid (PmTo x.params x.params.length) := Lib.hid (by have h9 := hinv.out.1; rw [hk'] at h9; exact h9)
          have hpl : (pmNames x.params).length = k := by simp [pmNames, hk']
          have CD : Hid (Calls Tryz.prog 57 #[.slice R2 x.params.length c2] wr (SaysB (Names (pmNames x.params)) wr)) := Lib.hid (by
            have h9 := hinv.out.2
            rw [hk', List.take_length, ← hk'] at h9
            have h8 := distinct_any (pmNames x.params) HNS.out (by omega) R2 c2 w.heap.size wr (strs_own hpl h9) (HM.out.keep HB.out)
            rw [hpl, hk'] at h8
            exact h8)
          clear hbel
          go_wp2_with fail
          go_at_call 57
          refine CD.out.mono ?_
          rintro e w4 ⟨v, rfl, hv, hb4⟩
          have HV := Lib.hid hv
          have HB4 := Lib.hid (bnext HB.out hb4)
          clear hv hb4
          go_wp2_with fail
          go_ret
          exact ⟨v, rfl, ⟨fun h => ⟨by omega, HO.out, HB0.out, HPM.out, HV.out.mp h⟩, fun h => HV.out.mpr h.2.2.2.2⟩, HB4.out⟩
  · have CO' := Lib.hid (fun W h hm => (CO W h hm).mono fun _ _ k => k.no ho)
    have HO := Lib.hid ho
    clear ho CO CH
    go_enter Tryz.func37, Tryz.ntmps37
    go_wp2_with fail
    go_at_call 28
    refine (CO'.out _ (HR.out.below (below1 _ _)).1 (HM.out.keep (below1 _ _))).mono ?_
    rintro e w2 ⟨rfl, hb2⟩
    have HB2 := Lib.hid (bnext (below1 _ _) hb2)
    clear hb2
    go_wp2_with fail
    go_ret
    exact ⟨false, rfl, iffF (fun h => HO.out h.2.1), HB2.out⟩
end Go.Proofs.YtifchfecfkdjlaaGreatDoor

namespace Go.Proofs.YtifchfecfkdjlaaGreatDoor
open Go.ChangeShapes Go.WideShapes Go.ChangeAt Go.RowKit Go.Deep

theorem cells_far2 {W : World} {x g : Nat} (h : x ≠ g) {i : Nat} {a b : Value} : ((W.setCell ⟨g, 0, none⟩ a).setCell ⟨g, 1, none⟩ b).cell? ⟨x, i, none⟩ = W.cell? ⟨x, i, none⟩ := by
  have hn : ∀ j, (⟨x, i, none⟩ : Addr) ≠ ⟨g, j, none⟩ := fun j e => h (by injection e)
  simp only [World.cell?_setCell_other, ne_eq, not_false_eq_true, Ne.symm (hn _)]

set_option maxHeartbeats 4000000 in
set_option maxRecDepth 100000 in
theorem kid_any (n : Nat) (hn : n ≤ 4) (IH : TyR n) (a b x y : Ty) (i j : Nat) (hx : a.kids[i]? = some x) (hy : b.kids[j]? = some y) (gx : Gd n x) (gy : Gd n y) (_hk : a.kids.length ≤ 1000 ∧ b.kids.length ≤ 1000) (s : ByteArray) (hs : s.size ≤ 2000000) (A B A' B' : Option Addr) (ca cb ca' cb' : Nat) (w : World) (hat : Ty.Pl w 0 a A B) (hbt : Ty.Pl w 0 b A' B') (ht : RTable w) :
    Calls Tryz.prog 87 #[.agg #[.int .i64 a.kind, .string a.name, .slice A a.labels.length ca, .slice B a.kids.length cb, .int .i64 b.kind, .string b.name, .slice A' b.labels.length ca', .slice B' b.kids.length cb'], .int .i64 i, .int .i64 j, .string s] w (RsnPost (preR s (Ty.why n x y)) w) := by
  have hil : i < a.kids.length := (List.getElem?_eq_some_iff.1 hx).1
  have hjl : j < b.kids.length := (List.getElem?_eq_some_iff.1 hy).1
  obtain ⟨b1, o1, x', A1, B1, c1, d1, rfl, hb1, hx', hc⟩ := hat.rowP.at_ hil
  obtain ⟨b2, o2, y', A2, B2, c2, d2, rfl, hb2, hy', hd⟩ := hbt.rowP.at_ hjl
  obtain rfl : x = x' := Option.some.inj (hx.symm.trans hx')
  obtain rfl : y = y' := Option.some.inj (hy.symm.trans hy')
  have CT := Lib.hid (fun W h1 h2 h3 => IH x y gx gy A1 B1 A2 B2 c1 d1 c2 d2 W h1 h2 h3)
  have hro := Ty.why_small hn gx gy
  have CU := Lib.hid (fun W => under_any (Ty.why n x y) (hro.mono (by omega)) s (by omega) W)
  have HX := Lib.hid hc.tree
  have HY := Lib.hid hd.tree
  have HT := Lib.hid ht
  have l1 : b1 < w.heap.size := World.block_lt_of_cell? w _ hc.kind
  have l2 : b2 < w.heap.size := World.block_lt_of_cell? w _ hd.kind
  obtain ⟨c0, c1h, c2h, c3, _⟩ := hc
  obtain ⟨e0, e1, e2, e3, _⟩ := hd
  have q1 : (i : Int) < (a.kids.length : Int) := by omega
  have q2 : (j : Int) < (b.kids.length : Int) := by omega
  have q3 : (0 : Int) ≤ (i : Int) := by omega
  have q4 : (0 : Int) ≤ (j : Int) := by omega
  have k1 : b1 ≠ w.heap.size + 1 := by omega
  have k2 : b2 ≠ w.heap.size + 1 := by omega
  have k3 : w.heap.size ≠ w.heap.size + 1 := by omega
  generalize Ty.why n x y = R at *
  clear IH gx gy hx hy hx' hy' hat hbt ht hb1 hb2 hs hro hil hjl hn
  go_enter Tryz.func87, Tryz.ntmps87
  go_wp2_with fail
  obtain ⟨W, hW, hb, hz, p0, p1, r0, r1, rf⟩ : ∃ W, ((w.alloc (.cells #[.int .i64 a.kind, .string a.name, .slice A a.labels.length ca, .slice (some ⟨b1, o1, none⟩) a.kids.length cb, .int .i64 b.kind, .string b.name, .slice A' b.labels.length ca', .slice (some ⟨b2, o2, none⟩) b.kids.length cb'] 73)).alloc (.cells #[.int .i64 0, .string ⟨#[]⟩] 34)) = W ∧ Below w.heap.size w W ∧ W.heap.size = w.heap.size + 1 + 1 ∧ W.cell? ⟨w.heap.size, 3, none⟩ = some (.slice (some ⟨b1, o1, none⟩) a.kids.length cb) ∧ W.cell? ⟨w.heap.size, 7, none⟩ = some (.slice (some ⟨b2, o2, none⟩) b.kids.length cb') ∧ W.cell? ⟨w.heap.size + 1, 0, none⟩ = some (.int .i64 0) ∧ W.cell? ⟨w.heap.size + 1, 1, none⟩ = some (.string ⟨#[]⟩) ∧ ∀ o, W.frozen? ⟨w.heap.size + 1, o, none⟩ = false := ⟨_, rfl, below2 _ _ _, by simp, by go_simp, by go_simp, by go_simp, by go_simp, fun o => by go_simp⟩
  rw [hW]
  replace c0 := keepCell hb c0
  replace c1h := keepCell hb c1h
  replace c2h := keepCell hb c2h
  replace c3 := keepCell hb c3
  replace e0 := keepCell hb e0
  replace e1 := keepCell hb e1
  replace e2 := keepCell hb e2
  replace e3 := keepCell hb e3
  replace HX := Lib.hid (HX.out.keep (Kp.below hb).1)
  replace HY := Lib.hid (HY.out.keep (Kp.below hb).1)
  replace HT := Lib.hid (HT.out.keep hb)
  have HB := Lib.hid hb
  have RF := Lib.hid rf
  clear hW hb rf
  go_region_held3 (fun w' => w'.cell? ⟨w.heap.size, 3, none⟩ = some (.slice (some ⟨b1, o1, none⟩) a.kids.length cb) ∧ w'.cell? ⟨w.heap.size, 7, none⟩ = some (.slice (some ⟨b2, o2, none⟩) b.kids.length cb') ∧ w'.cell? ⟨b1, o1 + i * 4, none⟩ = some (.int .i64 x.kind) ∧ w'.cell? ⟨b1, o1 + i * 4 + 1, none⟩ = some (.string x.name) ∧ w'.cell? ⟨b1, o1 + i * 4 + 2, none⟩ = some (.slice A1 x.labels.length c1) ∧ w'.cell? ⟨b1, o1 + i * 4 + 3, none⟩ = some (.slice B1 x.kids.length d1) ∧ w'.cell? ⟨b2, o2 + j * 4, none⟩ = some (.int .i64 y.kind) ∧ w'.cell? ⟨b2, o2 + j * 4 + 1, none⟩ = some (.string y.name) ∧ w'.cell? ⟨b2, o2 + j * 4 + 2, none⟩ = some (.slice A2 y.labels.length c2) ∧ w'.cell? ⟨b2, o2 + j * 4 + 3, none⟩ = some (.slice B2 y.kids.length d2))
    (first | assumption | (exact ⟨p0, p1, c0, c1h, c2h, c3, e0, e1, e2, e3⟩) | (refine ⟨?_, ?_, ?_, ?_, ?_, ?_, ?_, ?_, ?_, ?_⟩ <;> first | assumption | ((with_reducible refine (cells_far2 (by assumption)).trans ?_); assumption)))
    (first
      | (go_at_call 32; refine (CT.out _ (HX.out.keep (Kp.below (Below.refl _ _).drew).1) (HY.out.keep (Kp.below (Below.refl _ _).drew).1) (HT.out.keep (Below.refl _ _).drew)).mono ?_; rintro e w3 ⟨rfl, hb3⟩; have hbw : Below W.heap.size W w3 := (Below.refl W.heap.size W).drew.trans hb3; have up0 := keepCell hbw p0; have up1 := keepCell hbw p1; have uc0 := keepCell hbw c0; have uc1h := keepCell hbw c1h; have uc2h := keepCell hbw c2h; have uc3 := keepCell hbw c3; have ue0 := keepCell hbw e0; have ue1 := keepCell hbw e1; have ue2 := keepCell hbw e2; have ue3 := keepCell hbw e3; have ur0 := keepCell hbw r0; have ur1 := keepCell hbw r1)
      | (go_at_call 60; refine (CU.out _).mono ?_; rintro e w4 ⟨rfl, hb4⟩; have hbx : Below W.heap.size W w4 := hbw.trans (hb4.mono hbw.size); have vp0 := keepCell hbx p0; have vp1 := keepCell hbx p1; have vc0 := keepCell hbx c0; have vc1h := keepCell hbx c1h; have vc2h := keepCell hbx c2h; have vc3 := keepCell hbx c3; have ve0 := keepCell hbx e0; have ve1 := keepCell hbx e1; have ve2 := keepCell hbx e2; have ve3 := keepCell hbx e3; have vr0 := keepCell hbx r0; have vr1 := keepCell hbx r1; have vf : w4.frozen? ⟨w.heap.size + 1, 0, none⟩ = false := ((bcell hbx).2 _ _ (by omega)).trans (RF.out _); have vg : w4.frozen? ⟨w.heap.size + 1, 1, none⟩ = false := ((bcell hbx).2 _ _ (by omega)).trans (RF.out _)))
  go_wp2_with fail
  exact bodyPost_ret (v := .agg #[.int .i64 (rk (preR s R)), .string (ra (preR s R))]) (by simp [results, Tryz.results87, go_sem, vr0, vr1]) rfl ⟨rfl, by (first | (with_reducible exact bnext HB.out hbx) | ((with_reducible refine Below.setCell (bnext HB.out hbx) ?_ _) <;> (first | exact Nat.le_refl _ | exact Nat.le_add_right _ _ | (dsimp only; omega) | (simp; omega))) | ((with_reducible refine Below.setCell (Below.setCell (bnext HB.out hbx) ?_ _) ?_ _) <;> (first | exact Nat.le_refl _ | exact Nat.le_add_right _ _ | (dsimp only; omega) | (simp; omega))) | ((with_reducible refine Below.setCell (Below.setCell (Below.setCell (bnext HB.out hbx) ?_ _) ?_ _) ?_ _) <;> (first | exact Nat.le_refl _ | exact Nat.le_add_right _ _ | (dsimp only; omega) | (simp; omega))))⟩
end Go.Proofs.YtifchfecfkdjlaaGreatDoor

