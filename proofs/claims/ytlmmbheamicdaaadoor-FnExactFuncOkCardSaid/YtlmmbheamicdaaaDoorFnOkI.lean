/-
  The walk of the program's FuncOk.
-/
import Derived.Test.YtlmmbheamicdaaaDoorFnOkS
import Derived.Test.YtlmmbheamicdaaaDoorTyBorrowI
import Derived.OwnWalk
import Derived.Laws.AppendOwn
import Derived.Laws.OwnMore
namespace Go.Proofs.YtlmmbheamicdaaaDoor
open Go.ChangeShapes Go.WideShapes Go.ChangeAt Go.RowKit Go.Deep

theorem strCells_get {xs : List ByteArray} {i : Nat} {s : ByteArray} (h : xs[i]? = some s) : (xs.map Value.string)[i]? = some (.string s) := by simp [h]
/-- A row of strings of its own is a list of strings in memory. -/
theorem strs_own {w : World} {base m c : Nat} {R : Option Addr} {xs : List ByteArray} (hm : xs.length = m) (hown : w.ownsRow base 9 1 (.slice R m c) m (xs.map Value.string)) : Strs w base xs R := fun hp => by
  subst hm
  rcases hown.2 with ⟨e1, e2⟩ | ⟨g, cap', cur, e1, e2, e3, e4, _⟩
  · omega
  · injection e1 with e5 e6 e7
    subst e5
    refine ⟨g, 0, rfl, e2, fun i s hs => ?_⟩
    have hi := (List.getElem?_eq_some_iff.1 hs).1
    rw [Nat.zero_add, hown.cellAt i (by omega)]
    exact strCells_get hs

theorem pmNames_take {ps : List Pm} {k : Nat} {p : Pm} (h : ps[k]? = some p) : pmNames (ps.take (k + 1)) = pmNames (ps.take k) ++ [p.name] := by
  obtain ⟨hi, rfl⟩ := List.getElem?_eq_some_iff.1 h
  rw [List.take_succ_eq_append_getElem hi]
  unfold pmNames
  rw [List.map_append]
  rfl

set_option maxHeartbeats 4000000 in
set_option maxRecDepth 100000 in
theorem implFuncOk_any (x : Fn) (hT : x.wt ≤ 1048576) (R A B : Option Addr) (c ca cb lo : Nat) (w : World) (hat : Fn.At w lo x R A B) (hm : MaxC w) :
    Calls Tryd.prog 7 #[.agg #[.slice R x.params.length c, .int .i64 x.res.kind, .string x.res.name, .slice A x.res.labels.length ca, .slice B x.res.kids.length cb, .bool x.async]] w (SaysB (Fn.Ok x) w) := by
  obtain ⟨q1, q2, _⟩ := Fn.parts_le hT
  obtain ⟨h1, h2⟩ := hat
  have HP := Lib.hid h1
  have HR := Lib.hid h2
  have HM := Lib.hid hm
  have CO := fun W h hm => implTypeOk_any x.res lo q2 A B ca cb W h hm
  have CH := fun W h hm => implBorrow_any x.res lo q2 A B ca cb W h hm
  have hpw : ∀ (i : Nat) (p : Pm), x.params[i]? = some p → p.ty.wt ≤ 1048576 ∧ p.name.size ≤ 1048576 := fun i p hp => by
    have e1 := Pm.wt_mem hp
    obtain ⟨e2, e3, _⟩ := Pm.parts_le (x := p) (by omega)
    exact ⟨e3, by omega⟩
  have HNS : Hid (∀ s ∈ pmNames x.params, s.size ≤ 1048576) := Lib.hid (fun s hs => by
    obtain ⟨i, hi⟩ := List.getElem?_of_mem hs
    simp only [pmNames, List.getElem?_map, Option.map_eq_some_iff] at hi
    obtain ⟨p, hp, rfl⟩ := hi
    exact (hpw i p hp).2)
  have CT : Hid (∀ (i : Nat) (p : Pm), x.params[i]? = some p → ∀ A B ca cb W, Ty.At W lo p.ty A B → MaxC W → Calls Tryd.prog 14 #[.agg #[.int .i64 p.ty.kind, .string p.ty.name, .slice A p.ty.labels.length ca, .slice B p.ty.kids.length cb]] W (SaysB p.ty.Ok W)) := Lib.hid (fun i p hp A B ca cb W h hm => implTypeOk_any p.ty lo (hpw i p hp).1 A B ca cb W h hm)
  clear h1 h2 hT hpw hm
  by_cases hlen : 6 < x.params.length
  · have hlen' : (6 : Int) < (x.params.length : Int) := by omega
    clear CO CH
    go_enter Tryd.func7, Tryd.ntmps7
    go_wp2_with fail
    go_ret
    exact ⟨false, rfl, iffF (fun h => by have := h.1; omega), below1 _ _⟩
  have hlen' : ¬ (6 : Int) < (x.params.length : Int) := by omega
  by_cases ho : x.res.Ok
  · have CO' := Lib.hid (fun W h hm => (CO W h hm).mono fun _ _ k => k.yes ho)
    have HO := Lib.hid ho
    clear CO
    by_cases hb : BorrowIn x.res
    · have CH' := Lib.hid (fun W h hm => (CH W h hm).mono fun _ _ k => k.yes hb)
      have HB0 := Lib.hid hb
      clear hb ho CH
      go_enter Tryd.func7, Tryd.ntmps7
      go_wp2_with fail
      go_at_call 14
      refine (CO'.out _ (HR.out.below (below1 _ _)) (HM.out.keep (below1 _ _))).mono ?_
      rintro e w2 ⟨rfl, hb2⟩
      have k1 := keepCell (a := ⟨w.heap.size, 1, none⟩) (v := .int .i64 x.res.kind) hb2 (by go_simp)
      have k2 := keepCell (a := ⟨w.heap.size, 2, none⟩) (v := .string x.res.name) hb2 (by go_simp)
      have k3 := keepCell (a := ⟨w.heap.size, 3, none⟩) (v := .slice A x.res.labels.length ca) hb2 (by go_simp)
      have k4 := keepCell (a := ⟨w.heap.size, 4, none⟩) (v := .slice B x.res.kids.length cb) hb2 (by go_simp)
      have HB2 := Lib.hid (bnext (below1 _ _) hb2)
      clear hb2
      go_wp2_with fail
      go_at_call 15
      refine (CH'.out _ (HR.out.below HB2.out) (HM.out.keep HB2.out)).mono ?_
      rintro e w3 ⟨rfl, hb3⟩
      have HB3 := Lib.hid (bnext HB2.out hb3)
      clear hb3
      go_wp2_with fail
      go_ret
      exact ⟨false, rfl, iffF (fun h => by have h9 := h.2.2.1; rw [HB0.out.2] at h9; cases h9), HB3.out⟩
    · have CH' := Lib.hid (fun W h hm => (CH W h hm).mono fun _ _ k => k.no hb)
      have HB0 : Hid (x.res.has (inB 21 21) = false) := Lib.hid (by
        cases e : x.res.has (inB 21 21) with
        | true => exact absurd ⟨ho, e⟩ hb
        | false => rfl)
      clear hb ho CH
      obtain ⟨i0, hi, hz0, hz1, hz2⟩ := info_parts infoString
      go_enter Tryd.func7, Tryd.ntmps7
      go_wp2_with fail
      go_at_call 14
      refine (CO'.out _ (HR.out.below (below1 _ _)) (HM.out.keep (below1 _ _))).mono ?_
      rintro e w2 ⟨rfl, hb2⟩
      have k0 := keepCell (a := ⟨w.heap.size, 0, none⟩) (v := .slice R x.params.length c) hb2 (by go_simp)
      have k1 := keepCell (a := ⟨w.heap.size, 1, none⟩) (v := .int .i64 x.res.kind) hb2 (by go_simp)
      have k2 := keepCell (a := ⟨w.heap.size, 2, none⟩) (v := .string x.res.name) hb2 (by go_simp)
      have k3 := keepCell (a := ⟨w.heap.size, 3, none⟩) (v := .slice A x.res.labels.length ca) hb2 (by go_simp)
      have k4 := keepCell (a := ⟨w.heap.size, 4, none⟩) (v := .slice B x.res.kids.length cb) hb2 (by go_simp)
      have HB2 := Lib.hid (bnext (below1 _ _) hb2)
      clear hb2
      go_wp2_with fail
      go_at_call 15
      refine (CH'.out _ (HR.out.below HB2.out) (HM.out.keep HB2.out)).mono ?_
      rintro e w3 ⟨rfl, hb3⟩
      replace k0 := keepCell hb3 k0
      have HB3 := Lib.hid (bnext HB2.out hb3)
      clear hb3 k1 k2 k3 k4 CH' CO'
      go_wp2_with fail
      go_loopw [3, 24] (fun s i wr => ∃ k : Nat, k ≤ x.params.length ∧ i = .int .i64 k ∧ (∃ (R2 : Option Addr) (c2 : Nat), s = .slice R2 k c2 ∧ Hid (PmTo x.params k ∧ wr.ownsRow w.heap.size 9 1 (.slice R2 k c2) k ((pmNames (x.params.take k)).map Value.string))) ∧ Below w.heap.size w wr) (fun _ i _ => x.params.length - (intOf i).toNat)
      case atStart => exact ⟨0, Nat.zero_le _, rfl, ⟨none, 0, rfl, (fun i u hi => by omega), World.ownsRow_nil _ _ _ _⟩, HB3.out⟩
      case round =>
        obtain ⟨k, hk, rfl, ⟨R2, c2, rfl, hinv⟩, hbel⟩ := hrel
        clear k0
        by_cases hlt : k < x.params.length
        · obtain ⟨b, o, p, A', B', ca', cb', rfl, _, hpk, hc⟩ := (HP.out.below hbel).at_ hlt
          have CT' := CT.out k p hpk A' B' ca' cb'
          have CU := Lib.hid (fun W => isUnit_any p.ty.kind p.ty.name A' B' p.ty.labels.length p.ty.kids.length ca' cb' W)
          have HTR := Lib.hid hc.at_
          have HPK := Lib.hid hpk
          obtain ⟨c0, c1, c2', c3, c4, _⟩ := hc
          have lb : b < wr.heap.size := World.block_lt_of_cell? wr _ c0
          have HB := Lib.hid hbel
          have hbz := hbel.size
          have hli : (k : Int) < (x.params.length : Int) := by omega
          clear hpk hbel
          by_cases hto : p.ty.Ok
          · have CT2 := Lib.hid (fun W h hm => (CT' W h hm).mono fun _ _ k => k.yes hto)
            have HTO := Lib.hid hto
            clear hto CT'
            by_cases hu : p.ty.kind = 1
            · rw [show (p.ty.kind == 1) = true by rw [beq_iff_eq]; exact hu] at CU
              have HU := Lib.hid hu
              clear hu
              go_wp2_with fail
              go_at_call 14
              refine (CT2.out _ (HTR.out.below (below1 _ _)) (HM.out.keep (bnext HB.out (below1 _ _)))).mono ?_
              rintro e w5 ⟨rfl, hb5⟩
              have j1 := keepCell (a := ⟨wr.heap.size, 1, none⟩) (v := .int .i64 p.ty.kind) hb5 (by go_simp)
              have j2 := keepCell (a := ⟨wr.heap.size, 2, none⟩) (v := .string p.ty.name) hb5 (by go_simp)
              have j3 := keepCell (a := ⟨wr.heap.size, 3, none⟩) (v := .slice A' p.ty.labels.length ca') hb5 (by go_simp)
              have j4 := keepCell (a := ⟨wr.heap.size, 4, none⟩) (v := .slice B' p.ty.kids.length cb') hb5 (by go_simp)
              have HB5 := Lib.hid (bnext (below1 _ _) hb5)
              clear hb5
              go_wp2_with fail
              go_at_call 16
              refine (CU.out _).mono ?_
              rintro e w6 ⟨rfl, hb6⟩
              have HB6 := Lib.hid (bnext HB5.out hb6)
              clear hb6
              go_wp2_with fail
              go_ret
              exact ⟨false, rfl, iffF (fun h => (h.pm HPK.out).2.2.2 HU.out), bnext HB.out HB6.out⟩
            · rw [show (p.ty.kind == 1) = false by rw [beq_eq_false_iff_ne]; exact hu] at CU
              have HU := Lib.hid hu
              clear hu
              go_wp2_with fail
              go_at_call 14
              refine (CT2.out _ (HTR.out.below (below1 _ _)) (HM.out.keep (bnext HB.out (below1 _ _)))).mono ?_
              rintro e w5 ⟨rfl, hb5⟩
              have j0 := keepCell (a := ⟨wr.heap.size, 0, none⟩) (v := .string p.name) hb5 (by go_simp)
              have j1 := keepCell (a := ⟨wr.heap.size, 1, none⟩) (v := .int .i64 p.ty.kind) hb5 (by go_simp)
              have j2 := keepCell (a := ⟨wr.heap.size, 2, none⟩) (v := .string p.ty.name) hb5 (by go_simp)
              have j3 := keepCell (a := ⟨wr.heap.size, 3, none⟩) (v := .slice A' p.ty.labels.length ca') hb5 (by go_simp)
              have j4 := keepCell (a := ⟨wr.heap.size, 4, none⟩) (v := .slice B' p.ty.kids.length cb') hb5 (by go_simp)
              have HB5 := Lib.hid (bnext (below1 _ _) hb5)
              clear hb5
              go_wp2_with fail
              go_at_call 16
              refine (CU.out _).mono ?_
              rintro e w6 ⟨rfl, hb6⟩
              replace j0 := keepCell hb6 j0
              have HB6 := Lib.hid (bnext HB5.out hb6)
              clear hb6 j1 j2 j3 j4
              have HO6 : Hid (w6.ownsRow w.heap.size 9 1 (.slice R2 k c2) k ((pmNames (x.params.take k)).map Value.string)) := Lib.hid (hinv.out.2.kept (grown_of_below HB6.out) (Classical.em _))
              have hz6 : w.heap.size ≤ w6.heap.size := Nat.le_trans hbz HB6.out.size
              go_wp2_with (at_builtin; refine wpList_append_own _ rfl _ _ 23 rfl w.heap.size 9 i0 _ 1 16 Tryd.underlying23 hi hz0 hz1 hz2 rfl (by decide) (.slice R2 k c2) k ((pmNames (x.params.take k)).map Value.string) rfl (HO6.out.alloc _) ⟨w6.heap.size, 0, none⟩ 1 1 [.string p.name] rfl rfl ?c1 ?c2 ?c3 ?c4 ?c5 ?_)
              case c1 =>
                intro j u hu
                cases j with
                | zero =>
                  simp at hu
                  subst hu
                  simp [Addr.add]
                | succ n => simp at hu
              case c2 => simp [Value.oneCell']
              case c3 => unfold maxLen; omega
              case c4 => omega
              case c5 => simp; omega
              intro v1 w7 hown7 hgrow7 _
              obtain ⟨R7, cap7, rfl⟩ := own_form hown7
              have HB7 := Lib.hid ((bnext (bnext HB.out HB6.out) (below1 _ _)).grown hgrow7 (by simp; omega) (own_block_ge HO6.out))
              have HO7 := Lib.hid hown7
              clear hown7 hgrow7
              go_wp2_with fail
              go_roundw
              case rel =>
                exact ⟨k + 1, by omega, by go_num, ⟨R7, cap7, rfl, hinv.out.1.step HPK.out ⟨HTO.out, HU.out⟩, by
                  have h2 := HO7.out
                  rw [pmNames_take HPK.out, List.map_append]
                  exact h2⟩, HB7.out⟩
              case measure => simp [intOf]; omega
          · have CT2 := Lib.hid (fun W h hm => (CT' W h hm).mono fun _ _ k => k.no hto)
            have HTO := Lib.hid hto
            clear hto CT'
            go_wp2_with fail
            go_at_call 14
            refine (CT2.out _ (HTR.out.below (below1 _ _)) (HM.out.keep (bnext HB.out (below1 _ _)))).mono ?_
            rintro e w5 ⟨rfl, hb5⟩
            have HB5 := Lib.hid (bnext (below1 _ _) hb5)
            clear hb5
            go_wp2_with fail
            go_ret
            exact ⟨false, rfl, iffF (fun h => HTO.out (h.pm HPK.out).2.2.1), bnext HB.out HB5.out⟩
        · have hk' : k = x.params.length := by omega
          have HB := Lib.hid hbel
          have HPM : Hid (PmTo x.params x.params.length) := Lib.hid (by have h9 := hinv.out.1; rw [hk'] at h9; exact h9)
          have hpl : (pmNames x.params).length = k := by simp [pmNames, hk']
          have CD : Hid (Calls Tryd.prog 17 #[.slice R2 x.params.length c2] wr (SaysB (Names (pmNames x.params)) wr)) := Lib.hid (by
            have h9 := hinv.out.2
            rw [hk', List.take_length, ← hk'] at h9
            have h8 := distinct_any (pmNames x.params) HNS.out (by omega) R2 c2 w.heap.size wr (strs_own hpl h9) (HM.out.keep HB.out)
            rw [hpl, hk'] at h8
            exact h8)
          clear hbel
          go_wp2_with fail
          go_at_call 17
          refine CD.out.mono ?_
          rintro e w4 ⟨v, rfl, hv, hb4⟩
          have HV := Lib.hid hv
          have HB4 := Lib.hid (bnext HB.out hb4)
          clear hv hb4
          go_wp2_with fail
          go_ret
          exact ⟨v, rfl, ⟨fun h => ⟨by omega, HO.out, HB0.out, HPM.out, HV.out.mp h⟩, fun h => HV.out.mpr h.2.2.2.2⟩, HB4.out⟩
  · have CO' := Lib.hid (fun W h hm => (CO W h hm).mono fun _ _ k => k.no ho)
    have HO := Lib.hid ho
    clear ho CO CH
    go_enter Tryd.func7, Tryd.ntmps7
    go_wp2_with fail
    go_at_call 14
    refine (CO'.out _ (HR.out.below (below1 _ _)) (HM.out.keep (below1 _ _))).mono ?_
    rintro e w2 ⟨rfl, hb2⟩
    have HB2 := Lib.hid (bnext (below1 _ _) hb2)
    clear hb2
    go_wp2_with fail
    go_ret
    exact ⟨false, rfl, iffF (fun h => HO.out h.2.1), HB2.out⟩
end Go.Proofs.YtlmmbheamicdaaaDoor
