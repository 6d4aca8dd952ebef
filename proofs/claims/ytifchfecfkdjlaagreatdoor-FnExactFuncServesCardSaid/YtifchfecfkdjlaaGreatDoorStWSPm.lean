/-
  Walks of measuring, copying and comparing slices of Param.
-/
import Derived.Test.YtifchfecfkdjlaaGreatDoorMH
namespace Go.Proofs.YtifchfecfkdjlaaGreatDoor
open Go.ChangeShapes Go.WideShapes Go.ChangeAt Go.RowKit Go.Deep


theorem szParamS_any (xs : List Pm) (hl : xs.length ≤ maxLen) (hf : ∀ x ∈ xs, x.Fin) (left : Int) (h0 : 0 ≤ left) (h1 : left ≤ 1048576) (R : Option Addr) (cap lo : Nat) (w : World) (h : Pms w lo xs R) :
    Calls Tryz.prog 33 #[.slice R xs.length cap, .int .i64 left] w fun e w' => e = .returned (.int .i64 (leftOr (left - ((xs.length : Int) + Pm.wts xs)))) ∧ Below w.heap.size w w' := by
  unfold maxLen at hl
  have hsum := Pm.wts_nonneg xs
  have H := Lib.hid h
  have HF := Lib.hid hf
  clear h hf
  by_cases hn : left - (xs.length : Int) < 0
  · have hr := leftOr_neg (n := left - ((xs.length : Int) + Pm.wts xs)) (by omega)
    rw [hr]
    go_enter Tryz.func33, Tryz.ntmps33
    go_wp2
    go_ret
    exact ⟨rfl, Below.refl _ _⟩
  · have hn' : (xs.length : Int) ≤ left := by omega
    obtain ⟨Q, hR⟩ : ∃ Q, leftOr (left - ((xs.length : Int) + Pm.wts xs)) = Q := ⟨_, rfl⟩
    rw [hR]
    have HR := Lib.hid hR
    clear hR hn
    go_enter Tryz.func33, Tryz.ntmps33
    go_wp2
    go_loopw [1, 5] (fun l i wr => ∃ k : Nat, k ≤ xs.length ∧ i = .int .i64 k ∧ ∃ M : Int, l = .int .i64 M ∧ 0 ≤ M ∧ M ≤ 1048576 ∧ Hid (M = left - xs.length - Pm.wts (xs.take k)) ∧ Below w.heap.size w wr) (fun _ i _ => xs.length - (intOf i).toNat)
    case atStart => exact ⟨0, Nat.zero_le _, rfl, _, rfl, by omega, by omega, by simp [Hid, Pm.wts], Below.refl _ _⟩
    case round =>
      obtain ⟨k, hk, rfl, M, rfl, M0, M1, hM, hbel⟩ := hrel
      by_cases hlt : k < xs.length
      · obtain ⟨b, o, x, Aty, Bty, cty, dty, rfl, _, hxk, hc⟩ := (H.out.below hbel).at_ hlt
        have C := Lib.hid (szParam_any x (HF.out x (List.mem_of_getElem? hxk)) M M0 M1 Aty Bty cty dty lo wr hc.at_)
        have HST := Lib.hid (Pm.wts_take hxk)
        have hle := Pm.wts_take_le xs (k + 1)
        obtain ⟨c0, c1, c2, c3, c4, _⟩ := hc
        have HB := Lib.hid hbel
        have hlc := hbel.size
        have hwt := x.wt_nonneg
        clear hxk hbel
        generalize x.wt = wt at *
        by_cases hneg : M - wt < 0
        · have e := leftOr_neg hneg
          rw [e] at C
          go_wp2_with (go_at_call 52; (with_reducible refine C.out.mono ?_); rintro e wx ⟨rfl, hbx⟩)
          go_ret
          refine ⟨ret_int ?_, bchain HB.out hbx hlc⟩
          rw [← HR.out, leftOr_neg]
          have := hM.out
          have := HST.out
          omega
        · have e := leftOr_pos (n := M - wt) (by omega)
          rw [e] at C
          have hneg' : 0 ≤ M - wt := by omega
          clear hneg e
          obtain ⟨M', hM'⟩ : ∃ M', M - wt = M' := ⟨_, rfl⟩
          rw [hM'] at C hneg'
          have HM := Lib.hid hM'
          have hM1 : M' ≤ 1048576 := by omega
          clear hM'
          go_wp2_with (go_at_call 52; (with_reducible refine C.out.mono ?_); rintro e wx ⟨rfl, hbx⟩)
          go_roundw
          case rel => exact ⟨k + 1, by omega, by go_num, _, rfl, by omega, by omega, by have := hM.out; have := HST.out; have := HM.out; simp only [Hid]; omega, bchain HB.out hbx hlc⟩
          case measure => simp [intOf]; omega
      · have hk' : k = xs.length := by omega
        go_wp2
        go_ret
        refine ⟨ret_int ?_, hbel⟩
        have e := hM.out
        rw [hk', List.take_length] at e
        rw [← HR.out, leftOr_pos (by omega)]
        omega

/-- One element in a row that is being made. -/
def Pm.El (w : World) (lo : Nat) (f : Nat → Value) (x : Pm) : Prop := ∃ (Aty : Option Addr), ∃ (Bty : Option Addr), ∃ (cty : Nat), ∃ (dty : Nat), (f 0 = .string x.name ∧ f 1 = .int .i64 x.ty.kind ∧ f 2 = .string x.ty.name ∧ f 3 = .slice Aty x.ty.labels.length cty ∧ f 4 = .slice Bty x.ty.kids.length dty) ∧ Pm.At w lo x Aty Bty
theorem Pm.El.keep {w w' : World} {lo : Nat} {f : Nat → Value} {x : Pm} (hk : KeptFrom lo w w') (h : Pm.El w lo f x) : Pm.El w' lo f x := by
  obtain ⟨Aty, Bty, cty, dty, hc, ht⟩ := h
  exact ⟨_, _, _, _, hc, ht.keep hk⟩
theorem Pms.of_row {g : Nat} {xs : List Pm} {wr : World} (h : RowGen Pm.El 79 5 g xs.length xs.length xs wr) : Pms wr g xs (some ⟨g, 0, none⟩) := fun _ => by
  obtain ⟨f, hr, hf⟩ := h
  refine ⟨g, 0, rfl, Nat.le_refl _, fun i x hx => ?_⟩
  have hi := (List.getElem?_eq_some_iff.1 hx).1
  obtain ⟨Aty, Bty, cty, dty, ⟨e0, e1, e2, e3, e4⟩, ht⟩ := hf i x hi hx
  rw [Nat.zero_add]
  exact ⟨_, _, _, _, by rw [hr.cell (by omega)]; exact congrArg some e0, by rw [hr.cell (by omega)]; exact congrArg some e1, by rw [hr.cell (by omega)]; exact congrArg some e2, by rw [hr.cell (by omega)]; exact congrArg some e3, by rw [hr.cell (by omega)]; exact congrArg some e4, ht.low (by omega)⟩
theorem infoParam : (Tryz.prog.info? 79).map (fun i => (i.zero, i.size, decide (i.bytes ≤ 4096))) = some (some (.agg #[.string ⟨#[]⟩, .int .i64 0, .string ⟨#[]⟩, .slice none 0 0, .slice none 0 0]), 5, true) := by kernel_rfl
set_option maxRecDepth 100000 in
theorem toParamS_any (xs : List Pm) (hl : xs.length ≤ 1048576) (hw : ∀ (i : Nat) (x : Pm), xs[i]? = some x → x.wt ≤ 1048576) (R : Option Addr) (cap lo : Nat) (w : World) (h : Pms w lo xs R) :
    Calls Tryz.prog 36 #[.slice R xs.length cap] w fun e w' => ∃ (R' : Option Addr) (c' : Nat), e = .returned (.slice R' xs.length c') ∧ Pms w' w.heap.size xs R' ∧ Below w.heap.size w w' := by
  have H := Lib.hid h
  have HW := Lib.hid hw
  clear h hw
  have hmk := fun W => make_row W 43 79 5 _ Tryz.underlying43 infoParam xs.length hl
  go_enter Tryz.func36, Tryz.ntmps36
  go_wp2
  go_loopw [4] (fun i wr => ∃ k : Nat, k ≤ xs.length ∧ i = .int .i64 k ∧ RowGen Pm.El 79 5 w.heap.size xs.length k xs wr ∧ Below w.heap.size w wr) (fun i _ => xs.length - (intOf i).toNat)
  case atStart => exact ⟨0, Nat.zero_le _, rfl, RowGen.start (size_madeCells _ _), below1 _ _⟩
  case round =>
    obtain ⟨k, hk, rfl, hrow, hbel⟩ := hrel
    clear hmk
    by_cases hlt : k < xs.length
    · obtain ⟨b, o, x, Aty, Bty, cty, dty, rfl, _, hxk, hc⟩ := (H.out.below hbel).at_ hlt
      have C := Lib.hid (toParam_any x (HW.out k x hxk) Aty Bty cty dty lo wr hc.at_)
      obtain ⟨c0, c1, c2, c3, c4, _⟩ := hc
      have HB := Lib.hid hbel
      have HR := Lib.hid hrow
      have HT := Lib.hid hxk
      have hlc := hbel.size
      have hgl := hrow.lt
      clear hxk hbel hrow
      go_wp2_with fail
      go_at_call 54
      refine C.out.mono ?_
      rintro e w2 ⟨Atyz, Btyz, ctyz, dtyz, rfl, hat, hb2⟩
      have HR2 := Lib.hid (HR.out.below (E := Pm.El) Pm.El.keep hb2)
      have HA2 := Lib.hid (hat.low (lo' := w.heap.size + 1) hgl)
      obtain ⟨x0, y0⟩ := HR2.out.cells hlt 0 (by omega)
      have z0 := HR2.out.free (k * 5)
      obtain ⟨x1, y1⟩ := HR2.out.cells hlt 1 (by omega)
      have z1 := HR2.out.free (k * 5 + 1)
      obtain ⟨x2, y2⟩ := HR2.out.cells hlt 2 (by omega)
      have z2 := HR2.out.free (k * 5 + 2)
      obtain ⟨x3, y3⟩ := HR2.out.cells hlt 3 (by omega)
      have z3 := HR2.out.free (k * 5 + 3)
      obtain ⟨x4, y4⟩ := HR2.out.cells hlt 4 (by omega)
      have z4 := HR2.out.free (k * 5 + 4)
      rw [Nat.add_zero] at y0
      have hlt2 : w.heap.size < w2.heap.size := Nat.lt_of_lt_of_le hgl hb2.size
      have HB2 := Lib.hid (bchain HB.out hb2 hlc)
      clear hat hb2
      go_wp2_with fail
      go_roundw
      case rel =>
        refine ⟨k + 1, by omega, by go_num, RowGen.step (E := Pm.El) Pm.El.keep HR2.out HT.out [.string x.name, .int .i64 x.ty.kind, .string x.ty.name, .slice Atyz x.ty.labels.length ctyz, .slice Btyz x.ty.kids.length dtyz] rfl ⟨_, _, _, _, ⟨rfl, rfl, rfl, rfl, rfl⟩, HA2.out⟩, ?_⟩
        (repeat (with_reducible refine Below.setCell ?_ (by simp) _))
        exact HB2.out
      case measure => simp [intOf]; omega
    · have hk' : k = xs.length := by omega
      have HR := Lib.hid hrow
      have HB := Lib.hid hbel
      clear hrow hbel
      go_wp2
      go_ret
      refine ⟨_, _, rfl, Pms.of_row ?_, HB.out⟩
      have := HR.out
      rw [hk'] at this
      exact this

theorem eqParamS_any (xs : List Pm) (hl : xs.length ≤ 1048576) (hw : ∀ (i : Nat) (x : Pm), xs[i]? = some x → x.wt ≤ 1048576) (R R' : Option Addr) (cap cap' lo lo' : Nat) (w : World) (h : Pms w lo xs R) (h' : Pms w lo' xs R') :
    Calls Tryz.prog 38 #[.slice R xs.length cap, .slice R' xs.length cap'] w fun e w' => e = .returned (.bool true) ∧ Below w.heap.size w w' := by
  have H := Lib.hid h
  have H' := Lib.hid h'
  have HW := Lib.hid hw
  clear h h' hw
  go_enter Tryz.func38, Tryz.ntmps38
  go_wp2
  go_loopw [5] (fun i wr => ∃ k : Nat, k ≤ xs.length ∧ i = .int .i64 k ∧ Below w.heap.size w wr) (fun i _ => xs.length - (intOf i).toNat)
  case atStart => exact ⟨0, Nat.zero_le _, rfl, Below.refl _ _⟩
  case round =>
    obtain ⟨k, hk, rfl, hbel⟩ := hrel
    by_cases hlt : k < xs.length
    · obtain ⟨b, o, x, Aty, Bty, cty, dty, rfl, _, hxk, hc⟩ := (H.out.below hbel).at_ hlt
      obtain ⟨b', o', x', Aty', Bty', cty', dty', rfl, _, hxk', hc'⟩ := (H'.out.below hbel).at_ hlt
      obtain rfl : x = x' := by
        rw [hxk] at hxk'
        exact Option.some.inj hxk'
      have C : Hid (∀ n : Nat, Calls Tryz.prog 58 #[.agg #[.string x.name, .int .i64 x.ty.kind, .string x.ty.name, .slice Aty x.ty.labels.length cty, .slice Bty x.ty.kids.length dty], .agg #[.string x.name, .int .i64 x.ty.kind, .string x.ty.name, .slice Aty' x.ty.labels.length cty', .slice Bty' x.ty.kids.length dty']] (wr.drewN n) fun e w' => e = .returned (.bool true) ∧ Below wr.heap.size (wr.drewN n) w') := Lib.hid (fun n => eqParam_any x (HW.out k x hxk) Aty Bty cty dty Aty' Bty' cty' dty' lo lo' (wr.drewN n) (hc.at_.below (belowN (Below.refl _ _) n)) (hc'.at_.below (belowN (Below.refl _ _) n)))
      obtain ⟨c0, c1, c2, c3, c4, _⟩ := hc
      obtain ⟨d0, d1, d2, d3, d4, _⟩ := hc'
      have HB := Lib.hid hbel
      have hli : (k : Int) < (xs.length : Int) := by omega
      clear hxk hxk' hbel
      go_wp2_with fail
      go_region_held3 (fun w' => w'.cell? ⟨b, o + k * 5, none⟩ = some (.string x.name) ∧ w'.cell? ⟨b, o + k * 5 + 1, none⟩ = some (.int .i64 x.ty.kind) ∧ w'.cell? ⟨b, o + k * 5 + 2, none⟩ = some (.string x.ty.name) ∧ w'.cell? ⟨b, o + k * 5 + 3, none⟩ = some (.slice Aty x.ty.labels.length cty) ∧ w'.cell? ⟨b, o + k * 5 + 4, none⟩ = some (.slice Bty x.ty.kids.length dty) ∧ w'.cell? ⟨b', o' + k * 5, none⟩ = some (.string x.name) ∧ w'.cell? ⟨b', o' + k * 5 + 1, none⟩ = some (.int .i64 x.ty.kind) ∧ w'.cell? ⟨b', o' + k * 5 + 2, none⟩ = some (.string x.ty.name) ∧ w'.cell? ⟨b', o' + k * 5 + 3, none⟩ = some (.slice Aty' x.ty.labels.length cty') ∧ w'.cell? ⟨b', o' + k * 5 + 4, none⟩ = some (.slice Bty' x.ty.kids.length dty') ∧ Below wr.heap.size wr w')
        (first | assumption | (exact (Below.refl _ _).drew) | (exact ⟨c0, c1, c2, c3, c4, d0, d1, d2, d3, d4, (Below.refl _ _).drew⟩) | (refine ⟨?_, ?_, ?_, ?_, ?_, ?_, ?_, ?_, ?_, ?_, ?_⟩ <;> assumption))
        (first | (go_at_call 58; refine (C.out 1).mono ?_; rintro e wx ⟨rfl, hbx⟩; have hbw : Below wr.heap.size wr wx := (Below.refl wr.heap.size wr).drew.trans hbx; have p0 := keepCell hbw c0; have p1 := keepCell hbw c1; have p2 := keepCell hbw c2; have p3 := keepCell hbw c3; have p4 := keepCell hbw c4; have q0 := keepCell hbw d0; have q1 := keepCell hbw d1; have q2 := keepCell hbw d2; have q3 := keepCell hbw d3; have q4 := keepCell hbw d4))
      go_wp2_with fail
      go_roundw
      case rel => exact ⟨k + 1, by omega, by go_num, bnext HB.out (by assumption)⟩
      case measure => simp [intOf]; omega
    · go_wp2
      go_ret
      exact ⟨rfl, hbel⟩
end Go.Proofs.YtifchfecfkdjlaaGreatDoor
