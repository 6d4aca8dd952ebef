/-
  StWIm, StWSImC: in one text.
-/
import Derived.Test.YtbjcldekapipaaaGreatDoorStIm
import Derived.Test.YtbjcldekapipaaaGreatDoorRowGen
import Derived.Test.YtbjcldekapipaaaGreatDoorStEx
namespace Go.Proofs.YtbjcldekapipaaaGreatDoor
open Go.ChangeShapes Go.WideShapes Go.ChangeAt Go.RowKit Go.Deep

theorem Im.parts_le {x : Im} (h : x.wt ≤ 1048576) : (x.name.size : Int) ≤ 1048576 ∧ True := by
  unfold Im.wt at h
  refine ⟨by omega, trivial⟩

theorem szImport_any (x : Im) (hf : x.Fin) (left : Int) (h0 : 0 ≤ left) (h1 : left ≤ 1048576)  (_lo : Nat) (w : World)  :
    Calls Tryz.prog 48 #[.agg #[.string x.name, .int .i64 x.params, .bool x.result], .int .i64 left] w fun e w' => e = .returned (.int .i64 (leftOr (left - x.wt))) ∧ Below w.heap.size w w' := by
  obtain ⟨f0, f1⟩ := hf
  have hw : x.wt = (x.name.size : Int) := rfl
  unfold maxLen at f0
  obtain ⟨R, hR⟩ : ∃ R, leftOr (left - x.wt) = R := ⟨_, rfl⟩
  rw [hR]
  have HRR := Lib.hid hR
  have HW := Lib.hid hw
  clear hR hw
  generalize x.wt = W0 at *
  by_cases e1 : left - (x.name.size : Int) < 0
  · go_enter Tryz.func48, Tryz.ntmps48
    go_wp2_with fail
    go_ret
    refine ⟨ret_int ?_, below1 _ _⟩
    have := HW.out
    rw [← HRR.out, leftOr_neg (by omega)]
  · obtain ⟨M1, hm1⟩ : ∃ M, left - (x.name.size : Int) = M := ⟨_, rfl⟩
    have hx1 : 0 ≤ M1 := by omega
    have hy1 : M1 ≤ 1048576 := by omega
    have Hm1 := Lib.hid hm1
    have e1' : (x.name.size : Int) ≤ left := by omega
    clear e1
    go_enter Tryz.func48, Tryz.ntmps48
    go_wp2_with fail
    go_ret
    refine ⟨ret_int ?_, below1 _ _⟩
    have := HW.out
    have := Hm1.out
    rw [← HRR.out, leftOr_pos (by omega)]
    omega

/-- What copying leaves: the same in new memory. -/
def ToImportPost (x : Im) (w : World) (e : Ending) (w' : World) : Prop := e = .returned (.agg #[.string x.name, .int .i64 x.params, .bool x.result]) ∧ True ∧ Below w.heap.size w w'
set_option maxRecDepth 100000 in
theorem toImport_any (x : Im) (hT : x.wt ≤ 1048576) (_lo : Nat) (w : World)  :
    Calls Tryz.prog 55 #[.agg #[.string x.name, .int .i64 x.params, .bool x.result]] w (ToImportPost x w) := by
  obtain ⟨q_name, _⟩ := Im.parts_le hT
  clear hT q_name
  go_enter Tryz.func55, Tryz.ntmps55
  go_wp2
  exact bodyPost_ret (v := .agg #[.string x.name, .int .i64 x.params, .bool x.result]) (by simp [results, Tryz.results55, go_sem]) rfl ⟨rfl, trivial, below3 _ _ _ _⟩

theorem eqImport_any (x : Im) (hT : x.wt ≤ 1048576) (_lo _lo' : Nat) (w : World)  :
    Calls Tryz.prog 74 #[.agg #[.string x.name, .int .i64 x.params, .bool x.result], .agg #[.string x.name, .int .i64 x.params, .bool x.result]] w fun e w' => e = .returned (.bool true) ∧ Below w.heap.size w w' := by
  obtain ⟨q_name, _⟩ := Im.parts_le hT
  clear hT q_name
  go_enter Tryz.func74, Tryz.ntmps74
  go_wp2_with fail
  go_ret
  exact ⟨rfl, below2 _ _ _⟩
end Go.Proofs.YtbjcldekapipaaaGreatDoor

namespace Go.Proofs.YtbjcldekapipaaaGreatDoor
open Go.ChangeShapes Go.WideShapes Go.ChangeAt Go.RowKit Go.Deep


theorem szImportS_any (xs : List Im) (hl : xs.length ≤ maxLen) (hf : ∀ x ∈ xs, x.Fin) (left : Int) (h0 : 0 ≤ left) (h1 : left ≤ 1048576) (R : Option Addr) (cap lo : Nat) (w : World) (h : Ims w lo xs R) :
    Calls Tryz.prog 19 #[.slice R xs.length cap, .int .i64 left] w fun e w' => e = .returned (.int .i64 (leftOr (left - ((xs.length : Int) + Im.wts xs)))) ∧ Below w.heap.size w w' := by
  unfold maxLen at hl
  have hsum := Im.wts_nonneg xs
  have H := Lib.hid h
  have HF := Lib.hid hf
  clear h hf
  by_cases hn : left - (xs.length : Int) < 0
  · have hr := leftOr_neg (n := left - ((xs.length : Int) + Im.wts xs)) (by omega)
    rw [hr]
    go_enter Tryz.func19, Tryz.ntmps19
    go_wp2
    go_ret
    exact ⟨rfl, Below.refl _ _⟩
  · have hn' : (xs.length : Int) ≤ left := by omega
    obtain ⟨Q, hR⟩ : ∃ Q, leftOr (left - ((xs.length : Int) + Im.wts xs)) = Q := ⟨_, rfl⟩
    rw [hR]
    have HR := Lib.hid hR
    clear hR hn
    go_enter Tryz.func19, Tryz.ntmps19
    go_wp2
    go_loopw [1, 5] (fun l i wr => ∃ k : Nat, k ≤ xs.length ∧ i = .int .i64 k ∧ ∃ M : Int, l = .int .i64 M ∧ 0 ≤ M ∧ M ≤ 1048576 ∧ Hid (M = left - xs.length - Im.wts (xs.take k)) ∧ Below w.heap.size w wr) (fun _ i _ => xs.length - (intOf i).toNat)
    case atStart => exact ⟨0, Nat.zero_le _, rfl, _, rfl, by omega, by omega, by simp [Hid, Im.wts], Below.refl _ _⟩
    case round =>
      obtain ⟨k, hk, rfl, M, rfl, M0, M1, hM, hbel⟩ := hrel
      by_cases hlt : k < xs.length
      · obtain ⟨b, o, x, rfl, _, hxk, hc⟩ := (H.out.below hbel).at_ hlt
        have C := Lib.hid (szImport_any x (HF.out x (List.mem_of_getElem? hxk)) M M0 M1  lo wr)
        have HST := Lib.hid (Im.wts_take hxk)
        have hle := Im.wts_take_le xs (k + 1)
        obtain ⟨c0, c1, c2, _⟩ := hc
        have HB := Lib.hid hbel
        have hlc := hbel.size
        have hwt := x.wt_nonneg
        clear hxk hbel
        generalize x.wt = wt at *
        by_cases hneg : M - wt < 0
        · have e := leftOr_neg hneg
          rw [e] at C
          go_wp2_with (go_at_call 48; (with_reducible refine C.out.mono ?_); rintro e wx ⟨rfl, hbx⟩)
          go_ret
          refine ⟨ret_int ?_, bchain HB.out hbx hlc⟩
          rw [← HR.out, leftOr_neg]
          have := hM.out
          have := HST.out
          omega
        · have e := leftOr_pos (n := M - wt) (by omega)
          rw [e] at C
          have hneg' : 0 ≤ M - wt := by omega
          clear hneg e
          obtain ⟨M', hM'⟩ : ∃ M', M - wt = M' := ⟨_, rfl⟩
          rw [hM'] at C hneg'
          have HM := Lib.hid hM'
          have hM1 : M' ≤ 1048576 := by omega
          clear hM'
          go_wp2_with (go_at_call 48; (with_reducible refine C.out.mono ?_); rintro e wx ⟨rfl, hbx⟩)
          go_roundw
          case rel => exact ⟨k + 1, by omega, by go_num, _, rfl, by omega, by omega, by have := hM.out; have := HST.out; have := HM.out; simp only [Hid]; omega, bchain HB.out hbx hlc⟩
          case measure => simp [intOf]; omega
      · have hk' : k = xs.length := by omega
        go_wp2
        go_ret
        refine ⟨ret_int ?_, hbel⟩
        have e := hM.out
        rw [hk', List.take_length] at e
        rw [← HR.out, leftOr_pos (by omega)]
        omega

/-- One element in a row that is being made. -/
def Im.El (_ : World) (lo : Nat) (f : Nat → Value) (x : Im) : Prop := (f 0 = .string x.name ∧ f 1 = .int .i64 x.params ∧ f 2 = .bool x.result) ∧ lo ≤ lo
theorem Im.El.keep {w w' : World} {lo : Nat} {f : Nat → Value} {x : Im} (_hk : KeptFrom lo w w') (h : Im.El w lo f x) : Im.El w' lo f x := by
  obtain ⟨hc, ht⟩ := h
  exact ⟨hc, ht⟩
theorem Ims.of_row {g : Nat} {xs : List Im} {wr : World} (h : RowGen Im.El 52 3 g xs.length xs.length xs wr) : Ims wr g xs (some ⟨g, 0, none⟩) := fun _ => by
  obtain ⟨f, hr, hf⟩ := h
  refine ⟨g, 0, rfl, Nat.le_refl _, fun i x hx => ?_⟩
  have hi := (List.getElem?_eq_some_iff.1 hx).1
  obtain ⟨⟨e0, e1, e2⟩, ht⟩ := hf i x hi hx
  rw [Nat.zero_add]
  exact ⟨by rw [hr.cell (by omega)]; exact congrArg some e0, by rw [hr.cell (by omega)]; exact congrArg some e1, by rw [hr.cell (by omega)]; exact congrArg some e2, Nat.le_refl _⟩
theorem infoImport : (Tryz.prog.info? 52).map (fun i => (i.zero, i.size, decide (i.bytes ≤ 4096))) = some (some (.agg #[.string ⟨#[]⟩, .int .i64 0, .bool false]), 3, true) := by kernel_rfl
set_option maxRecDepth 100000 in
theorem toImportS_any (xs : List Im) (hl : xs.length ≤ 1048576) (hw : ∀ (i : Nat) (x : Im), xs[i]? = some x → x.wt ≤ 1048576) (R : Option Addr) (cap lo : Nat) (w : World) (h : Ims w lo xs R) :
    Calls Tryz.prog 24 #[.slice R xs.length cap] w fun e w' => ∃ (R' : Option Addr) (c' : Nat), e = .returned (.slice R' xs.length c') ∧ xs.length ≤ c' ∧ Ims w' w.heap.size xs R' ∧ Below w.heap.size w w' := by
  have H := Lib.hid h
  have HW := Lib.hid hw
  clear h hw
  have hmk := fun W => make_row W 28 52 3 _ Tryz.underlying28 infoImport xs.length hl
  go_enter Tryz.func24, Tryz.ntmps24
  go_wp2
  go_loopw [4] (fun i wr => ∃ k : Nat, k ≤ xs.length ∧ i = .int .i64 k ∧ RowGen Im.El 52 3 w.heap.size xs.length k xs wr ∧ Below w.heap.size w wr) (fun i _ => xs.length - (intOf i).toNat)
  case atStart => exact ⟨0, Nat.zero_le _, rfl, RowGen.start (size_madeCells _ _), below1 _ _⟩
  case round =>
    obtain ⟨k, hk, rfl, hrow, hbel⟩ := hrel
    clear hmk
    by_cases hlt : k < xs.length
    · obtain ⟨b, o, x, rfl, _, hxk, hc⟩ := (H.out.below hbel).at_ hlt
      have C := Lib.hid (toImport_any x (HW.out k x hxk)  lo wr)
      obtain ⟨c0, c1, c2, _⟩ := hc
      have HB := Lib.hid hbel
      have HR := Lib.hid hrow
      have HT := Lib.hid hxk
      have hlc := hbel.size
      have hgl := hrow.lt
      clear hxk hbel hrow
      go_wp2_with fail
      go_at_call 55
      refine C.out.mono ?_
      rintro e w2 ⟨rfl, hat, hb2⟩
      have HR2 := Lib.hid (HR.out.below (E := Im.El) Im.El.keep hb2)
      obtain ⟨x0, y0⟩ := HR2.out.cells hlt 0 (by omega)
      have z0 := HR2.out.free (k * 3)
      obtain ⟨x1, y1⟩ := HR2.out.cells hlt 1 (by omega)
      have z1 := HR2.out.free (k * 3 + 1)
      obtain ⟨x2, y2⟩ := HR2.out.cells hlt 2 (by omega)
      have z2 := HR2.out.free (k * 3 + 2)
      rw [Nat.add_zero] at y0
      have hlt2 : w.heap.size < w2.heap.size := Nat.lt_of_lt_of_le hgl hb2.size
      have HB2 := Lib.hid (bchain HB.out hb2 hlc)
      clear hat hb2
      go_wp2_with fail
      go_roundw
      case rel =>
        refine ⟨k + 1, by omega, by go_num, RowGen.step (E := Im.El) Im.El.keep HR2.out HT.out [.string x.name, .int .i64 x.params, .bool x.result] rfl ⟨⟨rfl, rfl, rfl⟩, Nat.le_refl _⟩, ?_⟩
        (repeat (with_reducible refine Below.setCell ?_ (by simp) _))
        exact HB2.out
      case measure => simp [intOf]; omega
    · have hk' : k = xs.length := by omega
      have HR := Lib.hid hrow
      have HB := Lib.hid hbel
      clear hrow hbel
      go_wp2
      go_ret
      refine ⟨_, _, rfl, Nat.le_refl _, Ims.of_row ?_, HB.out⟩
      have := HR.out
      rw [hk'] at this
      exact this

theorem eqImportS_any (xs : List Im) (hl : xs.length ≤ 1048576) (hw : ∀ (i : Nat) (x : Im), xs[i]? = some x → x.wt ≤ 1048576) (R R' : Option Addr) (cap cap' lo lo' : Nat) (w : World) (h : Ims w lo xs R) (h' : Ims w lo' xs R') :
    Calls Tryz.prog 32 #[.slice R xs.length cap, .slice R' xs.length cap'] w fun e w' => e = .returned (.bool true) ∧ Below w.heap.size w w' := by
  have H := Lib.hid h
  have H' := Lib.hid h'
  have HW := Lib.hid hw
  clear h h' hw
  go_enter Tryz.func32, Tryz.ntmps32
  go_wp2
  go_loopw [5] (fun i wr => ∃ k : Nat, k ≤ xs.length ∧ i = .int .i64 k ∧ Below w.heap.size w wr) (fun i _ => xs.length - (intOf i).toNat)
  case atStart => exact ⟨0, Nat.zero_le _, rfl, Below.refl _ _⟩
  case round =>
    obtain ⟨k, hk, rfl, hbel⟩ := hrel
    by_cases hlt : k < xs.length
    · obtain ⟨b, o, x, rfl, _, hxk, hc⟩ := (H.out.below hbel).at_ hlt
      obtain ⟨b', o', x', rfl, _, hxk', hc'⟩ := (H'.out.below hbel).at_ hlt
      obtain rfl : x = x' := by
        rw [hxk] at hxk'
        exact Option.some.inj hxk'
      have C : Hid (∀ n : Nat, Calls Tryz.prog 74 #[.agg #[.string x.name, .int .i64 x.params, .bool x.result], .agg #[.string x.name, .int .i64 x.params, .bool x.result]] (wr.drewN n) fun e w' => e = .returned (.bool true) ∧ Below wr.heap.size (wr.drewN n) w') := Lib.hid (fun n => eqImport_any x (HW.out k x hxk)   lo lo' (wr.drewN n))
      obtain ⟨c0, c1, c2, _⟩ := hc
      obtain ⟨d0, d1, d2, _⟩ := hc'
      have HB := Lib.hid hbel
      have hli : (k : Int) < (xs.length : Int) := by omega
      clear hxk hxk' hbel
      go_wp2_with fail
      go_region_held3 (fun w' => w'.cell? ⟨b, o + k * 3, none⟩ = some (.string x.name) ∧ w'.cell? ⟨b, o + k * 3 + 1, none⟩ = some (.int .i64 x.params) ∧ w'.cell? ⟨b, o + k * 3 + 2, none⟩ = some (.bool x.result) ∧ w'.cell? ⟨b', o' + k * 3, none⟩ = some (.string x.name) ∧ w'.cell? ⟨b', o' + k * 3 + 1, none⟩ = some (.int .i64 x.params) ∧ w'.cell? ⟨b', o' + k * 3 + 2, none⟩ = some (.bool x.result) ∧ Below wr.heap.size wr w')
        (first | assumption | (exact (Below.refl _ _).drew) | (exact ⟨c0, c1, c2, d0, d1, d2, (Below.refl _ _).drew⟩) | (refine ⟨?_, ?_, ?_, ?_, ?_, ?_, ?_⟩ <;> assumption))
        (first | (go_at_call 74; refine (C.out 1).mono ?_; rintro e wx ⟨rfl, hbx⟩; have hbw : Below wr.heap.size wr wx := (Below.refl wr.heap.size wr).drew.trans hbx; have p0 := keepCell hbw c0; have p1 := keepCell hbw c1; have p2 := keepCell hbw c2; have q0 := keepCell hbw d0; have q1 := keepCell hbw d1; have q2 := keepCell hbw d2))
      go_wp2_with fail
      go_roundw
      case rel => exact ⟨k + 1, by omega, by go_num, bnext HB.out (by assumption)⟩
      case measure => simp [intOf]; omega
    · go_wp2
      go_ret
      exact ⟨rfl, hbel⟩
end Go.Proofs.YtbjcldekapipaaaGreatDoor

