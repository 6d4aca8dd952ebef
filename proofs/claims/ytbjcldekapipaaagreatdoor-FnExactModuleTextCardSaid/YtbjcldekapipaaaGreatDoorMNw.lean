/-
  StWIn, StWSIn: in one text.
-/
import Derived.Test.YtbjcldekapipaaaGreatDoorStIn
import Derived.Test.YtbjcldekapipaaaGreatDoorRowGen
import Derived.Test.YtbjcldekapipaaaGreatDoorStEx
namespace Go.Proofs.YtbjcldekapipaaaGreatDoor
open Go.ChangeShapes Go.WideShapes Go.ChangeAt Go.RowKit Go.Deep

theorem In.parts_le {x : In} (_h : x.wt ≤ 1048576) : True := by
  trivial

/-- What copying leaves: the same in new memory. -/
def ToInsPost (x : In) (w : World) (e : Ending) (w' : World) : Prop := e = .returned (.agg #[.int .i64 x.op, .int .i64 x.a]) ∧ True ∧ Below w.heap.size w w'
set_option maxRecDepth 100000 in
theorem toIns_any (x : In) (_hT : x.wt ≤ 1048576) (_lo : Nat) (w : World)  :
    Calls Tryz.prog 131 #[.agg #[.int .i64 x.op, .int .i64 x.a]] w (ToInsPost x w) := by
  clear _hT
  go_enter Tryz.func131, Tryz.ntmps131
  go_wp2
  exact bodyPost_ret (v := .agg #[.int .i64 x.op, .int .i64 x.a]) (by simp [results, Tryz.results131, go_sem]) rfl ⟨rfl, trivial, below3 _ _ _ _⟩

theorem eqIns_any (x : In) (_hT : x.wt ≤ 1048576) (_lo _lo' : Nat) (w : World)  :
    Calls Tryz.prog 136 #[.agg #[.int .i64 x.op, .int .i64 x.a], .agg #[.int .i64 x.op, .int .i64 x.a]] w fun e w' => e = .returned (.bool true) ∧ Below w.heap.size w w' := by
  clear _hT
  go_enter Tryz.func136, Tryz.ntmps136
  go_wp2_with fail
  go_ret
  exact ⟨rfl, below2 _ _ _⟩
end Go.Proofs.YtbjcldekapipaaaGreatDoor

namespace Go.Proofs.YtbjcldekapipaaaGreatDoor
open Go.ChangeShapes Go.WideShapes Go.ChangeAt Go.RowKit Go.Deep


theorem In.wts_zero : ∀ xs : List In, In.wts xs = 0
  | [] => rfl
  | x :: xs => by
    have h := In.wts_zero xs
    have h2 : x.wt = 0 := rfl
    simp only [In.wts]
    omega
theorem szInsS_any (xs : List In) (hl : xs.length ≤ maxLen) (_hf : ∀ x ∈ xs, x.Fin) (left : Int) (h0 : 0 ≤ left) (h1 : left ≤ 1048576) (R : Option Addr) (cap lo : Nat) (w : World) (_h : Ins w lo xs R) :
    Calls Tryz.prog 96 #[.slice R xs.length cap, .int .i64 left] w fun e w' => e = .returned (.int .i64 (leftOr (left - ((xs.length : Int) + In.wts xs)))) ∧ Below w.heap.size w w' := by
  unfold maxLen at hl
  rw [In.wts_zero]
  by_cases hn : left - (xs.length : Int) < 0
  · have hr := leftOr_neg (n := left - ((xs.length : Int) + 0)) (by omega)
    rw [hr]
    go_enter Tryz.func96, Tryz.ntmps96
    go_wp2
    go_ret
    exact ⟨rfl, Below.refl _ _⟩
  · have hr := leftOr_pos (n := left - ((xs.length : Int) + 0)) (by omega)
    rw [hr]
    have hn' : (xs.length : Int) ≤ left := by omega
    clear hn hr
    go_enter Tryz.func96, Tryz.ntmps96
    go_wp2
    go_ret
    exact ⟨ret_int (by omega), Below.refl _ _⟩

/-- One element in a row that is being made. -/
def In.El (_ : World) (lo : Nat) (f : Nat → Value) (x : In) : Prop := (f 0 = .int .i64 x.op ∧ f 1 = .int .i64 x.a) ∧ lo ≤ lo
theorem In.El.keep {w w' : World} {lo : Nat} {f : Nat → Value} {x : In} (_hk : KeptFrom lo w w') (h : In.El w lo f x) : In.El w' lo f x := by
  obtain ⟨hc, ht⟩ := h
  exact ⟨hc, ht⟩
theorem Ins.of_row {g : Nat} {xs : List In} {wr : World} (h : RowGen In.El 68 2 g xs.length xs.length xs wr) : Ins wr g xs (some ⟨g, 0, none⟩) := fun _ => by
  obtain ⟨f, hr, hf⟩ := h
  refine ⟨g, 0, rfl, Nat.le_refl _, fun i x hx => ?_⟩
  have hi := (List.getElem?_eq_some_iff.1 hx).1
  obtain ⟨⟨e0, e1⟩, ht⟩ := hf i x hi hx
  rw [Nat.zero_add]
  exact ⟨by rw [hr.cell (by omega)]; exact congrArg some e0, by rw [hr.cell (by omega)]; exact congrArg some e1, Nat.le_refl _⟩
theorem infoIns : (Tryz.prog.info? 68).map (fun i => (i.zero, i.size, decide (i.bytes ≤ 4096))) = some (some (.agg #[.int .i64 0, .int .i64 0]), 2, true) := by kernel_rfl
set_option maxRecDepth 100000 in
theorem toInsS_any (xs : List In) (hl : xs.length ≤ 1048576) (hw : ∀ (i : Nat) (x : In), xs[i]? = some x → x.wt ≤ 1048576) (R : Option Addr) (cap lo : Nat) (w : World) (h : Ins w lo xs R) :
    Calls Tryz.prog 100 #[.slice R xs.length cap] w fun e w' => ∃ (R' : Option Addr) (c' : Nat), e = .returned (.slice R' xs.length c') ∧ Ins w' w.heap.size xs R' ∧ Below w.heap.size w w' := by
  have H := Lib.hid h
  have HW := Lib.hid hw
  clear h hw
  have hmk := fun W => make_row W 54 68 2 _ Tryz.underlying54 infoIns xs.length hl
  go_enter Tryz.func100, Tryz.ntmps100
  go_wp2
  go_loopw [4] (fun i wr => ∃ k : Nat, k ≤ xs.length ∧ i = .int .i64 k ∧ RowGen In.El 68 2 w.heap.size xs.length k xs wr ∧ Below w.heap.size w wr) (fun i _ => xs.length - (intOf i).toNat)
  case atStart => exact ⟨0, Nat.zero_le _, rfl, RowGen.start (size_madeCells _ _), below1 _ _⟩
  case round =>
    obtain ⟨k, hk, rfl, hrow, hbel⟩ := hrel
    clear hmk
    by_cases hlt : k < xs.length
    · obtain ⟨b, o, x, rfl, _, hxk, hc⟩ := (H.out.below hbel).at_ hlt
      have C := Lib.hid (toIns_any x (HW.out k x hxk)  lo wr)
      obtain ⟨c0, c1, _⟩ := hc
      have HB := Lib.hid hbel
      have HR := Lib.hid hrow
      have HT := Lib.hid hxk
      have hlc := hbel.size
      have hgl := hrow.lt
      clear hxk hbel hrow
      go_wp2_with fail
      go_at_call 131
      refine C.out.mono ?_
      rintro e w2 ⟨rfl, hat, hb2⟩
      have HR2 := Lib.hid (HR.out.below (E := In.El) In.El.keep hb2)
      obtain ⟨x0, y0⟩ := HR2.out.cells hlt 0 (by omega)
      have z0 := HR2.out.free (k * 2)
      obtain ⟨x1, y1⟩ := HR2.out.cells hlt 1 (by omega)
      have z1 := HR2.out.free (k * 2 + 1)
      rw [Nat.add_zero] at y0
      have hlt2 : w.heap.size < w2.heap.size := Nat.lt_of_lt_of_le hgl hb2.size
      have HB2 := Lib.hid (bchain HB.out hb2 hlc)
      clear hat hb2
      go_wp2_with fail
      go_roundw
      case rel =>
        refine ⟨k + 1, by omega, by go_num, RowGen.step (E := In.El) In.El.keep HR2.out HT.out [.int .i64 x.op, .int .i64 x.a] rfl ⟨⟨rfl, rfl⟩, Nat.le_refl _⟩, ?_⟩
        (repeat (with_reducible refine Below.setCell ?_ (by simp) _))
        exact HB2.out
      case measure => simp [intOf]; omega
    · have hk' : k = xs.length := by omega
      have HR := Lib.hid hrow
      have HB := Lib.hid hbel
      clear hrow hbel
      go_wp2
      go_ret
      refine ⟨_, _, rfl, Ins.of_row ?_, HB.out⟩
      have := HR.out
      rw [hk'] at this
      exact this

theorem eqInsS_any (xs : List In) (hl : xs.length ≤ 1048576) (hw : ∀ (i : Nat) (x : In), xs[i]? = some x → x.wt ≤ 1048576) (R R' : Option Addr) (cap cap' lo lo' : Nat) (w : World) (h : Ins w lo xs R) (h' : Ins w lo' xs R') :
    Calls Tryz.prog 109 #[.slice R xs.length cap, .slice R' xs.length cap'] w fun e w' => e = .returned (.bool true) ∧ Below w.heap.size w w' := by
  have H := Lib.hid h
  have H' := Lib.hid h'
  have HW := Lib.hid hw
  clear h h' hw
  go_enter Tryz.func109, Tryz.ntmps109
  go_wp2
  go_loopw [5] (fun i wr => ∃ k : Nat, k ≤ xs.length ∧ i = .int .i64 k ∧ Below w.heap.size w wr) (fun i _ => xs.length - (intOf i).toNat)
  case atStart => exact ⟨0, Nat.zero_le _, rfl, Below.refl _ _⟩
  case round =>
    obtain ⟨k, hk, rfl, hbel⟩ := hrel
    by_cases hlt : k < xs.length
    · obtain ⟨b, o, x, rfl, _, hxk, hc⟩ := (H.out.below hbel).at_ hlt
      obtain ⟨b', o', x', rfl, _, hxk', hc'⟩ := (H'.out.below hbel).at_ hlt
      obtain rfl : x = x' := by
        rw [hxk] at hxk'
        exact Option.some.inj hxk'
      have C : Hid (∀ n : Nat, Calls Tryz.prog 136 #[.agg #[.int .i64 x.op, .int .i64 x.a], .agg #[.int .i64 x.op, .int .i64 x.a]] (wr.drewN n) fun e w' => e = .returned (.bool true) ∧ Below wr.heap.size (wr.drewN n) w') := Lib.hid (fun n => eqIns_any x (HW.out k x hxk)   lo lo' (wr.drewN n))
      obtain ⟨c0, c1, _⟩ := hc
      obtain ⟨d0, d1, _⟩ := hc'
      have HB := Lib.hid hbel
      have hli : (k : Int) < (xs.length : Int) := by omega
      clear hxk hxk' hbel
      go_wp2_with fail
      go_region_held3 (fun w' => w'.cell? ⟨b, o + k * 2, none⟩ = some (.int .i64 x.op) ∧ w'.cell? ⟨b, o + k * 2 + 1, none⟩ = some (.int .i64 x.a) ∧ w'.cell? ⟨b', o' + k * 2, none⟩ = some (.int .i64 x.op) ∧ w'.cell? ⟨b', o' + k * 2 + 1, none⟩ = some (.int .i64 x.a) ∧ Below wr.heap.size wr w')
        (first | assumption | (exact (Below.refl _ _).drew) | (exact ⟨c0, c1, d0, d1, (Below.refl _ _).drew⟩) | (refine ⟨?_, ?_, ?_, ?_, ?_⟩ <;> assumption))
        (first | (go_at_call 136; refine (C.out 1).mono ?_; rintro e wx ⟨rfl, hbx⟩; have hbw : Below wr.heap.size wr wx := (Below.refl wr.heap.size wr).drew.trans hbx; have p0 := keepCell hbw c0; have p1 := keepCell hbw c1; have q0 := keepCell hbw d0; have q1 := keepCell hbw d1))
      go_wp2_with fail
      go_roundw
      case rel => exact ⟨k + 1, by omega, by go_num, bnext HB.out (by assumption)⟩
      case measure => simp [intOf]; omega
    · go_wp2
      go_ret
      exact ⟨rfl, hbel⟩
end Go.Proofs.YtbjcldekapipaaaGreatDoor

