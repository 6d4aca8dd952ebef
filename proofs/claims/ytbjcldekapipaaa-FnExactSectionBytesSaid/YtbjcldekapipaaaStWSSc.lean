/-
  Walks of measuring, copying and comparing slices of Section.
-/
import Derived.Test.YtbjcldekapipaaaStWSc
namespace Go.Proofs.Ytbjcldekapipaaa
open Go.ChangeShapes Go.WideShapes Go.ChangeAt Go.RowKit Go.Deep


theorem szSectionS_any (xs : List Sc) (hl : xs.length ≤ maxLen) (hf : ∀ x ∈ xs, x.Fin) (left : Int) (h0 : 0 ≤ left) (h1 : left ≤ 1048576) (R : Option Addr) (cap lo : Nat) (w : World) (h : Scs w lo xs R) :
    Calls Try.prog 11 #[.slice R xs.length cap, .int .i64 left] w fun e w' => e = .returned (.int .i64 (leftOr (left - ((xs.length : Int) + Sc.wts xs)))) ∧ Below w.heap.size w w' := by
  unfold maxLen at hl
  have hsum := Sc.wts_nonneg xs
  have H := Lib.hid h
  have HF := Lib.hid hf
  clear h hf
  by_cases hn : left - (xs.length : Int) < 0
  · have hr := leftOr_neg (n := left - ((xs.length : Int) + Sc.wts xs)) (by omega)
    rw [hr]
    go_enter Try.func11, Try.ntmps11
    go_wp2
    go_ret
    exact ⟨rfl, Below.refl _ _⟩
  · have hn' : (xs.length : Int) ≤ left := by omega
    obtain ⟨Q, hR⟩ : ∃ Q, leftOr (left - ((xs.length : Int) + Sc.wts xs)) = Q := ⟨_, rfl⟩
    rw [hR]
    have HR := Lib.hid hR
    clear hR hn
    go_enter Try.func11, Try.ntmps11
    go_wp2
    go_loopw [1, 5] (fun l i wr => ∃ k : Nat, k ≤ xs.length ∧ i = .int .i64 k ∧ ∃ M : Int, l = .int .i64 M ∧ 0 ≤ M ∧ M ≤ 1048576 ∧ Hid (M = left - xs.length - Sc.wts (xs.take k)) ∧ Below w.heap.size w wr) (fun _ i _ => xs.length - (intOf i).toNat)
    case atStart => exact ⟨0, Nat.zero_le _, rfl, _, rfl, by omega, by omega, by simp [Hid, Sc.wts], Below.refl _ _⟩
    case round =>
      obtain ⟨k, hk, rfl, M, rfl, M0, M1, hM, hbel⟩ := hrel
      by_cases hlt : k < xs.length
      · obtain ⟨b, o, x, rfl, _, hxk, hc⟩ := (H.out.below hbel).at_ hlt
        have C := Lib.hid (szSection_any x (HF.out x (List.mem_of_getElem? hxk)) M M0 M1  lo wr)
        have HST := Lib.hid (Sc.wts_take hxk)
        have hle := Sc.wts_take_le xs (k + 1)
        obtain ⟨c0, c1, c2, _⟩ := hc
        have HB := Lib.hid hbel
        have hlc := hbel.size
        have hwt := x.wt_nonneg
        clear hxk hbel
        generalize x.wt = wt at *
        by_cases hneg : M - wt < 0
        · have e := leftOr_neg hneg
          rw [e] at C
          go_wp2_with (go_at_call 34; (with_reducible refine C.out.mono ?_); rintro e wx ⟨rfl, hbx⟩)
          go_ret
          refine ⟨ret_int ?_, bchain HB.out hbx hlc⟩
          rw [← HR.out, leftOr_neg]
          have := hM.out
          have := HST.out
          omega
        · have e := leftOr_pos (n := M - wt) (by omega)
          rw [e] at C
          have hneg' : 0 ≤ M - wt := by omega
          clear hneg e
          obtain ⟨M', hM'⟩ : ∃ M', M - wt = M' := ⟨_, rfl⟩
          rw [hM'] at C hneg'
          have HM := Lib.hid hM'
          have hM1 : M' ≤ 1048576 := by omega
          clear hM'
          go_wp2_with (go_at_call 34; (with_reducible refine C.out.mono ?_); rintro e wx ⟨rfl, hbx⟩)
          go_roundw
          case rel => exact ⟨k + 1, by omega, by go_num, _, rfl, by omega, by omega, by have := hM.out; have := HST.out; have := HM.out; simp only [Hid]; omega, bchain HB.out hbx hlc⟩
          case measure => simp [intOf]; omega
      · have hk' : k = xs.length := by omega
        go_wp2
        go_ret
        refine ⟨ret_int ?_, hbel⟩
        have e := hM.out
        rw [hk', List.take_length] at e
        rw [← HR.out, leftOr_pos (by omega)]
        omega

/-- One element in a row that is being made. -/
def Sc.El (_w : World) (lo : Nat) (f : Nat → Value) (x : Sc) : Prop := (f 0 = .int .i64 x.id ∧ f 1 = .string x.name ∧ f 2 = .string x.bytes) ∧ lo ≤ lo
theorem Sc.El.keep {w w' : World} {lo : Nat} {f : Nat → Value} {x : Sc} (_hk : KeptFrom lo w w') (h : Sc.El w lo f x) : Sc.El w' lo f x := by
  obtain ⟨hc, ht⟩ := h
  exact ⟨hc, ht⟩
theorem Scs.of_row {g : Nat} {xs : List Sc} {wr : World} (h : RowGen Sc.El 67 3 g xs.length xs.length xs wr) : Scs wr g xs (some ⟨g, 0, none⟩) := fun _ => by
  obtain ⟨f, hr, hf⟩ := h
  refine ⟨g, 0, rfl, Nat.le_refl _, fun i x hx => ?_⟩
  have hi := (List.getElem?_eq_some_iff.1 hx).1
  obtain ⟨⟨e0, e1, e2⟩, ht⟩ := hf i x hi hx
  rw [Nat.zero_add]
  exact ⟨by rw [hr.cell (by omega)]; exact congrArg some e0, by rw [hr.cell (by omega)]; exact congrArg some e1, by rw [hr.cell (by omega)]; exact congrArg some e2, Nat.le_refl _⟩
theorem infoSection : (Try.prog.info? 67).map (fun i => (i.zero, i.size, decide (i.bytes ≤ 4096))) = some (some (.agg #[.int .i64 0, .string ⟨#[]⟩, .string ⟨#[]⟩]), 3, true) := by kernel_rfl
set_option maxRecDepth 100000 in
theorem toSectionS_any (xs : List Sc) (hl : xs.length ≤ 1048576) (hw : ∀ (i : Nat) (x : Sc), xs[i]? = some x → x.wt ≤ 1048576) (R : Option Addr) (cap lo : Nat) (w : World) (h : Scs w lo xs R) :
    Calls Try.prog 13 #[.slice R xs.length cap] w fun e w' => ∃ (R' : Option Addr) (c' : Nat), e = .returned (.slice R' xs.length c') ∧ Scs w' w.heap.size xs R' ∧ Below w.heap.size w w' := by
  have H := Lib.hid h
  have HW := Lib.hid hw
  clear h hw
  have hmk := fun W => make_row W 36 67 3 _ Try.underlying36 infoSection xs.length hl
  go_enter Try.func13, Try.ntmps13
  go_wp2
  go_loopw [4] (fun i wr => ∃ k : Nat, k ≤ xs.length ∧ i = .int .i64 k ∧ RowGen Sc.El 67 3 w.heap.size xs.length k xs wr ∧ Below w.heap.size w wr) (fun i _ => xs.length - (intOf i).toNat)
  case atStart => exact ⟨0, Nat.zero_le _, rfl, RowGen.start (size_madeCells _ _), below1 _ _⟩
  case round =>
    obtain ⟨k, hk, rfl, hrow, hbel⟩ := hrel
    clear hmk
    by_cases hlt : k < xs.length
    · obtain ⟨b, o, x, rfl, _, hxk, hc⟩ := (H.out.below hbel).at_ hlt
      have C := Lib.hid (toSection_any x (HW.out k x hxk)  lo wr)
      obtain ⟨c0, c1, c2, _⟩ := hc
      have HB := Lib.hid hbel
      have HR := Lib.hid hrow
      have HT := Lib.hid hxk
      have hlc := hbel.size
      have hgl := hrow.lt
      clear hxk hbel hrow
      go_wp2_with fail
      go_at_call 37
      refine C.out.mono ?_
      rintro e w2 ⟨rfl, hat, hb2⟩
      have HR2 := Lib.hid (HR.out.below (E := Sc.El) Sc.El.keep hb2)
      obtain ⟨x0, y0⟩ := HR2.out.cells hlt 0 (by omega)
      have z0 := HR2.out.free (k * 3)
      obtain ⟨x1, y1⟩ := HR2.out.cells hlt 1 (by omega)
      have z1 := HR2.out.free (k * 3 + 1)
      obtain ⟨x2, y2⟩ := HR2.out.cells hlt 2 (by omega)
      have z2 := HR2.out.free (k * 3 + 2)
      rw [Nat.add_zero] at y0
      have hlt2 : w.heap.size < w2.heap.size := Nat.lt_of_lt_of_le hgl hb2.size
      have HB2 := Lib.hid (bchain HB.out hb2 hlc)
      clear hat hb2
      go_wp2_with fail
      go_roundw
      case rel =>
        refine ⟨k + 1, by omega, by go_num, RowGen.step (E := Sc.El) Sc.El.keep HR2.out HT.out [.int .i64 x.id, .string x.name, .string x.bytes] rfl ⟨⟨rfl, rfl, rfl⟩, Nat.le_refl _⟩, ?_⟩
        (repeat (with_reducible refine Below.setCell ?_ (by simp) _))
        exact HB2.out
      case measure => simp [intOf]; omega
    · have hk' : k = xs.length := by omega
      have HR := Lib.hid hrow
      have HB := Lib.hid hbel
      clear hrow hbel
      go_wp2
      go_ret
      refine ⟨_, _, rfl, Scs.of_row ?_, HB.out⟩
      have := HR.out
      rw [hk'] at this
      exact this

theorem eqSectionS_any (xs : List Sc) (hl : xs.length ≤ 1048576) (hw : ∀ (i : Nat) (x : Sc), xs[i]? = some x → x.wt ≤ 1048576) (R R' : Option Addr) (cap cap' lo lo' : Nat) (w : World) (h : Scs w lo xs R) (h' : Scs w lo' xs R') :
    Calls Try.prog 15 #[.slice R xs.length cap, .slice R' xs.length cap'] w fun e w' => e = .returned (.bool true) ∧ Below w.heap.size w w' := by
  have H := Lib.hid h
  have H' := Lib.hid h'
  have HW := Lib.hid hw
  clear h h' hw
  go_enter Try.func15, Try.ntmps15
  go_wp2
  go_loopw [5] (fun i wr => ∃ k : Nat, k ≤ xs.length ∧ i = .int .i64 k ∧ Below w.heap.size w wr) (fun i _ => xs.length - (intOf i).toNat)
  case atStart => exact ⟨0, Nat.zero_le _, rfl, Below.refl _ _⟩
  case round =>
    obtain ⟨k, hk, rfl, hbel⟩ := hrel
    by_cases hlt : k < xs.length
    · obtain ⟨b, o, x, rfl, _, hxk, hc⟩ := (H.out.below hbel).at_ hlt
      obtain ⟨b', o', x', rfl, _, hxk', hc'⟩ := (H'.out.below hbel).at_ hlt
      obtain rfl : x = x' := by
        rw [hxk] at hxk'
        exact Option.some.inj hxk'
      have C : Hid (∀ n : Nat, Calls Try.prog 43 #[.agg #[.int .i64 x.id, .string x.name, .string x.bytes], .agg #[.int .i64 x.id, .string x.name, .string x.bytes]] (wr.drewN n) fun e w' => e = .returned (.bool true) ∧ Below wr.heap.size (wr.drewN n) w') := Lib.hid (fun n => eqSection_any x (HW.out k x hxk)   lo lo' (wr.drewN n))
      obtain ⟨c0, c1, c2, _⟩ := hc
      obtain ⟨d0, d1, d2, _⟩ := hc'
      have HB := Lib.hid hbel
      have hli : (k : Int) < (xs.length : Int) := by omega
      clear hxk hxk' hbel
      go_wp2_with fail
      go_region_held3 (fun w' => w'.cell? ⟨b, o + k * 3, none⟩ = some (.int .i64 x.id) ∧ w'.cell? ⟨b, o + k * 3 + 1, none⟩ = some (.string x.name) ∧ w'.cell? ⟨b, o + k * 3 + 2, none⟩ = some (.string x.bytes) ∧ w'.cell? ⟨b', o' + k * 3, none⟩ = some (.int .i64 x.id) ∧ w'.cell? ⟨b', o' + k * 3 + 1, none⟩ = some (.string x.name) ∧ w'.cell? ⟨b', o' + k * 3 + 2, none⟩ = some (.string x.bytes) ∧ Below wr.heap.size wr w')
        (first | assumption | (exact (Below.refl _ _).drew) | (exact ⟨c0, c1, c2, d0, d1, d2, (Below.refl _ _).drew⟩) | (refine ⟨?_, ?_, ?_, ?_, ?_, ?_, ?_⟩ <;> assumption))
        (first | (go_at_call 43; refine (C.out 1).mono ?_; rintro e wx ⟨rfl, hbx⟩; have hbw : Below wr.heap.size wr wx := (Below.refl wr.heap.size wr).drew.trans hbx; have p0 := keepCell hbw c0; have p1 := keepCell hbw c1; have p2 := keepCell hbw c2; have q0 := keepCell hbw d0; have q1 := keepCell hbw d1; have q2 := keepCell hbw d2))
      go_wp2_with fail
      go_roundw
      case rel => exact ⟨k + 1, by omega, by go_num, bnext HB.out (by assumption)⟩
      case measure => simp [intOf]; omega
    · go_wp2
      go_ret
      exact ⟨rfl, hbel⟩
end Go.Proofs.Ytbjcldekapipaaa
