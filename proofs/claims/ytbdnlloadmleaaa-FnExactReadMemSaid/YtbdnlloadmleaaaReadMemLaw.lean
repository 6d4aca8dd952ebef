/-
  The walk of the law FnExactReadMem: both answer alike, and the argument stays.
-/
import Derived.Test.YtbdnlloadmleaaaMemRead
import Derived.Test.YtbdnlloadmleaaaStWMe
namespace Go.Proofs.Ytbdnlloadmleaaa
open Go.ChangeShapes Go.WideShapes Go.ChangeAt Go.RowKit Go.Deep

set_option maxHeartbeats 2000000 in
set_option maxRecDepth 100000 in
theorem fnExactReadMemLaw (x : Me) (Rfree : Option Addr) (cfree : Nat) (aat : Int) (an : Int) (w : World) (hat : Me.At w 0 x Rfree) (hfin : x.Fin) (hx_aat : -9223372036854775808 ≤ aat ∧ aat ≤ 9223372036854775807) (hx_an : -9223372036854775808 ≤ an ∧ an ≤ 9223372036854775807) :
    Calls Try.prog 6 #[.agg #[.string x.bytes, .slice Rfree x.free.length cfree], .int .i64 aat, .int .i64 an] w fun e w' => e = .returned (.bool true) ∧ Below w.heap.size w w' := by
  have S := fun W h => szMemory_any x hfin 1048576 (by omega) (by omega) Rfree cfree 0 W h
  have HA := Lib.hid hat
  have hn0 := x.wt_nonneg
  clear hat
  by_cases hn : 1048576 - x.wt < 0
  · rw [leftOr_neg hn] at S
    have S := Lib.hid S
    clear hn
    go_enter Try.func6, Try.ntmps6
    go_wp2_with fail
    go_at_call 15
    refine (S.out _ (HA.out.below (below1 _ _))).mono ?_
    rintro e w2 ⟨rfl, hb2⟩
    have HB2 := Lib.hid (bnext (below1 _ _) hb2)
    clear hb2
    go_wp2_with fail
    go_ret
    exact ⟨rfl, HB2.out⟩
  · have hT : x.wt ≤ 1048576 := by omega
    rw [leftOr_pos (by omega)] at S
    obtain ⟨L, hL⟩ : ∃ L, 1048576 - x.wt = L := ⟨_, rfl⟩
    rw [hL] at S
    have hL0 : 0 ≤ L := by omega
    have S := Lib.hid S
    have HT := Lib.hid (fun W h => toMemory_any x hT Rfree cfree 0 W h)
    have HE := Lib.hid (fun Rfree1 cfree1 Rfree2 cfree2 lo lo' W h h' => eqMemory_any x hT Rfree1 cfree1 Rfree2 cfree2 lo lo' W h h')
    obtain ⟨v0, hv0⟩ : ∃ v, (memRead x aat an).1 = v := ⟨_, rfl⟩
    obtain ⟨v1, hv1⟩ : ∃ v, (memRead x aat an).2 = v := ⟨_, rfl⟩
    have HS : Hid (∀ (Rfree : Option Addr) (cfree : Nat) (lo : Nat) (W : World), Me.At W lo x Rfree → Calls Try.prog 26 #[.agg #[.string x.bytes, .slice Rfree x.free.length cfree], .int .i64 aat, .int .i64 an] W fun e w' => e = .returned (.tuple #[.string v0, .int .i64 v1]) ∧ Below W.heap.size W w') := Lib.hid (fun Rfree cfree lo W h => by
      have hh := specReadMem_any x hT hfin Rfree cfree aat an hx_aat hx_an lo W h
      rw [hv0, hv1] at hh
      exact hh)
    have HI : Hid (∀ (Rfree : Option Addr) (cfree : Nat) (lo : Nat) (W : World), Me.At W lo x Rfree → Calls Try.prog 27 #[.agg #[.string x.bytes, .slice Rfree x.free.length cfree], .int .i64 aat, .int .i64 an] W fun e w' => e = .returned (.tuple #[.string v0, .int .i64 v1]) ∧ Below W.heap.size W w') := Lib.hid (fun Rfree cfree lo W h => by
      have hh := implReadMem_any x hT hfin Rfree cfree aat an hx_aat hx_an lo W h
      rw [hv0, hv1] at hh
      exact hh)
    clear hn hL hn0 hT hfin hv0 hv1
    go_enter Try.func6, Try.ntmps6
    go_wp2_with fail
    go_at_call 15
    refine (S.out _ (HA.out.below (below1 _ _))).mono ?_
    rintro e w2 ⟨rfl, hb2⟩
    have k0 := keepCell (a := ⟨w.heap.size, 0, none⟩) (v := .string x.bytes) hb2 (by go_simp)
    have k1 := keepCell (a := ⟨w.heap.size, 1, none⟩) (v := .slice Rfree x.free.length cfree) hb2 (by go_simp)
    have HB2 := Lib.hid (bnext (below1 _ _) hb2)
    clear hb2 S
    go_wp2_with fail
    go_at_call 17
    refine (HT.out _ (HA.out.below HB2.out)).mono ?_
    rintro e w3 ⟨Rfree3, cfree3, rfl, ha3, hb3⟩
    replace k0 := keepCell hb3 k0
    replace k1 := keepCell hb3 k1
    have HB3 := Lib.hid (bnext HB2.out hb3)
    have HA3 := Lib.hid ha3
    clear hb3 ha3
    go_wp2_with fail
    go_at_call 26
    refine (HS.out _ _ _ _ HA3.out).mono ?_
    rintro e w4 ⟨rfl, hb4⟩
    replace k0 := keepCell hb4 k0
    replace k1 := keepCell hb4 k1
    have HB4 := Lib.hid (bnext HB3.out hb4)
    clear hb4
    go_wp2_with fail
    go_at_call 17
    refine (HT.out _ (HA.out.below HB4.out)).mono ?_
    rintro e w5 ⟨Rfree5, cfree5, rfl, ha5, hb5⟩
    replace k0 := keepCell hb5 k0
    replace k1 := keepCell hb5 k1
    have HB5 := Lib.hid (bnext HB4.out hb5)
    have HA5 := Lib.hid ha5
    clear hb5 ha5
    go_wp2_with fail
    go_at_call 27
    refine (HI.out _ _ _ _ (HA5.out.below (below1 _ _))).mono ?_
    rintro e w6 ⟨rfl, hb6⟩
    have j0 := keepCell (a := ⟨w5.heap.size, 0, none⟩) (v := .string x.bytes) hb6 (by go_simp)
    have j1 := keepCell (a := ⟨w5.heap.size, 1, none⟩) (v := .slice Rfree5 x.free.length cfree5) hb6 (by go_simp)
    replace k0 := keepCell hb6 (keepCell (below1 w5 _) k0)
    replace k1 := keepCell hb6 (keepCell (below1 w5 _) k1)
    have HB6 := Lib.hid (bnext (bnext HB5.out (below1 _ _)) hb6)
    have HN6 := Lib.hid (bnext (below1 _ _) hb6)
    clear hb6
    go_wp2_with fail
    go_region_held3 (fun w' => w'.cell? ⟨w5.heap.size, 0, none⟩ = some (.string x.bytes) ∧ w'.cell? ⟨w5.heap.size, 1, none⟩ = some (.slice Rfree5 x.free.length cfree5) ∧ w'.cell? ⟨w.heap.size, 0, none⟩ = some (.string x.bytes) ∧ w'.cell? ⟨w.heap.size, 1, none⟩ = some (.slice Rfree x.free.length cfree) ∧ Below w6.heap.size w6 w')
      (first | assumption | (exact (Below.refl _ _).drew) | (exact ⟨j0, j1, k0, k1, (Below.refl _ _).drew⟩) | (refine ⟨?_, ?_, ?_, ?_, ?_⟩ <;> assumption))
      (first
        | (go_at_call 17; refine (HT.out _ (HA.out.below HB6.out.drew)).mono ?_; rintro e w7 ⟨Rfree7, cfree7, rfl, ha7, hb7⟩; have hbw : Below w6.heap.size w6 w7 := (Below.refl w6.heap.size w6).drew.trans hb7; have pj0 := keepCell hbw j0; have pj1 := keepCell hbw j1; have pk0 := keepCell hbw k0; have pk1 := keepCell hbw k1)
        | (go_at_call 19; refine (HE.out _ _ _ _ _ _ _ ((HA5.out.below HN6.out).below hbw) ha7).mono ?_; rintro e w8 ⟨rfl, hb8⟩; have hbw8 : Below w6.heap.size w6 w8 := hbw.trans (hb8.mono hbw.size); have rj0 := keepCell hbw8 j0; have rj1 := keepCell hbw8 j1; have rk0 := keepCell hbw8 k0; have rk1 := keepCell hbw8 k1))
    go_wp2_with fail
    go_ret
    exact ⟨rfl, bnext HB6.out (by assumption)⟩
end Go.Proofs.Ytbdnlloadmleaaa
