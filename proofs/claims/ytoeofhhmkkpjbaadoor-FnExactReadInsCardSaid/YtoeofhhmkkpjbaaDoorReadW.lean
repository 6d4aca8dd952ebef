/-
  ReadIns: the walks of both sides.
-/
import Derived.Test.YtoeofhhmkkpjbaaDoorReadQ
import Derived.Test.YtoeofhhmkkpjbaaDoorInsTextLaw
namespace Go.Proofs.YtoeofhhmkkpjbaaDoor
open Go.ChangeShapes Go.WideShapes Go.ChangeAt Go.RowKit Go.Deep

/-- The answer: an instruction and whether there is one. -/
def AnsR (s : ByteArray) (w : World) (e : Ending) (w' : World) : Prop := ∃ (op a : Int) (b : Bool), e = .returned (.tuple #[.agg #[.int .i64 op, .int .i64 a], .bool b]) ∧ ReadG s op a b ∧ Below w.heap.size w w'

/-- A block of two cells of one's own. -/
def Z2 (W : World) (B : Nat) (u v : Value) : Prop := W.cell? ⟨B, 0, none⟩ = some u ∧ W.cell? ⟨B, 1, none⟩ = some v ∧ (∀ o, W.frozen? ⟨B, o, none⟩ = false) ∧ B < W.heap.size
theorem Z2.new (w : World) (u v : Value) (t : TypeId) : Z2 (w.alloc (.cells #[u, v] t)) w.heap.size u v := ⟨by go_simp, by go_simp, fun o => by go_simp, by go_simp⟩
theorem Z2.keep {W W' : World} {B : Nat} {u v : Value} (h : Z2 W B u v) (hb : Below W.heap.size W W') : Z2 W' B u v :=
  ⟨keepCell hb h.1, keepCell hb h.2.1, fun o => (hb.frozen (p := ⟨B, o, none⟩) h.2.2.2).trans (h.2.2.1 o), by have := hb.size; have := h.2.2.2; omega⟩
theorem Z2.alloc {W : World} {B : Nat} {u v : Value} (h : Z2 W B u v) (o : Obj) : Z2 (W.alloc o) B u v := h.keep ((Below.refl _ _).alloc (Nat.le_refl _) o)

set_option maxHeartbeats 2000000 in
set_option maxRecDepth 100000 in
theorem implRead_any (s : ByteArray) (hs : s.size ≤ 1048576) (w : World) (ht : OpTab w) (hp : PowsJ w) (he : ErrV w) (hm : MaxR w) :
    Calls Tryd.prog 22 #[.string s] w (AnsR s w) := by
  have C1 := Lib.hid (fun W (hb : Below w.heap.size w W) => cutR_any s hs W (hm.keep hb))
  obtain ⟨v, hv, cv⟩ := parse_at (mkB (Lib.cut s.data.toList [32]).2.1) (by have := cut_size s; omega)
  have C2 := Lib.hid (fun W (hb : Below w.heap.size w W) => cv W (he.keep hb))
  clear cv
  obtain ⟨k, hk⟩ := isOp_ex (mkB (Lib.cut s.data.toList [32]).1)
  have C3 := Lib.hid (fun W (hb : Below w.heap.size w W) => opOf_at hk W (ht.keep hb))
  have HC := Lib.hid (candI s hk hv)
  have hvb := hv.1
  have C4 := Lib.hid (fun W (hb : Below w.heap.size w W) => implInsOk_any k v W (ht.keep hb))
  have C5 := Lib.hid (fun W (hb : Below w.heap.size w W) => implInsText_any k v hvb.1 hvb.2 W (ht.keep hb) (hp.keep hb))
  have HV := Lib.hid hvb
  clear hk hv hvb ht hp he hm hs
  generalize mkB (Lib.cut s.data.toList [32]).1 = wd at *
  generalize mkB (Lib.cut s.data.toList [32]).2.1 = od at *
  generalize (Lib.cut s.data.toList [32]).2.2 = fo at *
  cases hI : insV k v with
  | false =>
    rw [hI] at C4
    have HN := Lib.hid (HC.out.no (by rw [hI]; rintro ⟨h, _⟩; cases h))
    clear hI C5 HC
    go_enter Tryd.func22, Tryd.ntmps22
    go_wp2_with (first
      | (go_at_call 53; refine (C1.out _ (below1 _ _)).mono ?_; rintro e w1 ⟨rfl, hb1⟩; have HB1 := Lib.hid (bnext (below1 _ _) hb1); have Z1 := Lib.hid ((Z2.new w _ _ _).keep hb1); clear hb1)
      | (go_at_call 54; refine (C2.out _ HB1.out).mono ?_; rintro e w2 ⟨⟨X, rfl⟩, hb2⟩; have HB2 := Lib.hid (bnext HB1.out hb2); have ZP := Lib.hid (Z1.out.keep hb2); clear hb2)
      | (go_at_call 55; refine (C3.out _ HB2.out).mono ?_; rintro e w3 ⟨rfl, rfl⟩)
      | (go_at_call 18; refine (C4.out _ (HB2.out.alloc (by have := HB2.out.size; omega) _)).mono ?_; rintro e w4 ⟨rfl, hb4⟩; have HB4 := Lib.hid (bnext (HB2.out.alloc (by have := HB2.out.size; omega) _) hb4); have Z4 := Lib.hid ((ZP.out.alloc _).keep hb4); have Y4 := Lib.hid ((Z2.new w2 _ _ _).keep hb4); have ⟨c0, c1, f0, _⟩ := Z4.out; have ⟨i0, i1, _, _⟩ := Y4.out; clear hb4))
    refine bodyPost_ret (v := .tuple #[.agg #[.int .i64 0, .int .i64 0], .bool false]) ?hres rfl ⟨0, 0, false, rfl, HN.out, ?hbel⟩
    case hres => simp [results, Tryd.results22, go_sem, *]
    case hbel => exact (HB4.out.setCell (by first | (simp; done) | (simp; omega)) _).setCell (by first | (simp; done) | (simp; omega)) _
  | true =>
    rw [hI] at C4
    rw [hI, if_pos rfl] at C5
    by_cases hT : insT k v = s
    · have HY := Lib.hid (HC.out.yes HV.out hI hT)
      rw [hT] at C5
      clear hI HC hT
      go_enter Tryd.func22, Tryd.ntmps22
      go_wp2_with (first
        | (go_at_call 53; refine (C1.out _ (below1 _ _)).mono ?_; rintro e w1 ⟨rfl, hb1⟩; have HB1 := Lib.hid (bnext (below1 _ _) hb1); have Z1 := Lib.hid ((Z2.new w _ _ _).keep hb1); clear hb1)
        | (go_at_call 54; refine (C2.out _ HB1.out).mono ?_; rintro e w2 ⟨⟨X, rfl⟩, hb2⟩; have HB2 := Lib.hid (bnext HB1.out hb2); have ZP := Lib.hid (Z1.out.keep hb2); clear hb2)
        | (go_at_call 55; refine (C3.out _ HB2.out).mono ?_; rintro e w3 ⟨rfl, rfl⟩)
        | (go_at_call 18; refine (C4.out _ (HB2.out.alloc (by have := HB2.out.size; omega) _)).mono ?_; rintro e w4 ⟨rfl, hb4⟩; have HB4 := Lib.hid (bnext (HB2.out.alloc (by have := HB2.out.size; omega) _) hb4); have Z4 := Lib.hid ((ZP.out.alloc _).keep hb4); have Y4 := Lib.hid ((Z2.new w2 _ _ _).keep hb4); have ⟨c0, c1, f0, _⟩ := Z4.out; have ⟨i0, i1, _, _⟩ := Y4.out; clear hb4)
        | (go_at_call 20; refine (C5.out _ HB4.out).mono ?_; rintro e w5 ⟨rfl, hb5⟩; have HB5 := Lib.hid (bnext HB4.out hb5); have ⟨d0, d1, g0, _⟩ := Z4.out.keep hb5; have ⟨j0, j1, _, _⟩ := Y4.out.keep hb5; clear hb5))
      refine bodyPost_ret (v := .tuple #[.agg #[.int .i64 k, .int .i64 v], .bool true]) ?hres rfl ⟨k, v, true, rfl, HY.out, ?hbel⟩
      case hres => simp [results, Tryd.results22, go_sem, *]
      case hbel => exact (HB5.out.setCell (by first | (simp; done) | (simp; omega)) _).setCell (by first | (simp; done) | (simp; omega)) _
    · have HN := Lib.hid (HC.out.no (by rintro ⟨_, h⟩; exact hT h))
      have e0 := text_neM hT
      generalize insT k v = T at *
      clear hI HC
      go_enter Tryd.func22, Tryd.ntmps22
      go_wp2_with (first
        | (go_at_call 53; refine (C1.out _ (below1 _ _)).mono ?_; rintro e w1 ⟨rfl, hb1⟩; have HB1 := Lib.hid (bnext (below1 _ _) hb1); have Z1 := Lib.hid ((Z2.new w _ _ _).keep hb1); clear hb1)
        | (go_at_call 54; refine (C2.out _ HB1.out).mono ?_; rintro e w2 ⟨⟨X, rfl⟩, hb2⟩; have HB2 := Lib.hid (bnext HB1.out hb2); have ZP := Lib.hid (Z1.out.keep hb2); clear hb2)
        | (go_at_call 55; refine (C3.out _ HB2.out).mono ?_; rintro e w3 ⟨rfl, rfl⟩)
        | (go_at_call 18; refine (C4.out _ (HB2.out.alloc (by have := HB2.out.size; omega) _)).mono ?_; rintro e w4 ⟨rfl, hb4⟩; have HB4 := Lib.hid (bnext (HB2.out.alloc (by have := HB2.out.size; omega) _) hb4); have Z4 := Lib.hid ((ZP.out.alloc _).keep hb4); have Y4 := Lib.hid ((Z2.new w2 _ _ _).keep hb4); have ⟨c0, c1, f0, _⟩ := Z4.out; have ⟨i0, i1, _, _⟩ := Y4.out; clear hb4)
        | (go_at_call 20; refine (C5.out _ HB4.out).mono ?_; rintro e w5 ⟨rfl, hb5⟩; have HB5 := Lib.hid (bnext HB4.out hb5); have ⟨d0, d1, g0, _⟩ := Z4.out.keep hb5; have ⟨j0, j1, _, _⟩ := Y4.out.keep hb5; clear hb5))
      refine bodyPost_ret (v := .tuple #[.agg #[.int .i64 0, .int .i64 0], .bool false]) ?hres rfl ⟨0, 0, false, rfl, HN.out, ?hbel⟩
      case hres => simp [results, Tryd.results22, go_sem, *]
      case hbel => exact (HB5.out.setCell (by first | (simp; done) | (simp; omega)) _).setCell (by first | (simp; done) | (simp; omega)) _
end Go.Proofs.YtoeofhhmkkpjbaaDoor
