/-
  The walk of the law FnExactReadIns.
-/
import Derived.Test.YtoeofhhmkkpjbaaDoorReadS
namespace Go.Proofs.YtoeofhhmkkpjbaaDoor
open Go.ChangeShapes Go.WideShapes Go.ChangeAt Go.RowKit Go.Deep

theorem l15Read_any (s : ByteArray) (hs : s.size ≤ 1048576) (w : World) : Calls Tryd.prog 52 #[.string s] w (AnsR s w) := by
  obtain ⟨wd, r, h⟩ := cutP_cons s
  cases r with
  | nil => exact l15Read_one s wd hs h w
  | cons od r => exact l15Read_two s wd od r hs h w
theorem specRead_any (s : ByteArray) (hs : s.size ≤ 1048576) (w : World) : Calls Tryd.prog 21 #[.string s] w (AnsR s w) := by
  have C := Lib.hid (fun W => l15Read_any s hs W)
  clear hs
  go_enter Tryd.func21, Tryd.ntmps21
  go_wp2_with (go_at_call 52; refine (C.out _).mono ?_; rintro e w1 ⟨op, a, b, rfl, hG, hb1⟩; have HB1 := Lib.hid (bnext (below1 _ _) hb1); have ⟨c0, c1, f0, _⟩ := (Z2.new w _ _ _).keep hb1; have HG := Lib.hid hG; clear hG hb1)
  refine bodyPost_ret (v := .tuple #[.agg #[.int .i64 op, .int .i64 a], .bool b]) ?hres rfl ⟨op, a, b, rfl, HG.out, ?hbel⟩
  case hres => simp [results, Tryd.results21, go_sem, *]
  case hbel => exact (HB1.out.setCell (by first | (simp; done) | (simp; omega)) _).setCell (by first | (simp; done) | (simp; omega)) _
theorem eqIns_any (op a : Int) (w : World) : Calls Tryd.prog 23 #[.agg #[.int .i64 op, .int .i64 a], .agg #[.int .i64 op, .int .i64 a]] w fun e w' => e = .returned (.bool true) ∧ Below w.heap.size w w' := by
  go_enter Tryd.func23, Tryd.ntmps23
  go_wp2_with fail
  go_ret
  exact ⟨rfl, below2 _ _ _⟩
theorem fnExactReadInsLaw (s : ByteArray) (w : World) (ht : OpTab w) (hp : PowsJ w) (he : ErrV w) (hm : MaxR w) :
    Calls Tryd.prog 7 #[.string s] w fun e w' => e = .returned (.bool true) ∧ Below w.heap.size w w' := by
  by_cases hs : s.size ≤ 1048576
  · have CS := Lib.hid (fun W => specRead_any s hs W)
    have CI := Lib.hid (fun W (hb : Below w.heap.size w W) => implRead_any s hs W (ht.keep hb) (hp.keep hb) (he.keep hb) (hm.keep hb))
    have CE := Lib.hid (fun op a W => eqIns_any op a W)
    have hs2 : (s.size : Int) ≤ 1048576 := by omega
    clear ht hp he hm
    go_enter Tryd.func7, Tryd.ntmps7
    go_wp2_with (first
      | (go_at_call 21; refine (CS.out _).mono ?_; rintro e w1 ⟨op, a, b, rfl, hG, hb1⟩; have HB1 := Lib.hid (bnext (by first | exact below1 _ _ | exact below2 _ _ _ | exact Below.refl _ _) hb1); have HG := Lib.hid hG; clear hG hb1)
      | (go_at_call 22; refine (CI.out _ (HB1.out.alloc HB1.out.size _)).mono ?_; rintro e w2 ⟨op2, a2, b2, rfl, hG, hb2⟩; obtain ⟨rfl, rfl, rfl⟩ := HG.out.same hG; have HB2 := Lib.hid (bnext (HB1.out.alloc HB1.out.size _) hb2); have ⟨c0, c1, f0, lt0⟩ := (Z2.new w1 _ _ _).keep hb2; have ne0 : w1.heap.size ≠ w2.heap.size := (by omega); clear hG hb2)
      | (go_at_call 23; refine (CE.out _ _ _).mono ?_; rintro e w3 ⟨rfl, hb3⟩; have HB3 := Lib.hid (bnext (HB2.out.alloc HB2.out.size _) hb3); clear hb3))
    go_ret
    exact ⟨rfl, HB3.out⟩
  · have hs2 : ¬ (s.size : Int) ≤ 1048576 := by omega
    have hs3 : (1048576 : Int) < (s.size : Int) := by omega
    clear ht hp he hm
    go_enter Tryd.func7, Tryd.ntmps7
    go_wp2_with fail
    go_ret
    exact ⟨rfl, by first | exact Below.refl _ _ | exact below1 _ _ | exact below2 _ _ _⟩
end Go.Proofs.YtoeofhhmkkpjbaaDoor
