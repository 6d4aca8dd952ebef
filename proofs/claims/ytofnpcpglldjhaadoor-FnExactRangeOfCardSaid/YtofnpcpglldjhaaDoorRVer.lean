/-
  The walk of readVersion.
-/
import Derived.Test.YtofnpcpglldjhaaDoorRPMath
import Derived.Ground.NamesProg
import Derived.Shelf.Lay
import Derived.Shelf.Strings.SplitShaped
namespace Go.Proofs
open Go.Shelf
shelf_lay LaysM.n147 Nm 147 at Tryd as Tryd.laysSN
end Go.Proofs
namespace Go.Proofs.YtofnpcpglldjhaaDoor
open Go.ChangeShapes Go.WideShapes Go.ChangeAt Go.RowKit

/-- The pieces between the dots, at most four. -/
def pieces (s : ByteArray) : List ByteArray := Lib.splitB ⟨#[46]⟩ 0 (min 4 (s.size + 1) - 1) s

theorem split_any (s : ByteArray) (m : Int) (w : World) (hs : s.size ≤ 1048576) (hm : w.cell? ⟨0, 0, none⟩ = some (.int .i64 m)) :
    Calls Tryd.prog 59 #[.string s, .string ⟨#[46]⟩, .int .i64 4] w fun e w' =>
      e = .returned (.slice (some ⟨w.heap.size, 0, none⟩) (pieces s).length (min 4 (s.size + 1))) ∧ w' = w.alloc (.cells (Lib.cellsOf (pieces s) (min 4 (s.size + 1))) 9) :=
  Any.strings_SplitN { Tryd.laysSN with } Tryd.laysSN.i9 s ⟨#[46]⟩ 4 m w (by omega) hm (by decide) (by decide) (by decide)

theorem readVersion_few (s : ByteArray) (m : Int) (w : World) (hs : s.size ≤ 1048576) (hm : w.cell? ⟨0, 0, none⟩ = some (.int .i64 m)) (h3 : (pieces s).length ≠ 3) :
    Calls Tryd.prog 42 #[.string s] w fun e w' => e = .returned (.tuple #[.agg #[.int .i64 0, .int .i64 0, .int .i64 0], .bool false]) ∧ Below w.heap.size w w' := by
  have c0 := split_any s m _ hs (keepCell (below1 w (.cells #[.int .i64 0, .int .i64 0, .int .i64 0] 60)) hm)
  have c := Lib.hid c0
  clear c0
  have h4 : (((pieces s).length : Int) == 3) = false := by rw [beq_eq_false_iff_ne]; omega
  have h5 : ¬ ((pieces s).length : Int) = 3 := by omega
  generalize pieces s = ps at *
  go_enter Tryd.func42, Tryd.ntmps42
  go_wp2_with (go_at_call 59; refine c.out.mono ?_; rintro e w' ⟨rfl, rfl⟩)
  exact bodyPost_ret (v := .tuple #[.agg #[.int .i64 0, .int .i64 0, .int .i64 0], .bool false]) (by simp [results, Tryd.results42, go_sem]) rfl ⟨rfl, below2 _ _ _⟩

theorem readVersion_three (s a b d : ByteArray) (m : Int) (w : World) (hs : s.size ≤ 1048576) (hm : w.cell? ⟨0, 0, none⟩ = some (.int .i64 m)) (h3 : pieces s = [a, b, d])
    (_hN : 3 ≤ min 4 (s.size + 1)) (ha : (a.size : Int) ≤ 4294967296) (hb : (b.size : Int) ≤ 4294967296) (hd : (d.size : Int) ≤ 4294967296) (x y z : Int) (hx : rp a = some x) (hy : rp b = some y) (hz : rp d = some z) :
    Calls Tryd.prog 42 #[.string s] w fun e w' => e = .returned (.tuple #[.agg #[.int .i64 x, .int .i64 y, .int .i64 z], .bool true]) ∧ Below w.heap.size w w' := by
  have c0 := split_any s m _ hs (keepCell (below1 w (.cells #[.int .i64 0, .int .i64 0, .int .i64 0] 60)) hm)
  rw [h3] at c0
  have e0 : (Lib.cellsOf [a, b, d] (min 4 (s.size + 1)))[0]? = some (.string a) := by simp [Lib.cellsOf]
  have e1 : (Lib.cellsOf [a, b, d] (min 4 (s.size + 1)))[1]? = some (.string b) := by simp [Lib.cellsOf]
  have e2 : (Lib.cellsOf [a, b, d] (min 4 (s.size + 1)))[2]? = some (.string d) := by simp [Lib.cellsOf]
  generalize Lib.cellsOf [a, b, d] (min 4 (s.size + 1)) = C at *
  generalize min 4 (s.size + 1) = N at *
  have c := Lib.hid c0
  have A1 : Hid (∀ W : World, Calls Tryd.prog 60 #[.string a] W fun e w' => e = .returned (.tuple #[.int .i64 x, .bool true]) ∧ Below W.heap.size W w') := fun W => by have := readPart_any a ha W; rw [hx] at this; exact this
  have A2 : Hid (∀ W : World, Calls Tryd.prog 60 #[.string b] W fun e w' => e = .returned (.tuple #[.int .i64 y, .bool true]) ∧ Below W.heap.size W w') := fun W => by have := readPart_any b hb W; rw [hy] at this; exact this
  have A3 : Hid (∀ W : World, Calls Tryd.prog 60 #[.string d] W fun e w' => e = .returned (.tuple #[.int .i64 z, .bool true]) ∧ Below W.heap.size W w') := fun W => by have := readPart_any d hd W; rw [hz] at this; exact this
  clear c0 hm h3 hx hy hz
  go_enter Tryd.func42, Tryd.ntmps42
  go_wp2_with fail
  go_at_call 59
  refine c.out.mono ?_
  rintro e w1 ⟨rfl, rfl⟩
  go_wp2_with fail
  have e1' : (((w.alloc (.cells #[.int .i64 0, .int .i64 0, .int .i64 0] 60)).alloc (.cells C 9))).cell? ⟨w.heap.size + 1, 1, none⟩ = some (.string b) := by simpa using e1
  have e2' : (((w.alloc (.cells #[.int .i64 0, .int .i64 0, .int .i64 0] 60)).alloc (.cells C 9))).cell? ⟨w.heap.size + 1, 2, none⟩ = some (.string d) := by simpa using e2
  go_at_call 60
  refine (A1.out _).mono ?_
  rintro e v1 ⟨rfl, hb1⟩
  have q1 := keepCell hb1 e1'
  have q2 := keepCell hb1 e2'
  have K1 := hb1
  have hB1 : Below w.heap.size w v1 := bchain (below2 _ _ _) hb1 (by simp; omega)
  clear hb1 e0 e1 e2 e1' e2'
  go_wp2_with fail
  go_at_call 60
  refine (A2.out _).mono ?_
  rintro e v2 ⟨rfl, hb2⟩
  have q3 := keepCell hb2 q2
  have hB2 := bchain hB1 hb2 hB1.size
  have K2 := bchain K1 hb2 K1.size
  clear hb2 q1 q2 hB1 K1
  go_wp2_with fail
  go_at_call 60
  refine (A3.out _).mono ?_
  rintro e v3 ⟨rfl, hb3⟩
  have hB3 := bchain hB2 hb3 hB2.size
  have K3 := bchain K2 hb3 K2.size
  have r0 := keepCell (a := ⟨w.heap.size, 0, none⟩) (v := .int .i64 0) K3 (by simp)
  have f0 : v3.frozen? ⟨w.heap.size, 0, none⟩ = false := by rw [(bcell K3).2 _ _ (by simp; omega)]; simp
  have r1 := keepCell (a := ⟨w.heap.size, 1, none⟩) (v := .int .i64 0) K3 (by simp)
  have f1 : v3.frozen? ⟨w.heap.size, 1, none⟩ = false := by rw [(bcell K3).2 _ _ (by simp; omega)]; simp
  have r2 := keepCell (a := ⟨w.heap.size, 2, none⟩) (v := .int .i64 0) K3 (by simp)
  have f2 : v3.frozen? ⟨w.heap.size, 2, none⟩ = false := by rw [(bcell K3).2 _ _ (by simp; omega)]; simp
  clear hb3 q3 hB2 K2 K3
  go_wp2_with fail
  refine bodyPost_ret (v := .tuple #[.agg #[.int .i64 x, .int .i64 y, .int .i64 z], .bool true]) ?_ rfl ⟨rfl, ((hB3.setCell (Nat.le_refl _) _).setCell (Nat.le_refl _) _).setCell (Nat.le_refl _) _⟩
  first
    | (simp [results, Tryd.results42, go_sem, r0, r1, r2]; done)
    | (unfold results; rw [Tryd.results42]; go_simp)

theorem readVersion_bad (s a b d : ByteArray) (m : Int) (w : World) (hs : s.size ≤ 1048576) (hm : w.cell? ⟨0, 0, none⟩ = some (.int .i64 m)) (h3 : pieces s = [a, b, d])
    (_hN : 3 ≤ min 4 (s.size + 1)) (ha : (a.size : Int) ≤ 4294967296) (hb : (b.size : Int) ≤ 4294967296) (hd : (d.size : Int) ≤ 4294967296) (x y z : Int) (p q t : Bool) (hx : outR (rp a) = .tuple #[.int .i64 x, .bool p]) (hy : outR (rp b) = .tuple #[.int .i64 y, .bool q]) (hz : outR (rp d) = .tuple #[.int .i64 z, .bool t]) (hpqt : (p && q && t) = false) :
    Calls Tryd.prog 42 #[.string s] w fun e w' => e = .returned (.tuple #[.agg #[.int .i64 0, .int .i64 0, .int .i64 0], .bool false]) ∧ Below w.heap.size w w' := by
  have c0 := split_any s m _ hs (keepCell (below1 w (.cells #[.int .i64 0, .int .i64 0, .int .i64 0] 60)) hm)
  rw [h3] at c0
  have e0 : (Lib.cellsOf [a, b, d] (min 4 (s.size + 1)))[0]? = some (.string a) := by simp [Lib.cellsOf]
  have e1 : (Lib.cellsOf [a, b, d] (min 4 (s.size + 1)))[1]? = some (.string b) := by simp [Lib.cellsOf]
  have e2 : (Lib.cellsOf [a, b, d] (min 4 (s.size + 1)))[2]? = some (.string d) := by simp [Lib.cellsOf]
  generalize Lib.cellsOf [a, b, d] (min 4 (s.size + 1)) = C at *
  generalize min 4 (s.size + 1) = N at *
  have c := Lib.hid c0
  have A1 : Hid (∀ W : World, Calls Tryd.prog 60 #[.string a] W fun e w' => e = .returned (.tuple #[.int .i64 x, .bool p]) ∧ Below W.heap.size W w') := fun W => by have := readPart_any a ha W; rw [hx] at this; exact this
  have A2 : Hid (∀ W : World, Calls Tryd.prog 60 #[.string b] W fun e w' => e = .returned (.tuple #[.int .i64 y, .bool q]) ∧ Below W.heap.size W w') := fun W => by have := readPart_any b hb W; rw [hy] at this; exact this
  have A3 : Hid (∀ W : World, Calls Tryd.prog 60 #[.string d] W fun e w' => e = .returned (.tuple #[.int .i64 z, .bool t]) ∧ Below W.heap.size W w') := fun W => by have := readPart_any d hd W; rw [hz] at this; exact this
  clear c0 hm h3 hx hy hz
  go_enter Tryd.func42, Tryd.ntmps42
  go_wp2_with fail
  go_at_call 59
  refine c.out.mono ?_
  rintro e w1 ⟨rfl, rfl⟩
  go_wp2_with fail
  have e1' : (((w.alloc (.cells #[.int .i64 0, .int .i64 0, .int .i64 0] 60)).alloc (.cells C 9))).cell? ⟨w.heap.size + 1, 1, none⟩ = some (.string b) := by simpa using e1
  have e2' : (((w.alloc (.cells #[.int .i64 0, .int .i64 0, .int .i64 0] 60)).alloc (.cells C 9))).cell? ⟨w.heap.size + 1, 2, none⟩ = some (.string d) := by simpa using e2
  go_at_call 60
  refine (A1.out _).mono ?_
  rintro e v1 ⟨rfl, hb1⟩
  have q1 := keepCell hb1 e1'
  have q2 := keepCell hb1 e2'
  have K1 := hb1
  have hB1 : Below w.heap.size w v1 := bchain (below2 _ _ _) hb1 (by simp; omega)
  clear hb1 e0 e1 e2 e1' e2'
  go_wp2_with fail
  go_at_call 60
  refine (A2.out _).mono ?_
  rintro e v2 ⟨rfl, hb2⟩
  have q3 := keepCell hb2 q2
  have hB2 := bchain hB1 hb2 hB1.size
  have K2 := bchain K1 hb2 K1.size
  clear hb2 q1 q2 hB1 K1
  go_wp2_with fail
  go_at_call 60
  refine (A3.out _).mono ?_
  rintro e v3 ⟨rfl, hb3⟩
  have hB3 := bchain hB2 hb3 hB2.size
  have K3 := bchain K2 hb3 K2.size
  have r0 := keepCell (a := ⟨w.heap.size, 0, none⟩) (v := .int .i64 0) K3 (by simp)
  have f0 : v3.frozen? ⟨w.heap.size, 0, none⟩ = false := by rw [(bcell K3).2 _ _ (by simp; omega)]; simp
  have r1 := keepCell (a := ⟨w.heap.size, 1, none⟩) (v := .int .i64 0) K3 (by simp)
  have f1 : v3.frozen? ⟨w.heap.size, 1, none⟩ = false := by rw [(bcell K3).2 _ _ (by simp; omega)]; simp
  have r2 := keepCell (a := ⟨w.heap.size, 2, none⟩) (v := .int .i64 0) K3 (by simp)
  have f2 : v3.frozen? ⟨w.heap.size, 2, none⟩ = false := by rw [(bcell K3).2 _ _ (by simp; omega)]; simp
  clear hb3 q3 hB2 K2 K3
  cases p <;> cases q <;> cases t
  case true.true.true => exact absurd hpqt (by decide)
  all_goals
    go_wp2_with fail
    first
      | (refine bodyPost_ret (v := .tuple #[.agg #[.int .i64 0, .int .i64 0, .int .i64 0], .bool false]) ?_ rfl ⟨rfl, hB3⟩; simp [results, Tryd.results42, go_sem, r0, r1, r2]; done)
      | (refine bodyPost_ret (v := .tuple #[.agg #[.int .i64 0, .int .i64 0, .int .i64 0], .bool false]) ?_ rfl ⟨rfl, ((hB3.setCell (Nat.le_refl _) _).setCell (Nat.le_refl _) _).setCell (Nat.le_refl _) _⟩; simp [results, Tryd.results42, go_sem, r0, r1, r2]; done)
end Go.Proofs.YtofnpcpglldjhaaDoor
