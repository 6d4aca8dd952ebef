/-
  The walk of readVersion.
-/
import Derived.Test.YtfadodmkppeodabDoorRPMath
import Derived.Ground.NamesProg
import Derived.Shelf.Lay
import Derived.Shelf.Strings.SplitShaped
namespace Go.Proofs
open Go.Shelf
def Tryd.laysSN_ren : Go.Shelf.Ren := ⟨fun | 147 => 48 | 221 => 56 | 268 => 62 | 138 => 63 | 143 => 64 | 195 => 69 | 197 => 70 | 218 => 71 | 219 => 72 | 260 => 78 | 217 => 51 | 225 => 79 | 224 => 80 | 267 => 81 | 266 => 58 | 314 => 84 | n => n, fun | 9 => 9 | 3 => 3 | 31 => 60 | 4 => 4 | 0 => 0 | 105 => 84 | 21 => 21 | 5 => 5 | 46 => 71 | 119 => 67 | 139 => 70 | 138 => 69 | 146 => 94 | 51 => 89 | n => n, fun | 1 => 2 | 3 => 0 | 4 => 1 | n => n⟩
theorem Tryd.laysSN : Go.Proofs.LaysM.n147 Tryd.prog Tryd.laysSN_ren := {
  mixed := by kernel_rfl
  f138 := Tryd.func63.trans (congrArg some (by kernel_rfl))
  f143 := Tryd.func64.trans (congrArg some (by kernel_rfl))
  f147 := Tryd.func48.trans (congrArg some (by kernel_rfl))
  f195 := Tryd.func69.trans (congrArg some (by kernel_rfl))
  f197 := Tryd.func70.trans (congrArg some (by kernel_rfl))
  f217 := Tryd.func51.trans (congrArg some (by kernel_rfl))
  f218 := Tryd.func71.trans (congrArg some (by kernel_rfl))
  f219 := Tryd.func72.trans (congrArg some (by kernel_rfl))
  f221 := Tryd.func56.trans (congrArg some (by kernel_rfl))
  f224 := Tryd.func80.trans (congrArg some (by kernel_rfl))
  f225 := Tryd.func79.trans (congrArg some (by kernel_rfl))
  f260 := Tryd.func78.trans (congrArg some (by kernel_rfl))
  f266 := Tryd.func58.trans (congrArg some (by kernel_rfl))
  f267 := Tryd.func81.trans (congrArg some (by kernel_rfl))
  f268 := Tryd.func62.trans (congrArg some (by kernel_rfl))
  f314 := Tryd.func84.trans (congrArg some (by kernel_rfl))
  t0 := Tryd.underlying0
  a0 := Tryd.isAgg0
  z0 := Tryd.sizeOf0
  v0 := Tryd.zeroValue0
  t3 := Tryd.underlying3
  a3 := Tryd.isAgg3
  z3 := Tryd.sizeOf3
  v3 := Tryd.zeroValue3
  t4 := Tryd.underlying4
  a4 := Tryd.isAgg4
  z4 := Tryd.sizeOf4
  v4 := Tryd.zeroValue4
  t5 := Tryd.underlying5
  a5 := Tryd.isAgg5
  z5 := Tryd.sizeOf5
  v5 := Tryd.zeroValue5
  t9 := Tryd.underlying9
  a9 := Tryd.isAgg9
  z9 := Tryd.sizeOf9
  v9 := Tryd.zeroValue9
  t21 := Tryd.underlying21
  a21 := Tryd.isAgg21
  z21 := Tryd.sizeOf21
  v21 := Tryd.zeroValue21
  t31 := Tryd.underlying60
  a31 := Tryd.isAgg60
  z31 := Tryd.sizeOf60
  v31 := Tryd.zeroValue60
  t46 := Tryd.underlying71
  a46 := Tryd.isAgg71
  z46 := Tryd.sizeOf71
  v46 := Tryd.zeroValue71
  t51 := Tryd.underlying89
  a51 := Tryd.isAgg89
  z51 := Tryd.sizeOf89
  v51 := Tryd.zeroValue89
  t105 := Tryd.underlying84
  a105 := Tryd.isAgg84
  z105 := Tryd.sizeOf84
  v105 := Tryd.zeroValue84
  t119 := Tryd.underlying67
  a119 := Tryd.isAgg67
  z119 := Tryd.sizeOf67
  t138 := Tryd.underlying69
  a138 := Tryd.isAgg69
  z138 := Tryd.sizeOf69
  v138 := Tryd.zeroValue69
  t139 := Tryd.underlying70
  a139 := Tryd.isAgg70
  z139 := Tryd.sizeOf70
  v139 := Tryd.zeroValue70
  t146 := Tryd.underlying94
  a146 := Tryd.isAgg94
  z146 := Tryd.sizeOf94
  v146 := Tryd.zeroValue94
  g1 := by kernel_rfl
  g3 := by kernel_rfl
  g4 := by kernel_rfl
  i0 := by kernel_rfl
  i3 := by kernel_rfl
  i4 := by kernel_rfl
  i5 := by kernel_rfl
  i9 := by kernel_rfl
  i21 := by kernel_rfl
  i31 := by kernel_rfl
  i46 := by kernel_rfl
  i51 := by kernel_rfl
  i105 := by kernel_rfl
  i138 := by kernel_rfl
  i139 := by kernel_rfl
  i146 := by kernel_rfl
  m1 := by kernel_rfl
  s1_3 := fun w h => Go.Proofs.cell_of_shapedOpen_int (zero := #[.int .i64 0]) (t := 3) h (of_decide_eq_true (by kernel_rfl)) (by kernel_rfl) rfl (by kernel_rfl) (by kernel_rfl) Tryd.underlying3
  m3 := by kernel_rfl
  m4 := by kernel_rfl }
end Go.Proofs
namespace Go.Proofs.YtfadodmkppeodabDoor
open Go.ChangeShapes Go.WideShapes Go.ChangeAt Go.RowKit

/-- The pieces between the dots, at most four. -/
def pieces (s : ByteArray) : List ByteArray := Lib.splitB ⟨#[46]⟩ 0 (min 4 (s.size + 1) - 1) s

theorem split_any (s : ByteArray) (m : Int) (w : World) (hs : s.size ≤ 1048576) (hm : w.cell? ⟨2, 0, none⟩ = some (.int .i64 m)) :
    Calls Tryd.prog 48 #[.string s, .string ⟨#[46]⟩, .int .i64 4] w fun e w' =>
      e = .returned (.slice (some ⟨w.heap.size, 0, none⟩) (pieces s).length (min 4 (s.size + 1))) ∧ w' = w.alloc (.cells (Lib.cellsOf (pieces s) (min 4 (s.size + 1))) 9) :=
  Any.strings_SplitN { Tryd.laysSN with } Tryd.laysSN.i9 s ⟨#[46]⟩ 4 m w (by omega) hm (by decide) (by decide) (by decide)

theorem readVersion_few (s : ByteArray) (m : Int) (w : World) (hs : s.size ≤ 1048576) (hm : w.cell? ⟨2, 0, none⟩ = some (.int .i64 m)) (h3 : (pieces s).length ≠ 3) :
    Calls Tryd.prog 33 #[.string s] w fun e w' => e = .returned (.tuple #[.agg #[.int .i64 0, .int .i64 0, .int .i64 0], .bool false]) ∧ Below w.heap.size w w' := by
  have c0 := split_any s m _ hs (keepCell (below1 w (.cells #[.int .i64 0, .int .i64 0, .int .i64 0] 43)) hm)
  have c := Lib.hid c0
  clear c0
  have h4 : (((pieces s).length : Int) == 3) = false := by rw [beq_eq_false_iff_ne]; omega
  have h5 : ¬ ((pieces s).length : Int) = 3 := by omega
  generalize pieces s = ps at *
  go_enter Tryd.func33, Tryd.ntmps33
  go_wp2_with (go_at_call 48; refine c.out.mono ?_; rintro e w' ⟨rfl, rfl⟩)
  exact bodyPost_ret (v := .tuple #[.agg #[.int .i64 0, .int .i64 0, .int .i64 0], .bool false]) (by simp [results, Tryd.results33, go_sem]) rfl ⟨rfl, below2 _ _ _⟩

theorem readVersion_three (s a b d : ByteArray) (m : Int) (w : World) (hs : s.size ≤ 1048576) (hm : w.cell? ⟨2, 0, none⟩ = some (.int .i64 m)) (h3 : pieces s = [a, b, d])
    (_hN : 3 ≤ min 4 (s.size + 1)) (ha : (a.size : Int) ≤ 4294967296) (hb : (b.size : Int) ≤ 4294967296) (hd : (d.size : Int) ≤ 4294967296) (x y z : Int) (hx : rp a = some x) (hy : rp b = some y) (hz : rp d = some z) :
    Calls Tryd.prog 33 #[.string s] w fun e w' => e = .returned (.tuple #[.agg #[.int .i64 x, .int .i64 y, .int .i64 z], .bool true]) ∧ Below w.heap.size w w' := by
  have c0 := split_any s m _ hs (keepCell (below1 w (.cells #[.int .i64 0, .int .i64 0, .int .i64 0] 43)) hm)
  rw [h3] at c0
  have e0 : (Lib.cellsOf [a, b, d] (min 4 (s.size + 1)))[0]? = some (.string a) := by simp [Lib.cellsOf]
  have e1 : (Lib.cellsOf [a, b, d] (min 4 (s.size + 1)))[1]? = some (.string b) := by simp [Lib.cellsOf]
  have e2 : (Lib.cellsOf [a, b, d] (min 4 (s.size + 1)))[2]? = some (.string d) := by simp [Lib.cellsOf]
  generalize Lib.cellsOf [a, b, d] (min 4 (s.size + 1)) = C at *
  generalize min 4 (s.size + 1) = N at *
  have c := Lib.hid c0
  have A1 : Hid (∀ W : World, Calls Tryd.prog 49 #[.string a] W fun e w' => e = .returned (.tuple #[.int .i64 x, .bool true]) ∧ Below W.heap.size W w') := fun W => by have := readPart_any a ha W; rw [hx] at this; exact this
  have A2 : Hid (∀ W : World, Calls Tryd.prog 49 #[.string b] W fun e w' => e = .returned (.tuple #[.int .i64 y, .bool true]) ∧ Below W.heap.size W w') := fun W => by have := readPart_any b hb W; rw [hy] at this; exact this
  have A3 : Hid (∀ W : World, Calls Tryd.prog 49 #[.string d] W fun e w' => e = .returned (.tuple #[.int .i64 z, .bool true]) ∧ Below W.heap.size W w') := fun W => by have := readPart_any d hd W; rw [hz] at this; exact this
  clear c0 hm h3 hx hy hz
  go_enter Tryd.func33, Tryd.ntmps33
  go_wp2_with fail
  go_at_call 48
  refine c.out.mono ?_
  rintro e w1 ⟨rfl, rfl⟩
  go_wp2_with fail
  have e1' : (((w.alloc (.cells #[.int .i64 0, .int .i64 0, .int .i64 0] 43)).alloc (.cells C 9))).cell? ⟨w.heap.size + 1, 1, none⟩ = some (.string b) := by simpa using e1
  have e2' : (((w.alloc (.cells #[.int .i64 0, .int .i64 0, .int .i64 0] 43)).alloc (.cells C 9))).cell? ⟨w.heap.size + 1, 2, none⟩ = some (.string d) := by simpa using e2
  go_at_call 49
  refine (A1.out _).mono ?_
  rintro e v1 ⟨rfl, hb1⟩
  have q1 := keepCell hb1 e1'
  have q2 := keepCell hb1 e2'
  have K1 := hb1
  have hB1 : Below w.heap.size w v1 := bchain (below2 _ _ _) hb1 (by simp; omega)
  clear hb1 e0 e1 e2 e1' e2'
  go_wp2_with fail
  go_at_call 49
  refine (A2.out _).mono ?_
  rintro e v2 ⟨rfl, hb2⟩
  have q3 := keepCell hb2 q2
  have hB2 := bchain hB1 hb2 hB1.size
  have K2 := bchain K1 hb2 K1.size
  clear hb2 q1 q2 hB1 K1
  go_wp2_with fail
  go_at_call 49
  refine (A3.out _).mono ?_
  rintro e v3 ⟨rfl, hb3⟩
  have hB3 := bchain hB2 hb3 hB2.size
  have K3 := bchain K2 hb3 K2.size
  have r0 := keepCell (a := ⟨w.heap.size, 0, none⟩) (v := .int .i64 0) K3 (by simp)
  have f0 : v3.frozen? ⟨w.heap.size, 0, none⟩ = false := by rw [(bcell K3).2 _ _ (by simp; omega)]; simp
  have r1 := keepCell (a := ⟨w.heap.size, 1, none⟩) (v := .int .i64 0) K3 (by simp)
  have f1 : v3.frozen? ⟨w.heap.size, 1, none⟩ = false := by rw [(bcell K3).2 _ _ (by simp; omega)]; simp
  have r2 := keepCell (a := ⟨w.heap.size, 2, none⟩) (v := .int .i64 0) K3 (by simp)
  have f2 : v3.frozen? ⟨w.heap.size, 2, none⟩ = false := by rw [(bcell K3).2 _ _ (by simp; omega)]; simp
  clear hb3 q3 hB2 K2 K3
  go_wp2_with fail
  refine bodyPost_ret (v := .tuple #[.agg #[.int .i64 x, .int .i64 y, .int .i64 z], .bool true]) ?_ rfl ⟨rfl, ((hB3.setCell (Nat.le_refl _) _).setCell (Nat.le_refl _) _).setCell (Nat.le_refl _) _⟩
  first
    | (simp [results, Tryd.results33, go_sem, r0, r1, r2]; done)
    | (unfold results; rw [Tryd.results33]; go_simp)

theorem readVersion_bad (s a b d : ByteArray) (m : Int) (w : World) (hs : s.size ≤ 1048576) (hm : w.cell? ⟨2, 0, none⟩ = some (.int .i64 m)) (h3 : pieces s = [a, b, d])
    (_hN : 3 ≤ min 4 (s.size + 1)) (ha : (a.size : Int) ≤ 4294967296) (hb : (b.size : Int) ≤ 4294967296) (hd : (d.size : Int) ≤ 4294967296) (x y z : Int) (p q t : Bool) (hx : outR (rp a) = .tuple #[.int .i64 x, .bool p]) (hy : outR (rp b) = .tuple #[.int .i64 y, .bool q]) (hz : outR (rp d) = .tuple #[.int .i64 z, .bool t]) (hpqt : (p && q && t) = false) :
    Calls Tryd.prog 33 #[.string s] w fun e w' => e = .returned (.tuple #[.agg #[.int .i64 0, .int .i64 0, .int .i64 0], .bool false]) ∧ Below w.heap.size w w' := by
  have c0 := split_any s m _ hs (keepCell (below1 w (.cells #[.int .i64 0, .int .i64 0, .int .i64 0] 43)) hm)
  rw [h3] at c0
  have e0 : (Lib.cellsOf [a, b, d] (min 4 (s.size + 1)))[0]? = some (.string a) := by simp [Lib.cellsOf]
  have e1 : (Lib.cellsOf [a, b, d] (min 4 (s.size + 1)))[1]? = some (.string b) := by simp [Lib.cellsOf]
  have e2 : (Lib.cellsOf [a, b, d] (min 4 (s.size + 1)))[2]? = some (.string d) := by simp [Lib.cellsOf]
  generalize Lib.cellsOf [a, b, d] (min 4 (s.size + 1)) = C at *
  generalize min 4 (s.size + 1) = N at *
  have c := Lib.hid c0
  have A1 : Hid (∀ W : World, Calls Tryd.prog 49 #[.string a] W fun e w' => e = .returned (.tuple #[.int .i64 x, .bool p]) ∧ Below W.heap.size W w') := fun W => by have := readPart_any a ha W; rw [hx] at this; exact this
  have A2 : Hid (∀ W : World, Calls Tryd.prog 49 #[.string b] W fun e w' => e = .returned (.tuple #[.int .i64 y, .bool q]) ∧ Below W.heap.size W w') := fun W => by have := readPart_any b hb W; rw [hy] at this; exact this
  have A3 : Hid (∀ W : World, Calls Tryd.prog 49 #[.string d] W fun e w' => e = .returned (.tuple #[.int .i64 z, .bool t]) ∧ Below W.heap.size W w') := fun W => by have := readPart_any d hd W; rw [hz] at this; exact this
  clear c0 hm h3 hx hy hz
  go_enter Tryd.func33, Tryd.ntmps33
  go_wp2_with fail
  go_at_call 48
  refine c.out.mono ?_
  rintro e w1 ⟨rfl, rfl⟩
  go_wp2_with fail
  have e1' : (((w.alloc (.cells #[.int .i64 0, .int .i64 0, .int .i64 0] 43)).alloc (.cells C 9))).cell? ⟨w.heap.size + 1, 1, none⟩ = some (.string b) := by simpa using e1
  have e2' : (((w.alloc (.cells #[.int .i64 0, .int .i64 0, .int .i64 0] 43)).alloc (.cells C 9))).cell? ⟨w.heap.size + 1, 2, none⟩ = some (.string d) := by simpa using e2
  go_at_call 49
  refine (A1.out _).mono ?_
  rintro e v1 ⟨rfl, hb1⟩
  have q1 := keepCell hb1 e1'
  have q2 := keepCell hb1 e2'
  have K1 := hb1
  have hB1 : Below w.heap.size w v1 := bchain (below2 _ _ _) hb1 (by simp; omega)
  clear hb1 e0 e1 e2 e1' e2'
  go_wp2_with fail
  go_at_call 49
  refine (A2.out _).mono ?_
  rintro e v2 ⟨rfl, hb2⟩
  have q3 := keepCell hb2 q2
  have hB2 := bchain hB1 hb2 hB1.size
  have K2 := bchain K1 hb2 K1.size
  clear hb2 q1 q2 hB1 K1
  go_wp2_with fail
  go_at_call 49
  refine (A3.out _).mono ?_
  rintro e v3 ⟨rfl, hb3⟩
  have hB3 := bchain hB2 hb3 hB2.size
  have K3 := bchain K2 hb3 K2.size
  have r0 := keepCell (a := ⟨w.heap.size, 0, none⟩) (v := .int .i64 0) K3 (by simp)
  have f0 : v3.frozen? ⟨w.heap.size, 0, none⟩ = false := by rw [(bcell K3).2 _ _ (by simp; omega)]; simp
  have r1 := keepCell (a := ⟨w.heap.size, 1, none⟩) (v := .int .i64 0) K3 (by simp)
  have f1 : v3.frozen? ⟨w.heap.size, 1, none⟩ = false := by rw [(bcell K3).2 _ _ (by simp; omega)]; simp
  have r2 := keepCell (a := ⟨w.heap.size, 2, none⟩) (v := .int .i64 0) K3 (by simp)
  have f2 : v3.frozen? ⟨w.heap.size, 2, none⟩ = false := by rw [(bcell K3).2 _ _ (by simp; omega)]; simp
  clear hb3 q3 hB2 K2 K3
  cases p <;> cases q <;> cases t
  case true.true.true => exact absurd hpqt (by decide)
  all_goals
    go_wp2_with fail
    first
      | (refine bodyPost_ret (v := .tuple #[.agg #[.int .i64 0, .int .i64 0, .int .i64 0], .bool false]) ?_ rfl ⟨rfl, hB3⟩; simp [results, Tryd.results33, go_sem, r0, r1, r2]; done)
      | (refine bodyPost_ret (v := .tuple #[.agg #[.int .i64 0, .int .i64 0, .int .i64 0], .bool false]) ?_ rfl ⟨rfl, ((hB3.setCell (Nat.le_refl _) _).setCell (Nat.le_refl _) _).setCell (Nat.le_refl _) _⟩; simp [results, Tryd.results33, go_sem, r0, r1, r2]; done)
end Go.Proofs.YtfadodmkppeodabDoor
