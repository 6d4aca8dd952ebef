/-
  Lines, LinesA: in one text.
-/
import Derived.Test.YtbjcldekapipaaaGreatDoorRowB
import Derived.Test.YtbjcldekapipaaaGreatDoorStrsP
import Derived.OwnWalk
import Derived.Laws.AppendOwn
import Derived.Laws.OwnMore
import Derived.Ground.NamesProg
import Derived.Shelf.Lay
import Derived.Shelf.Strings.OnBuilder
import Derived.Lib.Join
import Derived.Deep.RegionLaw
import Derived.Deep.RegionHeld3
namespace Go.Proofs
open Go.Shelf
def Tryz.lays156_ren : Go.Shelf.Ren := ⟨fun | 156 => 83 | 165 => 113 | 166 => 114 | 169 => 115 | 240 => 137 | 241 => 138 | 276 => 160 | 277 => 161 | n => n, fun | 31 => 106 | 9 => 9 | 3 => 3 | 4 => 4 | 0 => 0 | 20 => 20 | 72 => 153 | 76 => 157 | 70 => 151 | 37 => 63 | 75 => 156 | 127 => 177 | 164 => 194 | 5 => 5 | 80 => 159 | n => n, fun | n => n⟩
theorem Tryz.lays156 : Go.Proofs.Lays.n156 Tryz.prog Tryz.lays156_ren := {
  mixed := by kernel_rfl
  f156 := Tryz.func83.trans (congrArg some (by kernel_rfl))
  f165 := Tryz.func113.trans (congrArg some (by kernel_rfl))
  f166 := Tryz.func114.trans (congrArg some (by kernel_rfl))
  f169 := Tryz.func115.trans (congrArg some (by kernel_rfl))
  f240 := Tryz.func137.trans (congrArg some (by kernel_rfl))
  f241 := Tryz.func138.trans (congrArg some (by kernel_rfl))
  f276 := Tryz.func160.trans (congrArg some (by kernel_rfl))
  f277 := Tryz.func161.trans (congrArg some (by kernel_rfl))
  t0 := Tryz.underlying0
  a0 := Tryz.isAgg0
  z0 := Tryz.sizeOf0
  v0 := Tryz.zeroValue0
  t3 := Tryz.underlying3
  a3 := Tryz.isAgg3
  z3 := Tryz.sizeOf3
  v3 := Tryz.zeroValue3
  t4 := Tryz.underlying4
  a4 := Tryz.isAgg4
  z4 := Tryz.sizeOf4
  v4 := Tryz.zeroValue4
  t9 := Tryz.underlying9
  a9 := Tryz.isAgg9
  z9 := Tryz.sizeOf9
  v9 := Tryz.zeroValue9
  t20 := Tryz.underlying20
  a20 := Tryz.isAgg20
  z20 := Tryz.sizeOf20
  v20 := Tryz.zeroValue20
  t31 := Tryz.underlying106
  a31 := Tryz.isAgg106
  z31 := Tryz.sizeOf106
  v31 := Tryz.zeroValue106
  t37 := Tryz.underlying63
  a37 := Tryz.isAgg63
  z37 := Tryz.sizeOf63
  v37 := Tryz.zeroValue63
  t70 := Tryz.underlying151
  a70 := Tryz.isAgg151
  z70 := Tryz.sizeOf151
  v70 := Tryz.zeroValue151
  t72 := Tryz.underlying153
  a72 := Tryz.isAgg153
  z72 := Tryz.sizeOf153
  v72 := Tryz.zeroValue153
  t75 := Tryz.underlying156
  a75 := Tryz.isAgg156
  z75 := Tryz.sizeOf156
  v75 := Tryz.zeroValue156
  t76 := Tryz.underlying157
  a76 := Tryz.isAgg157
  z76 := Tryz.sizeOf157
  v76 := Tryz.zeroValue157
  t127 := Tryz.underlying177
  a127 := Tryz.isAgg177
  z127 := Tryz.sizeOf177
  v127 := Tryz.zeroValue177
  t164 := Tryz.underlying194
  a164 := Tryz.isAgg194
  z164 := Tryz.sizeOf194
  v164 := Tryz.zeroValue194 }
theorem Tryz.Builder_Extra_156 : Builder.Extra Tryz.prog Tryz.lays156_ren where
  sizeBuilder := by kernel_rfl
  liesBuilder := by kernel_rfl
  t5 := Tryz.underlying5
  a5 := Tryz.isAgg5
  z5 := Tryz.sizeOf5
  v5 := Tryz.zeroValue5
  infoByte := by kernel_rfl
  cellsByte := by kernel_rfl
  sizeByte := by kernel_rfl
  neB5 := by decide
end Go.Proofs
namespace Go.Proofs.YtbjcldekapipaaaGreatDoor
open Go Go.RowKit Go.ChangeShapes Go.WideShapes Go.ChangeAt Go.Deep

/-- A source is appended. -/
theorem RowB.appSrc {B : Nat} {w : World} {g c : Nat} {s : ByteArray} (h : RowB B w g c s) (t : ByteArray) (hz : s.size + t.size ≤ 1048576) (ty tx : TypeId) (x : Value) (hs1 : Src Tryz.prog 1 tx x t.size (byteCells t) w) : ∃ (g' c' : Nat) (w' : World),
    (Builtin.append_ #[64, tx] ty #[.slice (some ⟨g, 0, none⟩) s.size c, x]).run Tryz.prog w = .ok (.slice (some ⟨g', 0, none⟩) (s ++ t).size c') w' ∧ RowB B w' g' c' (s ++ t) ∧ Below B w w' ∧ w.heap.size ≤ w'.heap.size ∧ (∀ k, k < w.heap.size → k ≠ g → w'.heap[k]? = w.heap[k]?) ∧ (g' = g ∨ g' = w.heap.size) := by
  obtain ⟨i0, hi0, hz0, hz1, hz2⟩ := info_parts Tryz.infoU8
  have hs0 := hs1
  rw [← hz1] at hs0
  have hl := byteCells_length t
  have hls := byteCells_length s
  have hsum : (s ++ t).size = s.size + t.size := ByteArray.size_append
  rw [hsum]
  have hnew := h.new
  have hlt := h.lt
  have hmx := h.max
  by_cases hroom : s.size + t.size ≤ c
  · have hthere : ∀ j, j < (byteCells t).length → (w.cell? ⟨g, s.size + j, none⟩).isSome = true ∧ w.frozen? ⟨g, s.size + j, none⟩ = false := fun j hj => h.there _ (by omega)
    have hr := run_append_room_src (P := Tryz.prog) w 64 tx ty 5 i0 Tryz.underlying64 hi0 g 0 s.size c x t.size (byteCells t) hs0 hroom
      (fun j hj => by rw [hz1, Nat.zero_add, Nat.mul_one]; exact (hthere j hj).1) (fun j hj => by rw [hz1, Nat.zero_add, Nat.mul_one]; exact (hthere j hj).2)
    rw [hz1, Nat.zero_add, Nat.mul_one] at hr
    refine ⟨g, c, _, hr, ⟨hnew, by rw [size_setCells]; exact hlt, by rw [hsum]; exact hroom, hmx, fun j u hu => ?_, fun j hj => ⟨?_, ?_⟩⟩, below_setCells g hnew _ _ (Below.refl _ _), by rw [size_setCells]; exact Nat.le_refl _, fun k hk hne => World.heap_setCells_other w g _ _ hk hne, Or.inl rfl⟩
    · rw [byteCells_app] at hu
      by_cases hj : j < s.size
      · rw [List.getElem?_append_left (by omega)] at hu
        rw [World.cell?_setCells_out g _ _ _ _ (fun _ _ => Or.inl hj)]
        exact h.holds j u hu
      · rw [List.getElem?_append_right (by omega), hls] at hu
        have hjt := (List.getElem?_eq_some_iff.1 hu).1
        have := World.cell?_setCells_in g (byteCells t) s.size w (fun j hj => (hthere j hj).1) (j - s.size) hjt
        rw [show s.size + (j - s.size) = j by omega] at this
        rw [this, ← hu, List.getElem?_eq_getElem hjt]
    · exact World.isSome_setCells g _ _ _ _ (h.there j hj).1
    · rw [World.frozen?_setCells]; exact (h.there j hj).2
  · have hold : (Builtin.firstCells i0.size s.size (.slice (some ⟨g, 0, none⟩) s.size c)).run Tryz.prog w.drew = .ok (byteCells s).toArray w.drew :=
      run_firstCells_some w.drew i0.size s.size ⟨g, 0, none⟩ s.size c (byteCells s) (by rw [hls, hz1]; omega) h.old
    have hr := run_append_grow_src (P := Tryz.prog) w 64 tx ty 5 i0 _ Tryz.underlying64 hi0 hz0 (some ⟨g, 0, none⟩) s.size c (byteCells s) hold x t.size (byteCells t) hs0 (by omega) (by omega) (growslice_fits (by omega) (by rw [hz2]; omega))
    have hge := grownCap_ge w (s.size + t.size) c 5
    have hcm := grownCap_le_maxLen w (s.size + t.size) c 5 (by unfold maxLen; omega)
    have hBw : B ≤ w.heap.size := by omega
    refine ⟨w.heap.size, _, _, hr, ⟨hBw, by simp, by rw [hsum]; exact hge, hcm, fun j u hu => ?_, fun j hj => ⟨?_, ?_⟩⟩, ((Below.refl B w).drew).alloc hBw _, by simp, fun k hk _ => Below.heap_alloc w.drew _ k hk, Or.inr rfl⟩
    · have e1 : (w.drew.alloc (.cells (((byteCells s) ++ (byteCells t)).toArray ++ Builtin.zeroCells (Value.int .u8 0).cells (grownCap w (s.size + t.size) c 5 - (s.size + t.size))) 5)).cell? ⟨w.heap.size, j, none⟩ = _ := World.cell?_alloc_new w.drew _ _ j
      rw [e1, ← byteCells_app]
      have hj := (List.getElem?_eq_some_iff.1 hu).1
      rw [Array.getElem?_append_left (by simpa using hj), List.getElem?_toArray]
      exact hu
    · have e1 : (w.drew.alloc (.cells (((byteCells s) ++ (byteCells t)).toArray ++ Builtin.zeroCells (Value.int .u8 0).cells (grownCap w (s.size + t.size) c 5 - (s.size + t.size))) 5)).cell? ⟨w.heap.size, j, none⟩ = _ := World.cell?_alloc_new w.drew _ _ j
      rw [e1]
      have hsize : (((byteCells s) ++ (byteCells t)).toArray ++ Builtin.zeroCells (Value.int .u8 0).cells (grownCap w (s.size + t.size) c 5 - (s.size + t.size))).size = grownCap w (s.size + t.size) c 5 := by
        have hz8 : (Value.int IntKind.u8 0).cells.size = 1 := rfl
        simp only [Array.size_append, List.size_toArray, List.length_append, hls, hl, size_zeroCells, hz8]
        omega
      rw [Array.getElem?_eq_getElem (by omega)]
      rfl
    · exact World.frozen?_alloc_new w.drew _ _ j
/-- Appended to none. -/
theorem RowB.nilSrc (w : World) (t : ByteArray) (h1 : 1 ≤ t.size) (hz : t.size ≤ 1048576) (ty tx : TypeId) (x : Value) (hs1 : Src Tryz.prog 1 tx x t.size (byteCells t) w) : ∃ (c' : Nat) (w' : World),
    (Builtin.append_ #[64, tx] ty #[.slice none 0 0, x]).run Tryz.prog w = .ok (.slice (some ⟨w.heap.size, 0, none⟩) t.size c') w' ∧ RowB w.heap.size w' w.heap.size c' t ∧ Below w.heap.size w w' := by
  obtain ⟨i0, hi0, hz0, hz1, hz2⟩ := info_parts Tryz.infoU8
  have hs0 := hs1
  rw [← hz1] at hs0
  have hl := byteCells_length t
  have hold : (Builtin.firstCells i0.size 0 (.slice none 0 0)).run Tryz.prog w.drew = .ok ([] : List Value).toArray w.drew := run_firstCells_none w.drew i0.size 0 0 0
  have hr := run_append_grow_src (P := Tryz.prog) w 64 tx ty 5 i0 _ Tryz.underlying64 hi0 hz0 none 0 0 [] hold x t.size (byteCells t) hs0 (by omega) (by omega) (growslice_fits (by omega) (by rw [hz2]; omega))
  have hge := grownCap_ge w (0 + t.size) 0 5
  have hcm := grownCap_le_maxLen w (0 + t.size) 0 5 (by unfold maxLen; omega)
  rw [Nat.zero_add, List.nil_append] at hr
  rw [Nat.zero_add] at hge hcm
  refine ⟨_, _, hr, ⟨Nat.le_refl _, by simp, hge, hcm, fun j u hu => ?_, fun j hj => ⟨?_, ?_⟩⟩, ((Below.refl w.heap.size w).drew).alloc (Nat.le_refl _) _⟩
  · have e1 : (w.drew.alloc (.cells ((byteCells t).toArray ++ Builtin.zeroCells (Value.int .u8 0).cells (grownCap w t.size 0 5 - t.size)) 5)).cell? ⟨w.heap.size, j, none⟩ = _ := World.cell?_alloc_new w.drew _ _ j
    rw [e1]
    have hj := (List.getElem?_eq_some_iff.1 hu).1
    rw [Array.getElem?_append_left (by simpa using hj), List.getElem?_toArray]
    exact hu
  · have e1 : (w.drew.alloc (.cells ((byteCells t).toArray ++ Builtin.zeroCells (Value.int .u8 0).cells (grownCap w t.size 0 5 - t.size)) 5)).cell? ⟨w.heap.size, j, none⟩ = _ := World.cell?_alloc_new w.drew _ _ j
    rw [e1]
    have hsize : ((byteCells t).toArray ++ Builtin.zeroCells (Value.int .u8 0).cells (grownCap w t.size 0 5 - t.size)).size = grownCap w t.size 0 5 := by
      have hz8 : (Value.int IntKind.u8 0).cells.size = 1 := rfl
      simp only [Array.size_append, List.size_toArray, hl, size_zeroCells, hz8]
      omega
    rw [Array.getElem?_eq_getElem (by omega)]
    rfl
  · exact World.frozen?_alloc_new w.drew _ _ j
/-- A string again. -/
theorem RowB.backL {B : Nat} {w : World} {g c : Nat} {s : ByteArray} (h : RowB B w g c s) : (convert 64 9 (.slice (some ⟨g, 0, none⟩) s.size c)).run Tryz.prog w = .ok (.string s) w := by
  have hb := run_convert_bytes_arg w 64 5 Tryz.underlying64 Tryz.underlying5 g 0 s.size c (s.data.toList.map fun b => (b.toNat : Int)) (by simp) (fun i hi => by
    rw [Nat.zero_add]
    refine h.holds i _ ?_
    unfold byteCells
    have hj2 : i < s.data.toList.length := by simpa using hi
    rw [List.getElem?_map, List.getElem?_eq_getElem hj2, List.getD_eq_getElem?_getD, List.getElem?_map, List.getElem?_eq_getElem hj2]
    rfl) 9 Tryz.underlying9
  have e : strOfNums (s.data.toList.map fun b => (b.toNat : Int)) = s := by
    refine ByteArray.ext (Array.toList_inj.mp ?_)
    rw [strOfNums_data, List.map_map]
    conv => rhs; rw [← List.map_id' s.data.toList]
    apply List.map_congr_left
    intro b _
    simp
  rw [hb, e]
/-- At the list of a plain region's operations. -/
theorem wpList_app_src {w w' : World} {ops : Array Oper} {rest : List Oper} {o : Oper} {a : Act} {Q : Exit → Act → World → Prop} (hgd : o.guard = none) (q x : Operand) (t tx : TypeId)
    (ho : o.op = .call { callee := .builtin .append, args := #[q, x], argTypes := #[t, tx] }) (v vx v' : Value) (hs : a.eval q = v) (hx : a.eval x = vx)
    (hr : (Builtin.append_ #[t, tx] o.type #[v, vx]).run Tryz.prog w = .ok v' w') (hK : wpList Tryz.prog ops Q rest (a.put o.dst v') w') :
    wpList Tryz.prog ops Q (o :: rest) a w := by
  refine wpList_plain hgd fun K hK' => ?_
  unfold Oper.wp execOp
  simp only [ho, resolve, invoke, builtin, Sem.run_bind, Sem.run_pure, Result.andThen_ok, List.map_toArray, List.map_cons, List.map_nil, hs, hx, hr]
  exact hK' _ _ hK
/-- At a step of a region that draws its order. -/
theorem step_app_src {w w' : World} {ops : Array Oper} {o : Oper} {a : Act} {K : Act → World → Prop} {Q : Exit → Act → World → Prop} {E : Prop} (hg : o.guard = none) (q x : Operand) (t tx : TypeId)
    (ho : o.op = .call { callee := .builtin .append, args := #[q, x], argTypes := #[t, tx] }) (v vx v' : Value) (hs : a.eval q = v) (hx : a.eval x = vx)
    (hr : (Builtin.append_ #[t, tx] o.type #[v, vx]).run Tryz.prog w = .ok v' w') (hK : K (a.put o.dst v') w') :
    if Region.wanted o (yielded ops a.tmps) = true then Oper.wp Tryz.prog o a w K Q else E := by
  have hw : Region.wanted o (yielded ops a.tmps) = true := by simp [Region.wanted, hg]
  rw [if_pos hw]
  unfold Oper.wp
  simp [execOp, ho, resolve, invoke, builtin, hs, hx, hr, Result.andThen]
  exact hK

def joinL (xs : List ByteArray) : ByteArray := ⟨(Lib.join (xs.map (·.data.toList)) [32]).toArray⟩
theorem joinRow (xs : List ByteArray) (g c : Nat) (w : World) (h : ∀ (i : Nat) (s : ByteArray), xs[i]? = some s → w.cell? ⟨g, i, none⟩ = some (.string s)) (hlt : g < w.heap.size) (hc : xs.length ≤ c) (hn : xs.length ≤ 1000) (hs : (joinL xs).size ≤ 1048576) :
    Calls Tryz.prog 83 #[.slice (some ⟨g, 0, none⟩) xs.length c, .string ⟨#[32]⟩] w fun e w' => e = .returned (.string (joinL xs)) ∧ Below w.heap.size w w' := by
  refine Any.strings_Join Tryz.lays156 Tryz.Builder_Extra_156 g 0 c xs ⟨#[32]⟩ w (fun j x hx => ?_) hlt (by omega) hc ?_
  · rw [Nat.zero_add]
    exact h j x hx
  · have e : (joinL xs).size = (Lib.join (xs.map (·.data.toList)) [32]).length := by
      unfold joinL
      simp [ByteArray.size]
    rw [e] at hs
    show (Lib.join (xs.map (·.data.toList)) [32]).length ≤ 140737488355328
    omega
def nlT : ByteArray := ⟨#[10]⟩
/-- Where the row of one's own is handed on: a cell that points to it. -/
structure LineAt (P : Nat) (w : World) (g c : Nat) (s : ByteArray) : Prop where
  cell : w.cell? ⟨P, 0, none⟩ = some (.slice (some ⟨g, 0, none⟩) s.size c)
  soft : w.frozen? ⟨P, 0, none⟩ = false
  row : RowB (P + 1) w g c s
theorem LineAt.below {P : Nat} {w w' : World} {g c : Nat} {s : ByteArray} (h : LineAt P w g c s) (hb : Below w.heap.size w w') : LineAt P w' g c s := by
  have hlt : P < w.heap.size := by
    have := h.row.new
    have := h.row.lt
    omega
  exact ⟨keepCell hb h.cell, by rw [World.frozen?_of_block (hb.block P hlt)]; exact h.soft, h.row.below hb⟩
end Go.Proofs.YtbjcldekapipaaaGreatDoor

namespace Go.Proofs.YtbjcldekapipaaaGreatDoor
open Go Go.RowKit Go.ChangeShapes Go.WideShapes Go.ChangeAt Go.Deep

/-- A cell that points to no row yet. -/
structure NilAt (P : Nat) (w : World) : Prop where
  cell : w.cell? ⟨P, 0, none⟩ = some (.slice none 0 0)
  soft : w.frozen? ⟨P, 0, none⟩ = false
  lt : P < w.heap.size
theorem NilAt.below {P : Nat} {w w' : World} (h : NilAt P w) (hb : Below w.heap.size w w') : NilAt P w' :=
  ⟨keepCell hb h.cell, by rw [World.frozen?_of_block (hb.block P h.lt)]; exact h.soft, Nat.lt_of_lt_of_le h.lt hb.size⟩
/-- What holds when the new row has been stored. -/
structure Stored (P : Nat) (w w5 : World) (g5 c5 : Nat) (t : ByteArray) (X : Nat → Prop) : Prop where
  old : ∃ v, w5.cell? ⟨P, 0, none⟩ = some v
  soft : w5.frozen? ⟨P, 0, none⟩ = false
  new : LineAt P (w5.setCell ⟨P, 0, none⟩ (.slice (some ⟨g5, 0, none⟩) t.size c5)) g5 c5 t
  below : Below P w (w5.setCell ⟨P, 0, none⟩ (.slice (some ⟨g5, 0, none⟩) t.size c5))
  rest : ∀ k, k < w.heap.size → k ≠ P → X k → (w5.setCell ⟨P, 0, none⟩ (.slice (some ⟨g5, 0, none⟩) t.size c5)).heap[k]? = w.heap[k]?
  size : w.heap.size ≤ (w5.setCell ⟨P, 0, none⟩ (.slice (some ⟨g5, 0, none⟩) t.size c5)).heap.size
theorem Stored.mk' {P : Nat} {w w5 : World} {g5 c5 : Nat} {t : ByteArray} {X : Nat → Prop} {v0 : Value} (hP : P < w.heap.size) (hXP : X P) (hc : w.cell? ⟨P, 0, none⟩ = some v0) (hf : w.frozen? ⟨P, 0, none⟩ = false) (hr : RowB (P + 1) w5 g5 c5 t) (hb : Below P w w5)
    (hk : ∀ k, k < w.heap.size → X k → w5.heap[k]? = w.heap[k]?) (hs : w.heap.size ≤ w5.heap.size) : Stored P w w5 g5 c5 t X := by
  have hcell : w5.cell? ⟨P, 0, none⟩ = some v0 := (World.cell?_of_block (hk P hP hXP)).trans hc
  have hfr : w5.frozen? ⟨P, 0, none⟩ = false := (World.frozen?_of_block (hk P hP hXP)).trans hf
  have hin := World.cell?_setCells_in P [Value.slice (some ⟨g5, 0, none⟩) t.size c5] 0 w5 (fun j hj => by
    obtain rfl : j = 0 := by simpa using hj
    rw [Nat.zero_add, hcell]
    rfl) 0 (by simp)
  have hne : g5 ≠ P := by have := hr.new; omega
  have hsz := size_setCells P [Value.slice (some ⟨g5, 0, none⟩) t.size c5] 0 w5
  exact ⟨⟨v0, hcell⟩, hfr, ⟨hin, (World.frozen?_setCells P [Value.slice (some ⟨g5, 0, none⟩) t.size c5] 0 w5 _).trans hfr, hr.same (Nat.le_of_eq hsz.symm) (World.heap_setCells_other w5 P 0 [Value.slice (some ⟨g5, 0, none⟩) t.size c5] hr.lt hne)⟩, below_setCells P (Nat.le_refl _) [Value.slice (some ⟨g5, 0, none⟩) t.size c5] 0 hb,
    fun k h1 h2 h3 => (World.heap_setCells_other w5 P 0 [Value.slice (some ⟨g5, 0, none⟩) t.size c5] (by omega) h2).trans (hk k h1 h3), Nat.le_trans hs (Nat.le_of_eq hsz.symm)⟩
theorem LineAt.lt {P : Nat} {w : World} {g c : Nat} {s : ByteArray} (h : LineAt P w g c s) : P < w.heap.size := by
  have := h.row.new
  have := h.row.lt
  omega
theorem LineAt.store {P g c g5 c5 : Nat} {s t : ByteArray} {w w5 : World} (hL : LineAt P w g c s) (hr : RowB (P + 1) w5 g5 c5 t) (hb : Below (P + 1) w w5) (hk : ∀ k, k < w.heap.size → k ≠ g → w5.heap[k]? = w.heap[k]?) (hs : w.heap.size ≤ w5.heap.size) : Stored P w w5 g5 c5 t (fun k => k ≠ g) :=
  Stored.mk' hL.lt (by have := hL.row.new; omega) hL.cell hL.soft hr (hb.mono (by omega)) hk hs
theorem first_nil {P c5 : Nat} {t : ByteArray} {w w5 : World} (hL : NilAt P w) (hr : RowB w.heap.size w5 w.heap.size c5 t) (hb : Below w.heap.size w w5) : Stored P w w5 w.heap.size c5 t (fun _ => True) :=
  Stored.mk' hL.lt trivial hL.cell hL.soft (hr.mono hL.lt) (hb.mono (Nat.le_of_lt hL.lt)) (fun k hk _ => hb.block k hk) hb.size

set_option maxHeartbeats 2000000 in
set_option maxRecDepth 100000 in
theorem add_nil (xs : List ByteArray) (hn : xs.length ≤ 8) (hj : (joinL xs).size ≤ 2000) (P gx cx : Nat) (w : World) (h0 : w.cell? ⟨P, 0, none⟩ = some (.slice none 0 0)) (hfz : w.frozen? ⟨P, 0, none⟩ = false) (hPw : P < w.heap.size) (hj1 : 1 ≤ (joinL xs).size) (hx : ∀ (i : Nat) (x : ByteArray), xs[i]? = some x → w.cell? ⟨gx, i, none⟩ = some (.string x)) (hlt : gx < w.heap.size) (hcx : xs.length ≤ cx) :
    Calls Tryz.prog 36 #[.pointer (some ⟨P, 0, none⟩), .slice (some ⟨gx, 0, none⟩) xs.length cx] w fun e w' => e = .returned (.tuple #[]) ∧ ∃ g' c', LineAt P w' g' c' (joinL xs ++ nlT) ∧ Below P w w' := by
  have CJ := Lib.hid (fun W (hb : Below w.heap.size w W) => joinRow xs gx cx W (fun i x hi => keepCell hb (hx i x hi)) (by have := hb.size; omega) hcx (by omega) (by omega))
  have HJ : Hid (1 ≤ (joinL xs).size ∧ (joinL xs).size ≤ 2000) := Lib.hid ⟨hj1, hj⟩
  have c0 := h0
  have f0 := hfz
  have cd := fun (W : World) (hb : Below w.heap.size w W) => keepCell hb h0
  have HN : Hid (NilAt P w) := Lib.hid ⟨h0, hfz, hPw⟩
  clear h0 hfz hx hlt hcx hj hj1 hn
  go_enter Tryz.func36, Tryz.ntmps36
  go_wp2_with fail
  go_region_law
    (first
      | (go_simp; go_at_call 83; (with_reducible refine (CJ.out _ (Below.refl _ _).drew).mono ?_); rintro e w1 ⟨rfl, hb1⟩; have hbw : Below w.heap.size w w1 := (Below.refl w.heap.size w).drew.trans hb1; have H1 := HN.out.below hbw; have c1 := H1.cell; have f1 := H1.soft; have HB1 := Lib.hid hbw; obtain ⟨c5, w5, hr5, hrow5, hb5⟩ := RowB.nilSrc w1 (joinL xs) HJ.out.1 (by have := HJ.out.2; omega) 64 9 (.string (joinL xs)) (Src.ofString w1 Tryz.underlying9 (joinL xs)); have H6 := Lib.hid (first_nil H1 hrow5 hb5); obtain ⟨v5, c5v⟩ := H6.out.old; have f5 := H6.out.soft; clear hbw hb1)
      | (refine step_app_src rfl (.tmp 7) (.tmp 9) 64 9 rfl _ _ _ (by rfl) (by rfl) hr5 ?_))
  all_goals
    have L6 := H6.out.new
    have B6 := H6.out.below
    have R6 := H6.out.rest
    have S6 := H6.out.size
    have B1 := HB1.out
    obtain ⟨w6, hw6⟩ : ∃ w6, w5.setCell ⟨P, 0, none⟩ (.slice (some ⟨w1.heap.size, 0, none⟩) (joinL xs).size c5) = w6 := ⟨_, rfl⟩
    rw [hw6] at L6 B6 R6 S6
    rw [hw6]
    clear hw6 H6 hrow5 hb5 hr5 c5v f5
    obtain ⟨t6, ht6⟩ : ∃ t, joinL xs = t := ⟨_, rfl⟩
    rw [ht6] at L6
    have hz6 : t6.size ≤ 102000 := by rw [← ht6]; have := HJ.out.2; omega
    have W7 := L6.below (below1 w6 (.cells #[.int .u8 10] 5))
    obtain ⟨g8, c8, w8, hr8, hrow8, hb8, hsz8, hk8, hg8⟩ := RowB.appSrc W7.row nlT (by have e : nlT.size = 1 := rfl; omega) 64 64 (.slice (some ⟨w6.heap.size, 0, none⟩) 1 1) (Src.ofSlice (w6.alloc (.cells #[.int .u8 10] 5)) Tryz.underlying64 ⟨w6.heap.size, 0, none⟩ 1 1 (byteCells nlT) rfl (fun j u hu => by
      rw [Addr.add_lit, Nat.zero_add]
      refine (World.cell?_alloc_new w6 _ _ j).trans ?_
      match j with
      | 0 => exact hu
      | j + 1 => cases hu) (fun u hu => by
      obtain ⟨_, _, rfl⟩ := List.mem_map.1 hu
      rfl))
    have H8 := W7.store hrow8 hb8 hk8 hsz8
    obtain ⟨v8, c8v⟩ := H8.old
    have f8 := H8.soft
    have c6 := L6.cell
    have f6 := L6.soft
    have H8 := Lib.hid H8
    have L6 := Lib.hid L6
    have B6 := Lib.hid B6
    have R6 := Lib.hid R6
    have S6 := Lib.hid S6
    have B1 := Lib.hid B1
    have K8 := Lib.hid hk8
    have G8 := Lib.hid hg8
    have T6 := Lib.hid ht6
    have HSL : Hid ((t6 ++ nlT).size = t6.size + nlT.size) := Lib.hid ByteArray.size_append
    clear hrow8 hb8 hk8 hsz8 hg8 W7 ht6 hz6 c0 f0 c1 f1
    go_wp2_with (at_builtin; refine wpList_app_src rfl (.tmp 15) (.tmp 16) 64 64 rfl _ _ _ (by rfl) (by rfl) hr8 ?_)
    have L8 := H8.out.new
    have B8 := H8.out.below
    have R8 := H8.out.rest
    rw [HSL.out] at L8 B8 R8
    exact bodyPost_end (v := .tuple #[]) (by simp [results, Tryz.results36, go_sem]) rfl ⟨rfl, g8, c8, by rw [T6.out]; exact L8, (B1.out.mono (Nat.le_of_lt HN.out.lt)).trans (B6.out.trans (((Below.refl _ _).alloc (by have := L6.out.lt; omega) _).trans B8))⟩

set_option maxHeartbeats 2000000 in
set_option maxRecDepth 100000 in
theorem add_any (xs : List ByteArray) (hn : xs.length ≤ 8) (hj : (joinL xs).size ≤ 2000) (P g c gx cx : Nat) (w : World) (s : ByteArray) (hs : s.size ≤ 100000) (hL : LineAt P w g c s) (hx : ∀ (i : Nat) (x : ByteArray), xs[i]? = some x → w.cell? ⟨gx, i, none⟩ = some (.string x)) (hlt : gx < w.heap.size) (hcx : xs.length ≤ cx) :
    Calls Tryz.prog 36 #[.pointer (some ⟨P, 0, none⟩), .slice (some ⟨gx, 0, none⟩) xs.length cx] w fun e w' => e = .returned (.tuple #[]) ∧ ∃ g' c', LineAt P w' g' c' (s ++ (joinL xs ++ nlT)) ∧ Below P w w' ∧ (∀ k, k < w.heap.size → k ≠ P → k ≠ g → w'.heap[k]? = w.heap[k]?) := by
  have CJ := Lib.hid (fun W (hb : Below w.heap.size w W) => joinRow xs gx cx W (fun i x hi => keepCell hb (hx i x hi)) (by have := hb.size; omega) hcx (by omega) (by omega))
  have HJ : Hid (True ∧ (joinL xs).size ≤ 2000) := Lib.hid ⟨trivial, hj⟩
  have HS := Lib.hid hs
  have c0 := hL.cell
  have f0 := hL.soft
  have HN := Lib.hid hL
  clear hL hx hlt hcx hj hn hs
  go_enter Tryz.func36, Tryz.ntmps36
  go_wp2_with fail
  go_region_law
    (first
      | (go_simp; go_at_call 83; (with_reducible refine (CJ.out _ (Below.refl _ _).drew).mono ?_); rintro e w1 ⟨rfl, hb1⟩; have hbw : Below w.heap.size w w1 := (Below.refl w.heap.size w).drew.trans hb1; have H1 := HN.out.below hbw; have c1 := H1.cell; have f1 := H1.soft; have HB1 := Lib.hid hbw; obtain ⟨g5, c5, w5, hr5, hrow5, hb5, hsz5, hk5, hg5⟩ := RowB.appSrc H1.row (joinL xs) (by have := HJ.out.2; have := HS.out; omega) 64 9 (.string (joinL xs)) (Src.ofString w1 Tryz.underlying9 (joinL xs)); have GQ := Lib.hid hg5; have H6 := Lib.hid (H1.store hrow5 hb5 hk5 hsz5); obtain ⟨v5, c5v⟩ := H6.out.old; have f5 := H6.out.soft; clear hbw hb1)
      | (refine step_app_src rfl (.tmp 7) (.tmp 9) 64 9 rfl _ _ _ (by rfl) (by rfl) hr5 ?_))
  all_goals
    have L6 := H6.out.new
    have B6 := H6.out.below
    have R6 := H6.out.rest
    have S6 := H6.out.size
    have B1 := HB1.out
    have hsum : (s ++ joinL xs).size = s.size + (joinL xs).size := ByteArray.size_append
    rw [hsum] at L6 B6 R6 S6
    obtain ⟨w6, hw6⟩ : ∃ w6, w5.setCell ⟨P, 0, none⟩ (.slice (some ⟨g5, 0, none⟩) (s.size + (joinL xs).size) c5) = w6 := ⟨_, rfl⟩
    rw [hw6] at L6 B6 R6 S6
    rw [hw6]
    clear hw6 H6 hrow5 hb5 hr5 c5v f5
    obtain ⟨t6, ht6⟩ : ∃ t, s ++ joinL xs = t := ⟨_, rfl⟩
    rw [ht6] at L6
    have hz6 : t6.size ≤ 102000 := by rw [← ht6]; rw [hsum]; have := HJ.out.2; have := HS.out; omega
    have W7 := L6.below (below1 w6 (.cells #[.int .u8 10] 5))
    obtain ⟨g8, c8, w8, hr8, hrow8, hb8, hsz8, hk8, hg8⟩ := RowB.appSrc W7.row nlT (by have e : nlT.size = 1 := rfl; omega) 64 64 (.slice (some ⟨w6.heap.size, 0, none⟩) 1 1) (Src.ofSlice (w6.alloc (.cells #[.int .u8 10] 5)) Tryz.underlying64 ⟨w6.heap.size, 0, none⟩ 1 1 (byteCells nlT) rfl (fun j u hu => by
      rw [Addr.add_lit, Nat.zero_add]
      refine (World.cell?_alloc_new w6 _ _ j).trans ?_
      match j with
      | 0 => exact hu
      | j + 1 => cases hu) (fun u hu => by
      obtain ⟨_, _, rfl⟩ := List.mem_map.1 hu
      rfl))
    have H8 := W7.store hrow8 hb8 hk8 hsz8
    obtain ⟨v8, c8v⟩ := H8.old
    have f8 := H8.soft
    have c6 := L6.cell
    have f6 := L6.soft
    have H8 := Lib.hid H8
    have L6 := Lib.hid L6
    have B6 := Lib.hid B6
    have R6 := Lib.hid R6
    have S6 := Lib.hid S6
    have B1 := Lib.hid B1
    have K8 := Lib.hid hk8
    have G8 := Lib.hid hg8
    have T6 := Lib.hid ht6
    have HSL : Hid ((t6 ++ nlT).size = t6.size + nlT.size) := Lib.hid ByteArray.size_append
    clear hrow8 hb8 hk8 hsz8 hg8 W7 ht6 hz6 c0 f0 c1 f1
    go_wp2_with (at_builtin; refine wpList_app_src rfl (.tmp 15) (.tmp 16) 64 64 rfl _ _ _ (by rfl) (by rfl) hr8 ?_)
    have L8 := H8.out.new
    have B8 := H8.out.below
    have R8 := H8.out.rest
    rw [HSL.out] at L8 B8 R8
    refine bodyPost_end (v := .tuple #[]) (by simp [results, Tryz.results36, go_sem]) rfl ⟨rfl, g8, c8, by rw [← ByteArray.append_assoc, T6.out]; exact L8, (B1.out.mono (Nat.le_of_lt HN.out.lt)).trans (B6.out.trans (((Below.refl _ _).alloc (by have := L6.out.lt; omega) _).trans B8)), fun k h1 h2 h3 => ?_⟩
    have e1 := R8 k (by have := S6.out; have := B1.size; simp; omega) h2 (by rcases GQ.out with rfl | rfl <;> (have := B1.size; omega))
    have e2 := R6.out k (by have := B1.size; omega) h2 h3
    exact e1.trans ((Below.heap_alloc w6 _ k (by have := S6.out; have := B1.size; omega)).trans (e2.trans (B1.block k h1)))
end Go.Proofs.YtbjcldekapipaaaGreatDoor

