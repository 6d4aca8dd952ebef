/-
  A row of bytes in a block of one's own, told by its cells: made of a string, appended to by strings, and turned into a string again.
-/
import Derived.Test.YtbjcldekapipaaaGreatDoorU8
import Derived.Laws.BytesArg
import Derived.Laws.IdiomCopy
import Derived.Deep.AppendSrc
import Derived.Deep.Upon
import Derived.Deep.MidRow
import Derived.Lib.ConvBytes
namespace Go.Proofs.YtbjcldekapipaaaGreatDoor
open Go Go.RowKit Go.ChangeShapes

/-- The bytes of s lie in a block of one's own, no block of W's; there is room up to the capacity. -/
structure RowB (B : Nat) (w : World) (g c : Nat) (s : ByteArray) : Prop where
  new : B ≤ g
  lt : g < w.heap.size
  le : s.size ≤ c
  max : c ≤ maxLen
  holds : ∀ j u, (byteCells s)[j]? = some u → w.cell? ⟨g, j, none⟩ = some u
  there : ∀ j, j < c → (w.cell? ⟨g, j, none⟩).isSome = true ∧ w.frozen? ⟨g, j, none⟩ = false

theorem RowB.same {B : Nat} {w w' : World} {g c : Nat} {s : ByteArray} (h : RowB B w g c s) (hs : w.heap.size ≤ w'.heap.size) (e : w'.heap[g]? = w.heap[g]?) : RowB B w' g c s := by
  have hc : ∀ j, w'.cell? ⟨g, j, none⟩ = w.cell? ⟨g, j, none⟩ := fun j => World.cell?_of_block e
  have hf : ∀ j, w'.frozen? ⟨g, j, none⟩ = w.frozen? ⟨g, j, none⟩ := fun j => World.frozen?_of_block e
  exact ⟨h.new, by have := h.lt; omega, h.le, h.max, fun j u hu => (hc j).trans (h.holds j u hu), fun j hj => by rw [hc, hf]; exact h.there j hj⟩
theorem RowB.mono {A B : Nat} {w : World} {g c : Nat} {s : ByteArray} (h : RowB B w g c s) (hA : A ≤ B) : RowB A w g c s := ⟨by have := h.new; omega, h.lt, h.le, h.max, h.holds, h.there⟩
theorem RowB.below {B : Nat} {w w' : World} {g c : Nat} {s : ByteArray} (h : RowB B w g c s) (hb : Below w.heap.size w w') : RowB B w' g c s := h.same hb.size (hb.block g h.lt)
theorem byteCells_app (s t : ByteArray) : byteCells (s ++ t) = byteCells s ++ byteCells t := by
  unfold byteCells
  rw [ByteArray.data_append, Array.toList_append, List.map_append]
theorem RowB.old {B : Nat} {w : World} {g c : Nat} {s : ByteArray} (h : RowB B w g c s) : ∀ j u, (byteCells s)[j]? = some u → w.cell? ((⟨g, 0, none⟩ : Addr).add j) = some u := fun j u hu => by
  rw [Addr.add_lit, Nat.zero_add]
  exact h.holds j u hu

theorem below_setCells {B : Nat} {a : World} (b : Nat) (hb : B ≤ b) : ∀ (vs : List Value) (o : Nat) {w : World}, Below B a w → Below B a (w.setCells b o vs)
  | [], _, _, h => h
  | v :: vs, o, _, h => below_setCells b hb vs (o + 1) (h.setCell hb v)
theorem size_setCells (b : Nat) : ∀ (vs : List Value) (o : Nat) (w : World), (w.setCells b o vs).heap.size = w.heap.size
  | [], _, _ => rfl
  | v :: vs, o, w => (size_setCells b vs (o + 1) _).trans (by simp [World.setCell])

/-- Made of a string. -/
theorem RowB.make (W : World) (s : ByteArray) (hs : s.size ≤ 1048576) : ∃ (c : Nat) (w' : World), (convert 9 63 (.string s)).run Tryz.prog W = .ok (.slice (some ⟨W.heap.size, 0, none⟩) s.size c) w' ∧ RowB W.heap.size w' W.heap.size c s ∧ Below W.heap.size W w' := by
  have hc := Lib.run_convert_string_bytes (P := Tryz.prog) W 9 63 5 s Tryz.underlying9 Tryz.underlying63 Tryz.underlying5
  have hge := grownCap_ge W s.size 0 5
  have hcm := grownCap_le_maxLen W s.size 0 5 (by unfold maxLen; omega)
  obtain ⟨W3, hW3⟩ : ∃ W3, Lib.bytesWorld W 5 s = W3 := ⟨_, rfl⟩
  have hold := Lib.bytesWorld_at_old W 5 s
  have hnew := Lib.bytesWorld_at_new W 5 s
  have hsz := Lib.bytesWorld_size W 5 s
  have hcl := Lib.bytesWorld_cell W 5 s
  rw [hW3] at hc hold hnew hsz hcl
  have hos : W3.os = W.os ∧ W3.tape = W.tape ∧ W3.output = W.output := by rw [← hW3]; exact ⟨rfl, rfl, rfl⟩
  have h2 : (Lib.bytesCells W 5 s).size = s.size + (grownCap W s.size 0 5 - s.size) := by
    simp [Lib.bytesCells]
  refine ⟨_, W3, hc, ⟨Nat.le_refl _, by omega, hge, hcm, fun j u hu => ?_, fun j hj => ⟨?_, ?_⟩⟩, ⟨hos.1, hos.2.1, hos.2.2, by omega, fun k hk => hold k hk⟩⟩
  · have hj : j < s.size := by
      have := (List.getElem?_eq_some_iff.1 hu).1
      rwa [byteCells_length] at this
    rw [hcl j hj]
    unfold byteCells at hu
    rw [List.getElem?_map] at hu
    have hj2 : j < s.data.toList.length := by simpa using hj
    rw [List.getElem?_eq_getElem hj2] at hu
    simp only [Option.map_some] at hu
    rw [← hu, List.getD_eq_getElem?_getD, List.getElem?_eq_getElem hj2]
    rfl
  · simp only [World.cell?, hnew]
    have : j < (Lib.bytesCells W 5 s).size := by omega
    simp [this]
  · simp only [World.frozen?, hnew, h2]
    have h3 : ¬ s.size + (grownCap W s.size 0 5 - s.size) ≤ j := by omega
    simp [h3]

/-- A string is appended. -/
theorem RowB.app {B : Nat} {w : World} {g c : Nat} {s : ByteArray} (h : RowB B w g c s) (t : ByteArray) (hz : s.size + t.size ≤ 1048576) (ty : TypeId) : ∃ (g' c' : Nat) (w' : World),
    (Builtin.append_ #[63, 9] ty #[.slice (some ⟨g, 0, none⟩) s.size c, .string t]).run Tryz.prog w = .ok (.slice (some ⟨g', 0, none⟩) (s ++ t).size c') w' ∧ RowB B w' g' c' (s ++ t) ∧ Below B w w' ∧ w.heap.size ≤ w'.heap.size ∧ (∀ k, k < w.heap.size → k ≠ g → w'.heap[k]? = w.heap[k]?) ∧ (g' = g ∨ g' = w.heap.size) := by
  obtain ⟨i0, hi0, hz0, hz1, hz2⟩ := info_parts Tryz.infoU8
  have hs0 := Src.ofString (P := Tryz.prog) w Tryz.underlying9 t
  rw [← hz1] at hs0
  have hl := byteCells_length t
  have hls := byteCells_length s
  have hsum : (s ++ t).size = s.size + t.size := ByteArray.size_append
  rw [hsum]
  have hnew := h.new
  have hlt := h.lt
  have hmx := h.max
  by_cases hroom : s.size + t.size ≤ c
  · have hthere : ∀ j, j < (byteCells t).length → (w.cell? ⟨g, s.size + j, none⟩).isSome = true ∧ w.frozen? ⟨g, s.size + j, none⟩ = false := fun j hj => h.there _ (by omega)
    have hr := run_append_room_src (P := Tryz.prog) w 63 9 ty 5 i0 Tryz.underlying63 hi0 g 0 s.size c (.string t) t.size (byteCells t) hs0 hroom
      (fun j hj => by rw [hz1, Nat.zero_add, Nat.mul_one]; exact (hthere j hj).1) (fun j hj => by rw [hz1, Nat.zero_add, Nat.mul_one]; exact (hthere j hj).2)
    rw [hz1, Nat.zero_add, Nat.mul_one] at hr
    refine ⟨g, c, _, hr, ⟨hnew, by rw [size_setCells]; exact hlt, by rw [hsum]; exact hroom, hmx, fun j u hu => ?_, fun j hj => ⟨?_, ?_⟩⟩, below_setCells g hnew _ _ (Below.refl _ _), by rw [size_setCells]; exact Nat.le_refl _, fun k hk hne => World.heap_setCells_other w g _ _ hk hne, Or.inl rfl⟩
    · rw [byteCells_app] at hu
      by_cases hj : j < s.size
      · rw [List.getElem?_append_left (by omega)] at hu
        rw [World.cell?_setCells_out g _ _ _ _ (fun _ _ => Or.inl hj)]
        exact h.holds j u hu
      · rw [List.getElem?_append_right (by omega), hls] at hu
        have hjt := (List.getElem?_eq_some_iff.1 hu).1
        have := World.cell?_setCells_in g (byteCells t) s.size w (fun j hj => (hthere j hj).1) (j - s.size) hjt
        rw [show s.size + (j - s.size) = j by omega] at this
        rw [this, ← hu, List.getElem?_eq_getElem hjt]
    · exact World.isSome_setCells g _ _ _ _ (h.there j hj).1
    · rw [World.frozen?_setCells]; exact (h.there j hj).2
  · have hold : (Builtin.firstCells i0.size s.size (.slice (some ⟨g, 0, none⟩) s.size c)).run Tryz.prog w.drew = .ok (byteCells s).toArray w.drew :=
      run_firstCells_some w.drew i0.size s.size ⟨g, 0, none⟩ s.size c (byteCells s) (by rw [hls, hz1]; omega) h.old
    have hr := run_append_grow_src (P := Tryz.prog) w 63 9 ty 5 i0 _ Tryz.underlying63 hi0 hz0 (some ⟨g, 0, none⟩) s.size c (byteCells s) hold (.string t) t.size (byteCells t) hs0 (by omega) (by omega) (growslice_fits (by omega) (by rw [hz2]; omega))
    have hge := grownCap_ge w (s.size + t.size) c 5
    have hcm := grownCap_le_maxLen w (s.size + t.size) c 5 (by unfold maxLen; omega)
    have hBw : B ≤ w.heap.size := by omega
    refine ⟨w.heap.size, _, _, hr, ⟨hBw, by simp, by rw [hsum]; exact hge, hcm, fun j u hu => ?_, fun j hj => ⟨?_, ?_⟩⟩, ((Below.refl B w).drew).alloc hBw _, by simp, fun k hk _ => Below.heap_alloc w.drew _ k hk, Or.inr rfl⟩
    · have e1 : (w.drew.alloc (.cells (((byteCells s) ++ (byteCells t)).toArray ++ Builtin.zeroCells (Value.int .u8 0).cells (grownCap w (s.size + t.size) c 5 - (s.size + t.size))) 5)).cell? ⟨w.heap.size, j, none⟩ = _ := World.cell?_alloc_new w.drew _ _ j
      rw [e1, ← byteCells_app]
      have hj := (List.getElem?_eq_some_iff.1 hu).1
      rw [Array.getElem?_append_left (by simpa using hj), List.getElem?_toArray]
      exact hu
    · have e1 : (w.drew.alloc (.cells (((byteCells s) ++ (byteCells t)).toArray ++ Builtin.zeroCells (Value.int .u8 0).cells (grownCap w (s.size + t.size) c 5 - (s.size + t.size))) 5)).cell? ⟨w.heap.size, j, none⟩ = _ := World.cell?_alloc_new w.drew _ _ j
      rw [e1]
      have hsize : (((byteCells s) ++ (byteCells t)).toArray ++ Builtin.zeroCells (Value.int .u8 0).cells (grownCap w (s.size + t.size) c 5 - (s.size + t.size))).size = grownCap w (s.size + t.size) c 5 := by
        have hz8 : (Value.int IntKind.u8 0).cells.size = 1 := rfl
        simp only [Array.size_append, List.size_toArray, List.length_append, hls, hl, size_zeroCells, hz8]
        omega
      rw [Array.getElem?_eq_getElem (by omega)]
      rfl
    · exact World.frozen?_alloc_new w.drew _ _ j
/-- A string again. -/
theorem RowB.back {B : Nat} {w : World} {g c : Nat} {s : ByteArray} (h : RowB B w g c s) : (convert 63 9 (.slice (some ⟨g, 0, none⟩) s.size c)).run Tryz.prog w = .ok (.string s) w := by
  have hb := run_convert_bytes_arg w 63 5 Tryz.underlying63 Tryz.underlying5 g 0 s.size c (s.data.toList.map fun b => (b.toNat : Int)) (by simp) (fun i hi => by
    rw [Nat.zero_add]
    refine h.holds i _ ?_
    unfold byteCells
    have hj2 : i < s.data.toList.length := by simpa using hi
    rw [List.getElem?_map, List.getElem?_eq_getElem hj2, List.getD_eq_getElem?_getD, List.getElem?_map, List.getElem?_eq_getElem hj2]
    rfl) 9 Tryz.underlying9
  have e : strOfNums (s.data.toList.map fun b => (b.toNat : Int)) = s := by
    refine ByteArray.ext (Array.toList_inj.mp ?_)
    rw [strOfNums_data, List.map_map]
    conv => rhs; rw [← List.map_id' s.data.toList]
    apply List.map_congr_left
    intro b _
    simp
  rw [hb, e]
/-- At the list of a plain region's operations. -/
theorem wpList_app_row {w : World} {ops : Array Oper} {rest : List Oper} {o : Oper} {a : Act} {Q : Exit → Act → World → Prop} (hgd : o.guard = none) (q x : Operand)
    (ho : o.op = .call { callee := .builtin .append, args := #[q, x], argTypes := #[63, 9] })
    {B g c : Nat} {s : ByteArray} (hs : a.eval q = .slice (some ⟨g, 0, none⟩) s.size c) (h : RowB B w g c s) (t : ByteArray) (hx : a.eval x = .string t) (hz : s.size + t.size ≤ 1048576)
    (hK : ∀ g' c' w', RowB B w' g' c' (s ++ t) → Below B w w' → w.heap.size ≤ w'.heap.size → (∀ k, k < w.heap.size → k ≠ g → w'.heap[k]? = w.heap[k]?) → (g' = g ∨ g' = w.heap.size) → wpList Tryz.prog ops Q rest (a.put o.dst (.slice (some ⟨g', 0, none⟩) (s ++ t).size c')) w') :
    wpList Tryz.prog ops Q (o :: rest) a w := by
  refine wpList_plain hgd fun K hK' => ?_
  obtain ⟨g', c', w', hr, h2, h3, h4, h5, h6⟩ := h.app t hz o.type
  unfold Oper.wp execOp
  simp only [ho, resolve, invoke, builtin, Sem.run_bind, Sem.run_pure, Result.andThen_ok, List.map_toArray, List.map_cons, List.map_nil, hs, hx, hr]
  exact hK' _ _ (hK g' c' w' h2 h3 h4 h5 h6)
end Go.Proofs.YtbjcldekapipaaaGreatDoor
