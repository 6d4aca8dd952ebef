/-
  The walk of the program's WriteMem.
-/
import Derived.Test.YtoeofhhmkkpjbaaMeFr
import Derived.Lib.BufferWrite
import Derived.Lib.ConvBytes
import Derived.Laws.AppendOwn
import Derived.Laws.IdiomStrings
import Derived.Laws.IdiomCopy
namespace Go.Proofs.Ytoeofhhmkkpjbaa
open Go.ChangeShapes Go.WideShapes Go.ChangeAt Go.RowKit Go.Deep

/-- Bytes written over a memory's. -/
def putOver (s : ByteArray) (p : Nat) (t : ByteArray) : ByteArray := s.extract 0 p ++ t ++ s.extract (p + t.size) s.size
def memWrite (x : Me) (p : Int) (t : ByteArray) : Me × Int :=
  if memOk x = true then (if 0 ≤ p ∧ 0 ≤ (t.size : Int) ∧ (t.size : Int) ≤ (x.bytes.size : Int) - p then (⟨putOver x.bytes p.toNat t, x.free⟩, 0) else (noMe, 10)) else (noMe, 1)

theorem infoU87 : (Try.prog.info? 5).map (fun i => (i.zero, i.size, i.bytes)) = some (some (.int .u8 0), 1, 1) := by kernel_rfl
theorem sizeOfU87 (w : World) : (Go.sizeOf 5).run Try.prog w = .ok 1 w := by kernel_rfl
/-- A string's bytes. -/
def u8s (s : ByteArray) : List Value := s.data.toList.map fun b => .int .u8 (b.toNat : Int)
theorem u8s_len (s : ByteArray) : (u8s s).length = s.size := by simp [u8s]
theorem u8s_get {s : ByteArray} {j : Nat} (h : j < s.size) : (u8s s)[j]? = some (.int .u8 ((s.data.toList.getD j 0).toNat : Int)) := by
  simp [u8s, List.getD, h]
theorem putOver_size {s t : ByteArray} {p : Nat} (h : p + t.size ≤ s.size) : (putOver s p t).size = s.size := by
  unfold putOver
  simp only [ByteArray.size_append, ByteArray.size_extract]
  omega
theorem putOver_list {s t : ByteArray} {p : Nat} : (putOver s p t).data.toList = s.data.toList.take p ++ t.data.toList ++ s.data.toList.drop (p + t.size) := by
  unfold putOver
  simp only [ByteArray.data_append, Array.toList_append, Lib.extract_data, List.drop_zero, Nat.sub_zero]
  congr 1
  refine List.take_of_length_le ?_
  simp
/-- 'copy(dst, s)', s a string no longer than dst. -/
theorem run_copy_str7 {P : Program} (w : World) (dT sT ty elem : TypeId) (b o dLen dCap : Nat) (t : ByteArray)
    (hu : P.underlying dT = some (.slice elem)) (hz : ∀ w, (Go.sizeOf elem).run P w = .ok 1 w) (hle : t.size ≤ dLen)
    (hc : ∀ j, j < t.size → (w.cell? ⟨b, o + j, none⟩).isSome = true) (hf : ∀ j, j < t.size → w.frozen? ⟨b, o + j, none⟩ = false) :
    (Builtin.copy_ #[dT, sT] ty #[.slice (some ⟨b, o, none⟩) dLen dCap, .string t]).run P w = .ok (goInt t.size) (w.setCells b o (u8s t)) := by
  have hmin : Nat.min t.size dLen = t.size := Nat.min_eq_left hle
  have hl : (t.data.toList.map fun x => Value.int .u8 (x.toNat : Int)).length = t.size := by rw [List.length_map]; simp
  have hst := run_storeCells_cells (P := P) b o (t.data.toList.map fun x => Value.int .u8 (x.toNat : Int)) 0 w (by rw [hl]; simpa using hc) (by rw [hl]; simpa using hf) (by
    intro v hv
    obtain ⟨x, _, rfl⟩ := List.mem_map.1 hv
    rfl)
  simp [Builtin.copy_, run_underlying hu, Builtin.lenOf, Builtin.firstCells, hz, hmin]
  rw [List.take_of_length_le (by rw [hl]; exact Nat.le_refl _), hst]
  rfl
theorem below_cells7 {B : Nat} {a : World} (b : Nat) (hb : B ≤ b) : ∀ (vs : List Value) (o : Nat) {w : World}, Below B a w → Below B a (w.setCells b o vs)
  | [], _, _, h => h
  | v :: r, o, _, h => below_cells7 b hb r (o + 1) (h.setCell (p := ⟨b, o, none⟩) hb v)
/-- The bytes of a string in memory, with some written over them. -/
theorem conv_over (W : World) (s t : ByteArray) (p q : Nat) (hin : p + t.size ≤ s.size) (hq : 0 < t.size → q = p) :
    ∃ (cap : Nat) (W3 W4 : World), (convert 9 34 (.string s)).run Try.prog W = .ok (.slice (some ⟨W.heap.size, 0, none⟩) s.size cap) W3 ∧ s.size ≤ cap ∧
      (Builtin.copy_ #[34, 9] 3 #[.slice (some ⟨W.heap.size, q, none⟩) t.size t.size, .string t]).run Try.prog W3 = .ok (goInt t.size) W4 ∧ Below W.heap.size W W3 ∧ Below W.heap.size W W4 ∧
      ∀ W5, Below W4.heap.size W4 W5 → (convert 34 9 (.slice (some ⟨W.heap.size, 0, none⟩) s.size cap)).run Try.prog W5 = .ok (.string (putOver s p t)) W5 := by
  obtain ⟨i0, hi, hz0, hz1, hz2⟩ := info_parts infoU87
  have hc := Lib.run_convert_string_bytes (P := Try.prog) W 9 34 5 s Try.underlying9 Try.underlying34 Try.underlying5
  obtain ⟨W3, hW3⟩ : ∃ W3, Lib.bytesWorld W 5 s = W3 := ⟨_, rfl⟩
  have hold := Lib.bytesWorld_at_old W 5 s
  have hnew := Lib.bytesWorld_at_new W 5 s
  have hsz := Lib.bytesWorld_size W 5 s
  have hcl := Lib.bytesWorld_cell W 5 s
  rw [hW3] at hc hold hnew hsz hcl
  have hos : W3.os = W.os ∧ W3.tape = W.tape ∧ W3.output = W.output := by rw [← hW3]; exact ⟨rfl, rfl, rfl⟩
  have hb3 : Below W.heap.size W W3 := ⟨hos.1, hos.2.1, hos.2.2, by omega, fun k hk => hold k hk⟩
  have hcap : s.size ≤ grownCap W s.size 0 5 := grownCap_ge _ _ _ _
  have hfz : ∀ j, j < s.size → W3.frozen? ⟨W.heap.size, j, none⟩ = false := fun j hj => by
    have h2 : (Lib.bytesCells W 5 s).size = s.size + (grownCap W s.size 0 5 - s.size) := by
      simp [Lib.bytesCells]
    simp only [World.frozen?, hnew, h2]
    have h3 : ¬ s.size + (grownCap W s.size 0 5 - s.size) ≤ j := by omega
    simp [h3]
  have hqs : ∀ j, j < t.size → q + j < s.size := fun j hj => by
    have := hq (by omega)
    omega
  have hin4 := World.cell?_setCells_in W.heap.size (u8s t) q W3 (fun j hj => by
    rw [u8s_len] at hj
    rw [hcl (q + j) (hqs j hj)]
    rfl)
  have hsl : s.data.toList.length = s.size := by simp
  have htl : t.data.toList.length = t.size := by simp
  have key : ∀ j, j < s.size → (W3.setCells W.heap.size q (u8s t)).cell? ⟨W.heap.size, j, none⟩ = some (.int .u8 (((putOver s p t).data.toList.getD j 0).toNat : Int)) := by
    intro j hj
    have hA : (s.data.toList.take p).length = p := by rw [List.length_take, hsl]; omega
    rw [putOver_list]
    by_cases h1 : p ≤ j ∧ j < p + t.size
    · have hqp := hq (by omega)
      subst hqp
      have h4 := hin4 (j - q) (by rw [u8s_len]; omega)
      rw [show q + (j - q) = j by omega] at h4
      have e := u8s_get (s := t) (j := j - q) (by omega)
      rw [List.getElem?_eq_getElem (by rw [u8s_len]; omega)] at e
      rw [h4, Option.some.inj e]
      have e5 : t.data.toList.getD (j - q) 0 = (s.data.toList.take q ++ t.data.toList ++ s.data.toList.drop (q + t.size)).getD j 0 := by
        simp only [List.getD_eq_getElem?_getD]
        rw [List.getElem?_append_left (by rw [List.length_append, hA, htl]; omega), List.getElem?_append_right (by rw [hA]; omega), hA]
      rw [e5]
    · rw [World.cell?_setCells_out W.heap.size (u8s t) q W3 ⟨W.heap.size, j, none⟩ (fun _ _ => by
        rw [u8s_len]
        dsimp only
        by_cases h0 : t.size = 0
        · omega
        · have := hq (by omega)
          omega), hcl j hj]
      have e5 : s.data.toList.getD j 0 = (s.data.toList.take p ++ t.data.toList ++ s.data.toList.drop (p + t.size)).getD j 0 := by
       simp only [List.getD_eq_getElem?_getD]
       by_cases h2 : j < p
       · rw [List.getElem?_append_left (by rw [List.length_append, hA, htl]; omega), List.getElem?_append_left (by rw [hA]; omega), List.getElem?_take_of_lt h2]
       · rw [List.getElem?_append_right (by rw [List.length_append, hA, htl]; omega), List.length_append, hA, htl, List.getElem?_drop, show p + t.size + (j - (p + t.size)) = j by omega]
      rw [e5]
  refine ⟨_, W3, W3.setCells W.heap.size q (u8s t), hc, hcap, ?_, hb3, below_cells7 _ (Nat.le_refl _) _ _ hb3, fun W5 hb5 => ?_⟩
  · exact run_copy_str7 W3 _ _ _ 5 W.heap.size q t.size t.size t Try.underlying34 sizeOfU87 (Nat.le_refl _) (fun j hj => by rw [hcl (q + j) (hqs j hj)]; rfl) (fun j hj => hfz _ (hqs j hj))
  · have hps := putOver_size hin
    have hb := run_convert_bytes_back (P := Try.prog) W5 34 9 5 ⟨W.heap.size, 0, none⟩ (grownCap W s.size 0 5) (putOver s p t).data.toList Try.underlying34 Try.underlying5 Try.underlying9 (fun j hj => by
      have hj' : j < s.size := by
        rw [← hps]
        simpa using hj
      have hadd : (⟨W.heap.size, 0, none⟩ : Addr).add j = ⟨W.heap.size, j, none⟩ := by unfold Addr.add; split <;> simp_all
      rw [hadd, keepCell hb5 (key j hj')]
      simp only [List.getD_eq_getElem?_getD, List.getElem?_eq_getElem hj, Option.getD_some])
    have e1 : (putOver s p t).data.toList.length = s.size := by rw [← hps]; simp
    rw [e1] at hb
    exact hb
theorem slice_over (g p : Nat) (t : ByteArray) (n : Nat) : ∃ q, (0 < t.size → q = p) ∧ ∀ cap : Nat, p + t.size ≤ cap → ∀ W, (Instr.slice 34 (.slice (some ⟨g, 0, none⟩) n cap) (some (.int .i64 (p : Int))) (some (.int .i64 ((p : Int) + (t.size : Int)))) (some (.int .i64 ((p : Int) + (t.size : Int))))).run Try.prog W = .ok (.slice (some ⟨g, q, none⟩) t.size t.size) W := by
  have he : Try.prog.elem 34 = 5 := by simp [Program.elem, Try.underlying34]
  have hu : Try.prog.underlying 34 = some (.slice (Try.prog.elem 34)) := by rw [he]; exact Try.underlying34
  refine ⟨if t.size = 0 then 0 else p, fun h => by rw [if_neg (by omega)], fun cap hc W => ?_⟩
  rw [run_slice_lhm W _ _ n cap hu .i64 .i64 .i64 (p : Int) ((p : Int) + (t.size : Int)) ((p : Int) + (t.size : Int)) (by omega) (by omega) (by omega) (by omega), he, sizeOfU87]
  have e1 : ((p : Int) + (t.size : Int)).toNat = p + t.size := by omega
  simp only [Result.andThen, sliced, e1, Int.toNat_natCast, Nat.mul_one]
  by_cases h0 : t.size = 0
  · rw [if_pos h0]
    simp [h0]
  · rw [if_neg h0]
    simp [h0, Addr.add]
    exact fun e => e.symm
end Go.Proofs.Ytoeofhhmkkpjbaa
