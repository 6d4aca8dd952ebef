/-
  Walks of both GetFix.
-/
import Derived.Test.YtbjcldekapipaaaDoorPutFix
import Derived.Laws.IdiomCopy
namespace Go.Proofs.YtbjcldekapipaaaDoor
open Go.ChangeShapes Go.WideShapes Go.ChangeAt Go.RowKit

/-- The bytes of a string as numbers. -/
def nums (s : ByteArray) : List Int := s.data.toList.map fun b => (b.toNat : Int)
theorem nums_length (s : ByteArray) : (nums s).length = s.size := by simp [nums]
theorem nums_byte (s : ByteArray) : ∀ x ∈ nums s, 0 ≤ x ∧ x < 256 := by
  intro x hx
  simp only [nums, List.mem_map] at hx
  obtain ⟨b, _, rfl⟩ := hx
  have := b.toNat_lt
  omega
theorem nums_take_snoc (s : ByteArray) (k : Nat) (h : k < s.size) : (nums s).take (k + 1) = (nums s).take k ++ [(s[k].toNat : Int)] := by
  have hl : k < (nums s).length := by rw [nums_length]; exact h
  rw [List.take_succ_eq_append_getElem hl]
  congr 2
  simp [nums]
  rfl

theorem nums_nat (s : ByteArray) : ∀ x ∈ nums s, x.toNat < 256 := fun x hx => by have := nums_byte s x hx; omega
theorem fix_step (s : ByteArray) (k : Nat) (h : k < s.size) (h8 : k ≤ 8) : bits .or .i64 (wrap64 (fixv ((nums s).take k))) (wrap64 ((s[k].toNat : Int) * 2 ^ (8 * k))) = wrap64 (fixv ((nums s).take (k + 1))) := by
  have hl : ((nums s).take k).length = k := by rw [List.length_take, nums_length]; omega
  rw [nums_take_snoc s k h, fixv_snoc, hl]
  have hlt := fixv_lt ((nums s).take k) (fun x hx => nums_nat s x (List.mem_of_mem_take hx))
  rw [hl] at hlt
  have e : ((s[k].toNat : Int) * 2 ^ (8 * k)) = ((s[k].toNat * 2 ^ (8 * k) : Nat) : Int) := by simp
  rw [e, i64_or_join _ _ _ hlt (by omega)]
  simp

/-- The eight bytes of the form: zeros behind the string's. -/
def eight (s : ByteArray) : List Int := nums s ++ List.replicate (8 - s.size) 0
theorem eight_length (s : ByteArray) (h : s.size ≤ 8) : (eight s).length = 8 := by simp [eight, nums_length]; omega
theorem eight_nat (s : ByteArray) : ∀ x ∈ eight s, 0 ≤ x ∧ x < 256 := by
  intro x hx
  simp only [eight, List.mem_append, List.mem_replicate] at hx
  rcases hx with hx | ⟨_, rfl⟩
  · exact nums_byte s x hx
  · omega
theorem fixv_zeros (l : List Int) : ∀ m, fixv (l ++ List.replicate m 0) = fixv l
  | 0 => by simp
  | m + 1 => by
    rw [show List.replicate (m + 1) (0 : Int) = List.replicate m 0 ++ [0] from List.replicate_succ', ← List.append_assoc, fixv_snoc, fixv_zeros l m]
    simp
theorem fix_step8 (l : List Int) (hb : ∀ x ∈ l, 0 ≤ x ∧ x < 256) (k : Nat) (h : k < l.length) (h8 : k ≤ 8) (b : Int) (hk : l.getD k 0 = b) : bits .or .i64 (wrap64 (fixv (l.take k))) (wrap64 (b * 2 ^ (8 * k))) = wrap64 (fixv (l.take (k + 1))) := by
  have hl : (l.take k).length = k := by rw [List.length_take]; omega
  have hg : l.getD k 0 = l[k] := by simp [List.getD_eq_getElem?_getD, h]
  have hb1 := hb l[k] (List.getElem_mem h)
  rw [← hg, hk] at hb1
  rw [List.take_succ_eq_append_getElem h, fixv_snoc, hl, ← hg, hk]
  have hlt := fixv_lt (l.take k) (fun x hx => by have := hb x (List.mem_of_mem_take hx); omega)
  rw [hl] at hlt
  obtain ⟨n, rfl⟩ := Int.eq_ofNat_of_zero_le hb1.1
  have e : ((n : Int) * 2 ^ (8 * k)) = ((n * 2 ^ (8 * k) : Nat) : Int) := by simp
  rw [e, i64_or_join _ _ _ hlt (by omega)]
  simp

theorem sizeOfU8 (w : World) : (Go.sizeOf 5).run Tryd.prog w = .ok 1 w := by kernel_rfl
/-- 'copy(dst, s)', s a string no longer than dst. -/
theorem run_copy_str {P : Program} (w : World) (dT sT ty elem : TypeId) (b o dLen dCap : Nat) (t : ByteArray)
    (hu : P.underlying dT = some (.slice elem)) (hz : ∀ w, (Go.sizeOf elem).run P w = .ok 1 w) (hle : t.size ≤ dLen)
    (hc : ∀ j, j < t.size → (w.cell? ⟨b, o + j, none⟩).isSome = true) (hf : ∀ j, j < t.size → w.frozen? ⟨b, o + j, none⟩ = false) :
    (Builtin.copy_ #[dT, sT] ty #[.slice (some ⟨b, o, none⟩) dLen dCap, .string t]).run P w = .ok (goInt t.size) (w.setCells b o ((nums t).map (Value.int .u8))) := by
  have hmin : Nat.min t.size dLen = t.size := Nat.min_eq_left hle
  have hm : (nums t).map (Value.int .u8) = t.data.toList.map fun x => Value.int .u8 (x.toNat : Int) := by simp [nums]
  rw [hm]
  have hl : (t.data.toList.map fun x => Value.int .u8 (x.toNat : Int)).length = t.size := by rw [List.length_map]; simp
  have hst := run_storeCells_cells (P := P) b o (t.data.toList.map fun x => Value.int .u8 (x.toNat : Int)) 0 w (by rw [hl]; simpa using hc) (by rw [hl]; simpa using hf) (by
    intro v hv
    obtain ⟨x, _, rfl⟩ := List.mem_map.1 hv
    rfl)
  simp [Builtin.copy_, run_underlying hu, Builtin.lenOf, Builtin.firstCells, hz, hmin]
  rw [List.take_of_length_le (by rw [hl]; exact Nat.le_refl _), hst]
  rfl
theorem below_cells {B : Nat} {a : World} (b : Nat) (hb : B ≤ b) : ∀ (vs : List Value) (o : Nat) {w : World}, Below B a w → Below B a (w.setCells b o vs)
  | [], _, _, h => h
  | v :: r, o, _, h => below_cells b hb r (o + 1) (h.setCell (p := ⟨b, o, none⟩) hb v)

/-- What the copy leaves of eight zeros. -/
theorem eight_cells (s : ByteArray) (h : s.size ≤ 8) (w : World) (b : Nat) (hz : ∀ j, j < 8 → w.cell? ⟨b, j, none⟩ = some (.int .u8 0)) :
    ∀ j, j < 8 → (w.setCells b 0 ((nums s).map (Value.int .u8))).cell? ⟨b, j, none⟩ = some (.int .u8 ((eight s).getD j 0)) := by
  intro j hj
  by_cases hlt : j < s.size
  · have := World.cell?_setCells_in b ((nums s).map (Value.int .u8)) 0 w (fun i hi => by
      rw [List.length_map, nums_length] at hi
      rw [Nat.zero_add, hz i (by omega)]; rfl) j (by rw [List.length_map, nums_length]; exact hlt)
    rw [Nat.zero_add] at this
    rw [this]
    simp only [eight, List.getD_eq_getElem?_getD]
    rw [List.getElem?_append_left (by rw [nums_length]; exact hlt)]
    simp [List.getElem?_eq_getElem (show j < (nums s).length by rw [nums_length]; exact hlt)]
  · rw [World.cell?_setCells_out b _ 0 w _ (fun _ _ => Or.inr (by rw [List.length_map, nums_length]; simp; omega)), hz j hj]
    simp only [eight, List.getD_eq_getElem?_getD]
    rw [List.getElem?_append_right (by rw [nums_length]; omega)]
    simp [List.getElem?_replicate]
    split <;> rfl

set_option maxRecDepth 100000 in
set_option maxHeartbeats 1000000 in
theorem implGetFix_any (s : ByteArray) (w : World) (hs : s.size ≤ 8) :
    Calls Tryd.prog 79 #[.string s] w fun e w' => e = .returned (.int .i64 (wrap64 (fixv (nums s)))) ∧ Below w.heap.size w w' := by
  have hsi : (s.size : Int) ≤ 8 := by omega
  have hnb : ¬ (8 : Int) < (s.size : Int) := by omega
  have hzz : ∀ j, j < 8 → (w.alloc (.cells #[.int .u8 0, .int .u8 0, .int .u8 0, .int .u8 0, .int .u8 0, .int .u8 0, .int .u8 0, .int .u8 0] 86)).cell? ⟨w.heap.size, j, none⟩ = some (.int .u8 0) := fun j hj => by
    have h : j = 0 ∨ j = 1 ∨ j = 2 ∨ j = 3 ∨ j = 4 ∨ j = 5 ∨ j = 6 ∨ j = 7 := by omega
    rcases h with rfl | rfl | rfl | rfl | rfl | rfl | rfl | rfl <;> simp
  have hcp := fun ty => run_copy_str (P := Tryd.prog) (w.alloc (.cells #[.int .u8 0, .int .u8 0, .int .u8 0, .int .u8 0, .int .u8 0, .int .u8 0, .int .u8 0, .int .u8 0] 86)) 70 9 ty 5 w.heap.size 0 8 8 s Tryd.underlying70 sizeOfU8 hs (fun j hj => by rw [Nat.zero_add, hzz j (by omega)]; rfl) (fun j hj => by go_simp)
  have hW := eight_cells s hs (w.alloc (.cells #[.int .u8 0, .int .u8 0, .int .u8 0, .int .u8 0, .int .u8 0, .int .u8 0, .int .u8 0, .int .u8 0] 86)) w.heap.size hzz
  have hbel : Below w.heap.size w ((w.alloc (.cells #[.int .u8 0, .int .u8 0, .int .u8 0, .int .u8 0, .int .u8 0, .int .u8 0, .int .u8 0, .int .u8 0] 86)).setCells w.heap.size 0 ((nums s).map (Value.int .u8))) := below_cells _ (Nat.le_refl _) _ _ (below1 _ _)
  generalize (w.alloc (.cells #[.int .u8 0, .int .u8 0, .int .u8 0, .int .u8 0, .int .u8 0, .int .u8 0, .int .u8 0, .int .u8 0] 86)).setCells w.heap.size 0 ((nums s).map (Value.int .u8)) = W2 at *
  have d0 := hW 0 (by omega)
  have d1 := hW 1 (by omega)
  have d2 := hW 2 (by omega)
  have d3 := hW 3 (by omega)
  have d4 := hW 4 (by omega)
  have d5 := hW 5 (by omega)
  have d6 := hW 6 (by omega)
  have d7 := hW 7 (by omega)
  clear hW hzz
  obtain ⟨x0, hx0⟩ : ∃ x, (eight s).getD 0 0 = x := ⟨_, rfl⟩
  rw [hx0] at d0
  obtain ⟨x1, hx1⟩ : ∃ x, (eight s).getD 1 0 = x := ⟨_, rfl⟩
  rw [hx1] at d1
  obtain ⟨x2, hx2⟩ : ∃ x, (eight s).getD 2 0 = x := ⟨_, rfl⟩
  rw [hx2] at d2
  obtain ⟨x3, hx3⟩ : ∃ x, (eight s).getD 3 0 = x := ⟨_, rfl⟩
  rw [hx3] at d3
  obtain ⟨x4, hx4⟩ : ∃ x, (eight s).getD 4 0 = x := ⟨_, rfl⟩
  rw [hx4] at d4
  obtain ⟨x5, hx5⟩ : ∃ x, (eight s).getD 5 0 = x := ⟨_, rfl⟩
  rw [hx5] at d5
  obtain ⟨x6, hx6⟩ : ∃ x, (eight s).getD 6 0 = x := ⟨_, rfl⟩
  rw [hx6] at d6
  obtain ⟨x7, hx7⟩ : ∃ x, (eight s).getD 7 0 = x := ⟨_, rfl⟩
  rw [hx7] at d7
  have hix : Hid (∀ k, k < 8 → ∀ w, (Instr.index 86 (.agg #[.int .u8 x0, .int .u8 x1, .int .u8 x2, .int .u8 x3, .int .u8 x4, .int .u8 x5, .int .u8 x6, .int .u8 x7]) (.int .i64 (k : Nat))).run Tryd.prog w = .ok (.int .u8 ((eight s).getD k 0)) w) := by
    intro k hk
    have h : k = 0 ∨ k = 1 ∨ k = 2 ∨ k = 3 ∨ k = 4 ∨ k = 5 ∨ k = 6 ∨ k = 7 := by omega
    rcases h with rfl | rfl | rfl | rfl | rfl | rfl | rfl | rfl
    · rw [hx0]; intro w; kernel_rfl
    · rw [hx1]; intro w; kernel_rfl
    · rw [hx2]; intro w; kernel_rfl
    · rw [hx3]; intro w; kernel_rfl
    · rw [hx4]; intro w; kernel_rfl
    · rw [hx5]; intro w; kernel_rfl
    · rw [hx6]; intro w; kernel_rfl
    · rw [hx7]; intro w; kernel_rfl
  clear hx0 hx1 hx2 hx3 hx4 hx5 hx6 hx7
  go_enter Tryd.func79, Tryd.ntmps79
  go_wp2_with fail
  go_loop [4, 14] (fun v i => ∃ (k : Nat) (x : Int), k ≤ 8 ∧ v = .int .i64 x ∧ i = .int .i64 k ∧ x = wrap64 (fixv ((eight s).take k))) (fun _ i => 8 - (intOf i).toNat)
  case atStart => exact ⟨0, 0, by omega, rfl, rfl, by simp [fixv, wrap64]⟩
  case round =>
    obtain ⟨k, x, hk, rfl, rfl, hx⟩ := hrel
    have HX := Lib.hid hx
    clear hx
    by_cases hlt : k < 8
    · have hki : (k : Int) < 8 := by omega
      have hixk := hix.out k hlt
      obtain ⟨b, hb⟩ : ∃ b, (eight s).getD k 0 = b := ⟨_, rfl⟩
      rw [hb] at hixk
      have hbm : 0 ≤ b ∧ b < 256 := by
        rw [← hb, List.getD_eq_getElem?_getD, List.getElem?_eq_getElem (by rw [eight_length s hs]; exact hlt)]
        exact eight_nat s _ (List.getElem_mem _)
      obtain ⟨hb0, hb1⟩ := hbm
      have HB := Lib.hid hb
      clear hb
      go_wp2_with fail
      go_round
      case rel => exact ⟨k + 1, _, by omega, rfl, by go_num, by rw [HX.out]; exact fix_step8 (eight s) (eight_nat s) k (by rw [eight_length s hs]; exact hlt) (by omega) b HB.out⟩
      case measure => simp [intOf]; omega
    · obtain rfl : k = 8 := by omega
      have hall : fixv ((eight s).take 8) = fixv (nums s) := by
        rw [List.take_of_length_le (by rw [eight_length s hs]; omega)]; exact fixv_zeros _ _
      have HA := Lib.hid hall
      clear hall
      go_wp2_with fail
      go_ret
      exact ⟨ret_int (by rw [HX.out, HA.out]), hbel⟩
end Go.Proofs.YtbjcldekapipaaaDoor
