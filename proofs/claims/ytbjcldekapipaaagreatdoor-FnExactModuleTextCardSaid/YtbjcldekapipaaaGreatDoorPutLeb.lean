/-
  Walks of impl's PutLeb and PutSleb. The numbers are int64.
-/
import Derived.Test.YtbjcldekapipaaaGreatDoorMLf
import Derived.Laws.BytesArg
namespace Go.Proofs.YtbjcldekapipaaaGreatDoor
open Go.ChangeShapes Go.WideShapes Go.ChangeAt Go.RowKit

/-- A string out of the first k of ten cells. -/
theorem run_convert_ten {P : Program} (w : World) (src e : TypeId) (hs : P.underlying src = some (.slice e)) (he : P.underlying e = some (.int .u8)) (L : List Int) (k : Nat) (hk : L.length = k) (hk10 : k ≤ 10) (x0 x1 x2 x3 x4 x5 x6 x7 x8 x9 : Int) (hx0 : pd L 0 = x0) (hx1 : pd L 1 = x1) (hx2 : pd L 2 = x2) (hx3 : pd L 3 = x3) (hx4 : pd L 4 = x4) (hx5 : pd L 5 = x5) (hx6 : pd L 6 = x6) (hx7 : pd L 7 = x7) (hx8 : pd L 8 = x8) (hx9 : pd L 9 = x9) (t : TypeId) :
    ∀ dst, P.underlying dst = some .string → (convert src dst (.slice (some ⟨w.heap.size, 0, none⟩) k 10)).run P (w.alloc (.cells #[.int .u8 x0, .int .u8 x1, .int .u8 x2, .int .u8 x3, .int .u8 x4, .int .u8 x5, .int .u8 x6, .int .u8 x7, .int .u8 x8, .int .u8 x9] t)) = .ok (.string (strOfNums L)) (w.alloc (.cells #[.int .u8 x0, .int .u8 x1, .int .u8 x2, .int .u8 x3, .int .u8 x4, .int .u8 x5, .int .u8 x6, .int .u8 x7, .int .u8 x8, .int .u8 x9] t)) := by
  refine run_convert_bytes_arg _ src e hs he w.heap.size 0 k 10 L hk ?_
  intro i hi
  have h : i = 0 ∨ i = 1 ∨ i = 2 ∨ i = 3 ∨ i = 4 ∨ i = 5 ∨ i = 6 ∨ i = 7 ∨ i = 8 ∨ i = 9 := by omega
  unfold pd at hx0 hx1 hx2 hx3 hx4 hx5 hx6 hx7 hx8 hx9
  rcases h with rfl | rfl | rfl | rfl | rfl | rfl | rfl | rfl | rfl | rfl
  · rw [hx0, Nat.zero_add, World.cell?_alloc_new]; rfl
  · rw [hx1, Nat.zero_add, World.cell?_alloc_new]; rfl
  · rw [hx2, Nat.zero_add, World.cell?_alloc_new]; rfl
  · rw [hx3, Nat.zero_add, World.cell?_alloc_new]; rfl
  · rw [hx4, Nat.zero_add, World.cell?_alloc_new]; rfl
  · rw [hx5, Nat.zero_add, World.cell?_alloc_new]; rfl
  · rw [hx6, Nat.zero_add, World.cell?_alloc_new]; rfl
  · rw [hx7, Nat.zero_add, World.cell?_alloc_new]; rfl
  · rw [hx8, Nat.zero_add, World.cell?_alloc_new]; rfl
  · rw [hx9, Nat.zero_add, World.cell?_alloc_new]; rfl

set_option maxRecDepth 100000 in
set_option maxHeartbeats 1000000 in
theorem implPutLeb_any (n : Nat) (w : World) (hn : (n : Int) ≤ 9223372036854775807) :
    Calls Tryz.prog 27 #[.int .i64 n] w fun e w' => e = .returned (.string (strOfNums (lebU n))) ∧ Below w.heap.size w w' := by
  obtain ⟨L, hL⟩ : ∃ L, lebU n = L := ⟨_, rfl⟩
  obtain ⟨k, hk⟩ : ∃ k, L.length = k := ⟨_, rfl⟩
  have hk10 : k ≤ 10 := by rw [← hk, ← hL]; exact lebU_length 9 n (by omega)
  obtain ⟨x0, hx0⟩ : ∃ x, pd L 0 = x := ⟨_, rfl⟩
  obtain ⟨x1, hx1⟩ : ∃ x, pd L 1 = x := ⟨_, rfl⟩
  obtain ⟨x2, hx2⟩ : ∃ x, pd L 2 = x := ⟨_, rfl⟩
  obtain ⟨x3, hx3⟩ : ∃ x, pd L 3 = x := ⟨_, rfl⟩
  obtain ⟨x4, hx4⟩ : ∃ x, pd L 4 = x := ⟨_, rfl⟩
  obtain ⟨x5, hx5⟩ : ∃ x, pd L 5 = x := ⟨_, rfl⟩
  obtain ⟨x6, hx6⟩ : ∃ x, pd L 6 = x := ⟨_, rfl⟩
  obtain ⟨x7, hx7⟩ : ∃ x, pd L 7 = x := ⟨_, rfl⟩
  obtain ⟨x8, hx8⟩ : ∃ x, pd L 8 = x := ⟨_, rfl⟩
  obtain ⟨x9, hx9⟩ : ∃ x, pd L 9 = x := ⟨_, rfl⟩
  have C : Hid (∀ W, Calls Tryz.prog 65 #[.int .u64 n, .func (.func 66) #[] #[]] W fun e w' => e = .returned (.tuple #[.agg #[.int .u8 x0, .int .u8 x1, .int .u8 x2, .int .u8 x3, .int .u8 x4, .int .u8 x5, .int .u8 x6, .int .u8 x7, .int .u8 x8, .int .u8 x9], .int .i64 (k : Nat)]) ∧ Below W.heap.size W w') :=
    fun W => lebOfU_any n x0 x1 x2 x3 x4 x5 x6 x7 x8 x9 k W (by omega) (by omega) (by rw [hL]; exact hx0) (by rw [hL]; exact hx1) (by rw [hL]; exact hx2) (by rw [hL]; exact hx3) (by rw [hL]; exact hx4) (by rw [hL]; exact hx5) (by rw [hL]; exact hx6) (by rw [hL]; exact hx7) (by rw [hL]; exact hx8) (by rw [hL]; exact hx9) (by rw [hL, hk])
  have cv := fun W => run_convert_ten (P := Tryz.prog) W 63 5 Tryz.underlying63 Tryz.underlying5 L k hk hk10 x0 x1 x2 x3 x4 x5 x6 x7 x8 x9 hx0 hx1 hx2 hx3 hx4 hx5 hx6 hx7 hx8 hx9
  rw [hL]
  clear hL hk hx0 hx1 hx2 hx3 hx4 hx5 hx6 hx7 hx8 hx9
  go_enter Tryz.func27, Tryz.ntmps27
  go_wp2_with fail
  go_at_call 65
  refine (C.out _).mono ?_
  rintro e w1 ⟨rfl, hb⟩
  have cw := cv w1
  have hk0 : 0 ≤ (k : Int) := by omega
  have hki : (k : Int) ≤ 10 := by omega
  have ha10 : Tryz.prog.arrayLen 109 = 10 := by kernel_rfl
  clear cv
  go_wp2_with fail
  go_ret
  exact ⟨rfl, hb.alloc hb.size _⟩

set_option maxRecDepth 100000 in
set_option maxHeartbeats 1000000 in
theorem implPutSleb_any (n : Int) (w : World) (hn0 : -9223372036854775808 ≤ n) (hn : n ≤ 9223372036854775807) :
    Calls Tryz.prog 106 #[.int .i64 n] w fun e w' => e = .returned (.string (strOfNums (lebS n))) ∧ Below w.heap.size w w' := by
  obtain ⟨L, hL⟩ : ∃ L, lebS n = L := ⟨_, rfl⟩
  obtain ⟨k, hk⟩ : ∃ k, L.length = k := ⟨_, rfl⟩
  have hk10 : k ≤ 10 := by rw [← hk, ← hL]; exact lebS_length 9 n (by omega) (by omega)
  obtain ⟨x0, hx0⟩ : ∃ x, pd L 0 = x := ⟨_, rfl⟩
  obtain ⟨x1, hx1⟩ : ∃ x, pd L 1 = x := ⟨_, rfl⟩
  obtain ⟨x2, hx2⟩ : ∃ x, pd L 2 = x := ⟨_, rfl⟩
  obtain ⟨x3, hx3⟩ : ∃ x, pd L 3 = x := ⟨_, rfl⟩
  obtain ⟨x4, hx4⟩ : ∃ x, pd L 4 = x := ⟨_, rfl⟩
  obtain ⟨x5, hx5⟩ : ∃ x, pd L 5 = x := ⟨_, rfl⟩
  obtain ⟨x6, hx6⟩ : ∃ x, pd L 6 = x := ⟨_, rfl⟩
  obtain ⟨x7, hx7⟩ : ∃ x, pd L 7 = x := ⟨_, rfl⟩
  obtain ⟨x8, hx8⟩ : ∃ x, pd L 8 = x := ⟨_, rfl⟩
  obtain ⟨x9, hx9⟩ : ∃ x, pd L 9 = x := ⟨_, rfl⟩
  have C : Hid (∀ W, Calls Tryz.prog 133 #[.int .i64 n, .func (.func 134) #[] #[]] W fun e w' => e = .returned (.tuple #[.agg #[.int .u8 x0, .int .u8 x1, .int .u8 x2, .int .u8 x3, .int .u8 x4, .int .u8 x5, .int .u8 x6, .int .u8 x7, .int .u8 x8, .int .u8 x9], .int .i64 (k : Nat)]) ∧ Below W.heap.size W w') :=
    fun W => lebOfS_any n x0 x1 x2 x3 x4 x5 x6 x7 x8 x9 k W (by omega) (by omega) (by rw [hL]; exact hx0) (by rw [hL]; exact hx1) (by rw [hL]; exact hx2) (by rw [hL]; exact hx3) (by rw [hL]; exact hx4) (by rw [hL]; exact hx5) (by rw [hL]; exact hx6) (by rw [hL]; exact hx7) (by rw [hL]; exact hx8) (by rw [hL]; exact hx9) (by rw [hL, hk])
  have cv := fun W => run_convert_ten (P := Tryz.prog) W 63 5 Tryz.underlying63 Tryz.underlying5 L k hk hk10 x0 x1 x2 x3 x4 x5 x6 x7 x8 x9 hx0 hx1 hx2 hx3 hx4 hx5 hx6 hx7 hx8 hx9
  rw [hL]
  clear hL hk hx0 hx1 hx2 hx3 hx4 hx5 hx6 hx7 hx8 hx9
  go_enter Tryz.func106, Tryz.ntmps106
  go_wp2_with fail
  go_at_call 133
  refine (C.out _).mono ?_
  rintro e w1 ⟨rfl, hb⟩
  have cw := cv w1
  have hk0 : 0 ≤ (k : Int) := by omega
  have hki : (k : Int) ≤ 10 := by omega
  have ha10 : Tryz.prog.arrayLen 109 = 10 := by kernel_rfl
  clear cv
  go_wp2_with fail
  go_ret
  exact ⟨rfl, hb.alloc hb.size _⟩
end Go.Proofs.YtbjcldekapipaaaGreatDoor
