/-
  The walk of the model's NewMemory.
-/
import Derived.Test.YtndeklmkhfopgaaMeNwI
import Derived.Test.YtndeklmkhfopgaaMeGrS
import Derived.Test.YtndeklmkhfopgaaIn
namespace Go.Proofs.Ytndeklmkhfopgaa
open Go.ChangeShapes Go.WideShapes Go.ChangeAt Go.RowKit Go.Deep

set_option maxRecDepth 100000 in
set_option maxHeartbeats 2000000 in
theorem specNew_no (m : Int) (h : ¬ (0 ≤ m ∧ m ≤ 4096)) (w : World) :
    Calls Try.prog 40 #[.int .i64 m] w (MeAns2 noMe 2 w) := by
  have CI := Lib.hid (fun W => l00In_no m 0 4096 W (by omega))
  clear h
  go_enter Try.func40, Try.ntmps40
  go_wp2_with fail
  have F0 := Lib.hid (Bx.new w)
  go_at_call 90
  refine (CI.out _).mono ?_
  rintro e w2 ⟨rfl, rfl⟩
  go_wp2_with fail
  obtain ⟨W, hW⟩ : ∃ W, w.alloc (.cells #[.string ⟨#[]⟩, .slice none 0 0] 50) = W := ⟨_, rfl⟩
  have s0 : W.cell? ⟨w.heap.size, 0, none⟩ = some (.string ⟨#[]⟩) := by subst hW; go_simp
  have s1 : W.cell? ⟨w.heap.size, 1, none⟩ = some (.slice none 0 0) := by subst hW; go_simp
  rw [hW]
  refine bodyPost_ret (v := .tuple #[.agg #[.string ⟨#[]⟩, .slice none 0 0], .int .i64 2]) (by simp [results, Try.results40, go_sem, s0, s1]) rfl ?_
  subst hW
  exact ⟨none, 0, rfl, ownBk_nil _ _, below1 _ _, by simp⟩
set_option maxRecDepth 100000 in
set_option maxHeartbeats 2000000 in
theorem specNew_yes (m : Nat) (hm : m ≤ 4096) (w : World) :
    Calls Try.prog 40 #[.int .i64 m] w (MeAns2 ⟨zeroB m, if 8 < (m : Int) then [⟨8, (m : Int) - 8⟩] else []⟩ 0 w) := by
  have CI := Lib.hid (fun W => l00In_yes (m : Int) 0 4096 W (by omega) (by omega))
  obtain ⟨Z, hZ⟩ : ∃ Z, zeroB m = Z := ⟨_, rfl⟩
  have hmk := make8 m (by omega)
  have hcv := conv8 m
  have hcd := conv8d m
  rw [hZ] at hcv hcd ⊢
  have hw : IntKind.i64.wrap ((m : Int) - 8) = (m : Int) - 8 := IntWalk.i64_in _ (by omega)
  clear hZ
  by_cases h8 : (8 : Int) < (m : Int)
  · rw [if_pos h8]
    go_enter Try.func40, Try.ntmps40
    go_wp2_with fail
    go_at_call 90
    refine (CI.out _).mono ?_
    rintro e w2 ⟨rfl, rfl⟩
    go_wp2_with fail
    obtain ⟨W, hW⟩ : ∃ W, (((w.alloc (.cells #[.string Z, .slice (some ⟨w.heap.size + 1 + 1 + 1, 0, none⟩) 1 1] 50)).alloc (.cells (zCells m) 5)).alloc (.cells #[.string Z, .slice (some ⟨w.heap.size + 1 + 1 + 1, 0, none⟩) 1 1] 50)).alloc (.cells #[.int .i64 8, .int .i64 ((m : Int) - 8)] 103) = W := ⟨_, rfl⟩
    have s0 : W.cell? ⟨w.heap.size, 0, none⟩ = some (.string Z) := by subst hW; go_simp
    have s1 : W.cell? ⟨w.heap.size, 1, none⟩ = some (.slice (some ⟨w.heap.size + 1 + 1 + 1, 0, none⟩) 1 1) := by subst hW; go_simp
    rw [hW]
    refine bodyPost_ret (v := .tuple #[.agg #[.string Z, .slice (some ⟨w.heap.size + 1 + 1 + 1, 0, none⟩) 1 1], .int .i64 0]) (by simp [results, Try.results40, go_sem, s0, s1]) rfl ?_
    subst hW
    have hh := heap_alloc_new (((w.alloc (.cells #[.string Z, .slice (some ⟨w.heap.size + 1 + 1 + 1, 0, none⟩) 1 1] 50)).alloc (.cells (zCells m) 5)).alloc (.cells #[.string Z, .slice (some ⟨w.heap.size + 1 + 1 + 1, 0, none⟩) 1 1] 50)) (.cells #[.int .i64 8, .int .i64 ((m : Int) - 8)] 103)
    have hz : (((w.alloc (.cells #[.string Z, .slice (some ⟨w.heap.size + 1 + 1 + 1, 0, none⟩) 1 1] 50)).alloc (.cells (zCells m) 5)).alloc (.cells #[.string Z, .slice (some ⟨w.heap.size + 1 + 1 + 1, 0, none⟩) 1 1] 50)).heap.size = w.heap.size + 1 + 1 + 1 := by simp
    rw [hz] at hh
    exact ⟨some ⟨w.heap.size + 1 + 1 + 1, 0, none⟩, 1, rfl, ⟨rfl, rfl, Or.inr ⟨_, 1, _, rfl, by omega, hh, Nat.le_refl _, by decide, rfl, rfl⟩⟩, (below3 _ _ _ _).alloc (by simp; omega) _, by simp; omega⟩
  · rw [if_neg h8]
    go_enter Try.func40, Try.ntmps40
    go_wp2_with fail
    go_at_call 90
    refine (CI.out _).mono ?_
    rintro e w2 ⟨rfl, rfl⟩
    go_wp2_with fail
    obtain ⟨W, hW⟩ : ∃ W, ((w.alloc (.cells #[.string Z, .slice none 0 0] 50)).alloc (.cells (zCells m) 5)).alloc (.cells #[.string Z, .slice none 0 0] 50) = W := ⟨_, rfl⟩
    have s0 : W.cell? ⟨w.heap.size, 0, none⟩ = some (.string Z) := by subst hW; go_simp
    have s1 : W.cell? ⟨w.heap.size, 1, none⟩ = some (.slice none 0 0) := by subst hW; go_simp
    rw [hW]
    refine bodyPost_ret (v := .tuple #[.agg #[.string Z, .slice none 0 0], .int .i64 0]) (by simp [results, Try.results40, go_sem, s0, s1]) rfl ?_
    subst hW
    exact ⟨none, 0, rfl, ownBk_nil _ _, below3 _ _ _ _, by simp; omega⟩
theorem specNewMemory_any (m : Int) (w : World) : Calls Try.prog 40 #[.int .i64 m] w (MeAns2 (memNew m).1 (memNew m).2 w) := by
  by_cases h : 0 ≤ m ∧ m ≤ 4096
  · obtain ⟨k, rfl⟩ := Int.eq_ofNat_of_zero_le h.1
    have e := specNew_yes k (by omega) w
    unfold memNew
    rw [if_pos h, Int.toNat_natCast]
    exact e
  · have e : memNew m = (noMe, 2) := by unfold memNew; rw [if_neg h]
    rw [e]
    exact specNew_no m h w
theorem pureNewMemory_len (m : Int) : (memNew m).1.wt ≤ 1048576 ∧ (memNew m).1.free.length ≤ 262144 := by
  by_cases h : 0 ≤ m ∧ m ≤ 4096
  · unfold memNew
    rw [if_pos h]
    have hl : ((if 8 < m then [⟨8, m - 8⟩] else [] : List Bk)).length ≤ 1 := by split <;> simp
    refine ⟨?_, by show ((if 8 < m then [⟨8, m - 8⟩] else [] : List Bk)).length ≤ 262144; omega⟩
    show ((zeroB m.toNat).size : Int) + ((((if 8 < m then [⟨8, m - 8⟩] else [] : List Bk)).length : Int) + Bk.wts (if 8 < m then [⟨8, m - 8⟩] else [])) ≤ 1048576
    rw [Bk.wts_zero, zeroB_size]
    omega
  · have e : memNew m = (noMe, 2) := by unfold memNew; rw [if_neg h]
    rw [e]
    exact noMe_wt0
end Go.Proofs.Ytndeklmkhfopgaa
