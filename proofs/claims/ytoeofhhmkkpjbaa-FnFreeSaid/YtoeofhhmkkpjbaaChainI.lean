/-
  The walks of the linked list's insert and join.
-/
import Derived.Test.YtoeofhhmkkpjbaaChain
import Derived.Test.YtoeofhhmkkpjbaaMemOkI
import Derived.Deep.RegionWith
import Derived.Deep.RegionHeld3
namespace Go.Proofs.Ytoeofhhmkkpjbaa
open Go.ChangeShapes Go.WideShapes Go.ChangeAt Go.RowKit Go.Deep

theorem drN7 (w : World) (n : Nat) : Below w.heap.size w (w.drewN n) := ⟨rfl, rfl, rfl, Nat.le_refl _, fun _ _ => rfl⟩
/-- A place more, ahead of what lay behind g. -/
theorem ins_close {w : World} {g : Nat} {b : Bk} {nx : Option Addr} (p s : Int) (t : TypeId) (h : Node w g b nx) :
    Node ((w.setCell ⟨g, 2, none⟩ (.pointer (some ⟨w.heap.size, 0, none⟩))).alloc (.cells #[.int .i64 p, .int .i64 s, .pointer nx] t)) g b (some ⟨w.heap.size, 0, none⟩) ∧
    Node ((w.setCell ⟨g, 2, none⟩ (.pointer (some ⟨w.heap.size, 0, none⟩))).alloc (.cells #[.int .i64 p, .int .i64 s, .pointer nx] t)) w.heap.size ⟨p, s⟩ nx ∧
    Kb [g] w ((w.setCell ⟨g, 2, none⟩ (.pointer (some ⟨w.heap.size, 0, none⟩))).alloc (.cells #[.int .i64 p, .int .i64 s, .pointer nx] t)) := by
  have hlt := h.lt
  have hz : (w.setCell ⟨g, 2, none⟩ (.pointer (some ⟨w.heap.size, 0, none⟩))).heap.size = w.heap.size := by simp
  have ha : Node (w.setCell ⟨g, 2, none⟩ (.pointer (some ⟨w.heap.size, 0, none⟩))) g b (some ⟨w.heap.size, 0, none⟩) := by
    refine ⟨h.blk.set _ _, ?_, ?_, World.cell?_setCell_same _ _ _ h.c2⟩
    · rw [World.cell?_setCell_other _ _ _ _ (by simp)]; exact h.c0
    · rw [World.cell?_setCell_other _ _ _ _ (by simp)]; exact h.c1
  have hkb : Kb [g] w (w.setCell ⟨g, 2, none⟩ (.pointer (some ⟨w.heap.size, 0, none⟩))) := Kb.setCell (by simp) _
  generalize w.setCell ⟨g, 2, none⟩ (.pointer (some ⟨w.heap.size, 0, none⟩)) = W at *
  rw [← hz] at ha ⊢
  refine ⟨ha.below (below1 _ _), ⟨⟨_, _, heap_alloc_new W _⟩, ?_, ?_, ?_⟩, hkb.trans (Kb.of_below (below1 _ _))⟩
  · rw [World.cell?_alloc_new]
    rfl
  · rw [World.cell?_alloc_new]
    rfl
  · rw [World.cell?_alloc_new]
    rfl
theorem insert_pos (g : Nat) (b : Bk) (nx : Option Addr) (p s : Int) (hs : 0 < s) (w : World) (h : Node w g b nx) :
    Calls Try.prog 62 #[.pointer (some ⟨g, 0, none⟩), .int .i64 p, .int .i64 s] w fun e w' => e = .returned (.tuple #[]) ∧ ∃ g', w.heap.size ≤ g' ∧ Node w' g b (some ⟨g', 0, none⟩) ∧ Node w' g' ⟨p, s⟩ nx ∧ Kb [g] w w' := by
  have c2 := h.c2
  have hf := h.blk.free 2
  have hlt := h.lt
  have HC := Lib.hid (fun t => ins_close p s t h)
  clear h
  go_enter Try.func62, Try.ntmps62
  go_wp2_with fail
  go_end0
  exact ⟨rfl, w.heap.size, Nat.le_refl _, HC.out _⟩
theorem insert_no (g : Nat) (p s : Int) (hs : ¬ 0 < s) (w : World) :
    Calls Try.prog 62 #[.pointer (some ⟨g, 0, none⟩), .int .i64 p, .int .i64 s] w fun e w' => e = .returned (.tuple #[]) ∧ w = w' := by
  go_enter Try.func62, Try.ntmps62
  go_wp2_with fail
  go_end0
  exact ⟨rfl, rfl⟩
theorem join_nil (g : Nat) (b : Bk) (w : World) (h : Node w g b none) :
    Calls Try.prog 63 #[.pointer (some ⟨g, 0, none⟩)] w fun e w' => e = .returned (.tuple #[]) ∧ Below w.heap.size w w' := by
  have c2 := h.c2
  clear h
  go_enter Try.func63, Try.ntmps63
  go_wp2_with fail
  go_quiet (fail)
  go_wp2_with fail
  go_end0
  exact ⟨rfl, drN7 _ _⟩
theorem join_apart (g q : Nat) (b c : Bk) (nx : Option Addr) (w : World) (h : Node w g b (some ⟨q, 0, none⟩)) (k : Node w q c nx) (hb : 0 ≤ b.pos ∧ b.pos ≤ 1000000) (hb2 : 0 ≤ b.size ∧ b.size ≤ 1000000) (he : b.pos + b.size ≠ c.pos) :
    Calls Try.prog 63 #[.pointer (some ⟨g, 0, none⟩)] w fun e w' => e = .returned (.tuple #[]) ∧ Below w.heap.size w w' := by
  have c0 := h.c0
  have c1 := h.c1
  have c2 := h.c2
  have d0 := k.c0
  have CE := Lib.hid (fun W => end_any b.pos b.size (by omega) (by omega) W)
  clear h k
  go_enter Try.func63, Try.ntmps63
  go_wp2_with fail
  go_region_held3 (fun w' => w'.cell? ⟨g, 0, none⟩ = some (.int .i64 b.pos) ∧ w'.cell? ⟨g, 1, none⟩ = some (.int .i64 b.size) ∧ w'.cell? ⟨g, 2, none⟩ = some (.pointer (some ⟨q, 0, none⟩)) ∧ w'.cell? ⟨q, 0, none⟩ = some (.int .i64 c.pos) ∧ Below w.heap.size w w')
    (first | assumption | (exact (Below.refl _ _).drew) | (exact ⟨c0, c1, c2, d0, (Below.refl _ _).drew⟩) | (refine ⟨?_, ?_, ?_, ?_, ?_⟩ <;> assumption))
    (first | (go_at_call 39; refine (CE.out _).mono ?_; rintro e w1 ⟨rfl, hb1⟩; have hbw : Below w.heap.size w w1 := (Below.refl w.heap.size w).drew.trans hb1; have p0 := keepCell hbw c0; have p1 := keepCell hbw c1; have p2 := keepCell hbw c2; have p3 := keepCell hbw d0))
  go_wp2_with fail
  go_end0
  exact ⟨rfl, by assumption⟩
theorem Node.drew7 {w : World} {g : Nat} {b : Bk} {nx : Option Addr} (h : Node w g b nx) : Node w.drew g b nx := ⟨h.blk, h.c0, h.c1, h.c2⟩
theorem Kb.drew7 {bs : List Nat} {w w' : World} (h : Kb bs w w') : Kb bs w w'.drew := ⟨h.os, h.tape, h.output, h.but⟩
/-- What lies behind g is merged into it. -/
theorem join_close {w : World} {g : Nat} {b : Bk} {nx nx' : Option Addr} (s : Int) (h : Node w g b nx) :
    Node ((w.setCell ⟨g, 1, none⟩ (.int .i64 s)).setCell ⟨g, 2, none⟩ (.pointer nx')) g ⟨b.pos, s⟩ nx' ∧ Kb [g] w ((w.setCell ⟨g, 1, none⟩ (.int .i64 s)).setCell ⟨g, 2, none⟩ (.pointer nx')) := by
  have h2 : (w.setCell ⟨g, 1, none⟩ (.int .i64 s)).cell? ⟨g, 2, none⟩ = some (.pointer nx) := by
    rw [World.cell?_setCell_other _ _ _ _ (by simp)]; exact h.c2
  refine ⟨⟨(h.blk.set _ _).set _ _, ?_, ?_, ?_⟩, (Kb.setCell (by simp) _).trans (Kb.setCell (by simp) _)⟩
  · rw [World.cell?_setCell_other _ _ _ _ (by simp), World.cell?_setCell_other _ _ _ _ (by simp)]; exact h.c0
  · rw [World.cell?_setCell_other _ _ _ _ (by simp), World.cell?_setCell_same _ _ _ h.c1]
  · rw [World.cell?_setCell_same _ _ _ h2]
theorem join_touch (g q : Nat) (_hne : g ≠ q) (b c : Bk) (nx : Option Addr) (w : World) (h : Node w g b (some ⟨q, 0, none⟩)) (k : Node w q c nx) (hb : 0 ≤ b.pos ∧ b.pos ≤ 1000000) (hb2 : 0 ≤ b.size ∧ b.size ≤ 1000000) (hc2 : 0 ≤ c.size ∧ c.size ≤ 1000000) (he : b.pos + b.size = c.pos) :
    Calls Try.prog 63 #[.pointer (some ⟨g, 0, none⟩)] w fun e w' => e = .returned (.tuple #[]) ∧ Node w' g ⟨b.pos, b.size + c.size⟩ nx ∧ Kb [g] w w' := by
  have c0 := h.c0
  have c1 := h.c1
  have c2 := h.c2
  have d0 := k.c0
  have d1 := k.c1
  have d2 := k.c2
  have fz : ∀ o, w.frozen? ⟨g, o, none⟩ = false := fun o => h.blk.free o
  have CE := Lib.hid (fun W => end_any b.pos b.size (by omega) (by omega) W)
  have HH := Lib.hid h
  have HL := Lib.hid h.lt
  clear h k
  go_enter Try.func63, Try.ntmps63
  go_wp2_with fail
  go_region_held3 (fun w' => w'.cell? ⟨g, 0, none⟩ = some (.int .i64 b.pos) ∧ w'.cell? ⟨g, 1, none⟩ = some (.int .i64 b.size) ∧ w'.cell? ⟨g, 2, none⟩ = some (.pointer (some ⟨q, 0, none⟩)) ∧ w'.cell? ⟨q, 0, none⟩ = some (.int .i64 c.pos) ∧ w'.cell? ⟨q, 1, none⟩ = some (.int .i64 c.size) ∧ w'.cell? ⟨q, 2, none⟩ = some (.pointer nx) ∧ Below w.heap.size w w')
    (first | assumption | (exact (Below.refl _ _).drew) | (exact ⟨c0, c1, c2, d0, d1, d2, (Below.refl _ _).drew⟩) | (refine ⟨?_, ?_, ?_, ?_, ?_, ?_, ?_⟩ <;> assumption))
    (first | (go_at_call 39; refine (CE.out _).mono ?_; rintro e w1 ⟨rfl, hb1⟩; have hbw : Below w.heap.size w w1 := (Below.refl w.heap.size w).drew.trans hb1; have p0 := keepCell hbw c0; have p1 := keepCell hbw c1; have p2 := keepCell hbw c2; have p3 := keepCell hbw d0; have p4 := keepCell hbw d1; have p5 := keepCell hbw d2; have fz1 : ∀ o, w1.frozen? ⟨g, o, none⟩ = false := (fun o => ((bcell hbw).2 _ _ HL.out).trans (fz o))))
  have HH1 := Lib.hid (HH.out.below hbw)
  have HBW := Lib.hid hbw
  go_wp2_with fail
  go_region
  all_goals go_wp2_with fail
  all_goals go_end0
  all_goals exact ⟨rfl, (join_close _ HH1.out).1.drew7, (Kb.of_below HBW.out).trans (join_close _ HH1.out).2.drew7⟩
end Go.Proofs.Ytoeofhhmkkpjbaa
