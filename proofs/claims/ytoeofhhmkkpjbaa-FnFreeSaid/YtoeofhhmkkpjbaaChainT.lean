/-
  The linked list's take, told of the whole list.
-/
import Derived.Test.YtoeofhhmkkpjbaaChainB
import Derived.Test.YtoeofhhmkkpjbaaMemA
namespace Go.Proofs.Ytoeofhhmkkpjbaa
open Go.ChangeShapes Go.WideShapes Go.ChangeAt Go.RowKit Go.Deep

/-- insert, and that it writes nothing but the place. -/
theorem insertK (B : Nat) (xs ys : Pls) (g : Nat) (b : Bk) (p s : Int) (w : World) (hB : B ≤ w.heap.size) (h : ChnAt B w (xs ++ (g, b) :: ys)) :
    Calls Try.prog 62 #[.pointer (some ⟨g, 0, none⟩), .int .i64 p, .int .i64 s] w fun e w' => e = .returned (.tuple #[]) ∧ ∃ zs : Pls, zs.map Prod.snd = (if 0 < s then [⟨p, s⟩] else []) ∧ ChnAt B w' (xs ++ (g, b) :: (zs ++ ys)) ∧ Kb [g] w w' := by
  by_cases hs : 0 < s
  · refine (insert_pos g b _ p s hs w h.parts.2.1).mono ?_
    rintro e w' ⟨rfl, g', hg, n1, n2, hk⟩
    exact ⟨rfl, [(g', ⟨p, s⟩)], by rw [if_pos hs]; rfl, h.ins hB hk.but n1 hg n2, hk⟩
  · refine (insert_no g p s hs w).mono ?_
    rintro e w' ⟨rfl, rfl⟩
    exact ⟨rfl, [], by rw [if_neg hs]; rfl, h, Kb.of_below (Below.refl _ _)⟩
set_option maxHeartbeats 1000000 in
theorem takeC (B : Nat) (xs ys : Pls) (g q : Nat) (b c : Bk) (p s : Int) (hc : c.Sm) (hp : c.pos ≤ p) (hp2 : p ≤ 3000000) (hs : 0 ≤ s) (hs2 : s ≤ 1000000) (w : World) (hB : B ≤ w.heap.size) (h : ChnAt B w (xs ++ (g, b) :: (q, c) :: ys)) :
    Calls Try.prog 44 #[.pointer (some ⟨g, 0, none⟩), .int .i64 p, .int .i64 s] w fun e w' => e = .returned (.tuple #[]) ∧ (∃ zs : Pls, zs.map Prod.snd = splitBk p s c ∧ ChnAt B w' (xs ++ (g, b) :: (zs ++ ys))) ∧ Below B w w' := by
  obtain ⟨⟨hc0, hc1⟩, hc2, hc3⟩ := hc
  obtain ⟨_, n1, n2, _, n4, n6⟩ := h.parts
  have c2 : w.cell? ⟨g, 2, none⟩ = some (.pointer (some ⟨q, 0, none⟩)) := n1.c2
  have hgq : q ≠ g := n4 (q, c) (by simp)
  have d0 := n2.1.c0
  have d1 := n2.1.c1
  obtain ⟨nx, hnx⟩ : ∃ nx, hdP ys none = nx := ⟨_, rfl⟩
  have d2 : w.cell? ⟨q, 2, none⟩ = some (.pointer nx) := by rw [← hnx]; exact n2.1.c2
  have gf := n1.blk.free 2
  have gl := n1.lt
  have ql := n2.1.lt
  have HN1 := Lib.hid n1
  have HNX := Lib.hid hnx
  have HH := Lib.hid h
  have HG := Lib.hid n6
  have hw1 : IntKind.i64.wrap (p + s) = p + s := IntWalk.i64_in _ (by omega)
  have hw2 : IntKind.i64.wrap (c.pos + c.size - p) = c.pos + c.size - p := IntWalk.i64_in _ (by omega)
  have hw3 : IntKind.i64.wrap (c.pos + c.size - p - s) = c.pos + c.size - p - s := IntWalk.i64_in _ (by omega)
  have hw4 : IntKind.i64.wrap (p - c.pos) = p - c.pos := IntWalk.i64_in _ (by omega)
  have CE := Lib.hid (fun W => end_any c.pos c.size (by omega) (by omega) W)
  have HBB := Lib.hid hB
  clear h n1 n2 n4 n6 hnx hB
  go_enter Try.func44, Try.ntmps44
  go_wp2_with fail
  have hkb : Kb [g] w ((w.setCell ⟨g, 2, none⟩ (.pointer nx)).alloc (.cells #[.int .i64 c.pos, .int .i64 c.size] 44)) := (Kb.setCell (by simp) _).trans (Kb.of_below (below1 _ _))
  have hn0 : Node (w.setCell ⟨g, 2, none⟩ (.pointer nx)) g b nx := ⟨HN1.out.blk.set _ _, by rw [World.cell?_setCell_other _ _ _ _ (by simp)]; exact HN1.out.c0, by rw [World.cell?_setCell_other _ _ _ _ (by simp)]; exact HN1.out.c1, World.cell?_setCell_same _ _ _ c2⟩
  have hn1 : Node ((w.setCell ⟨g, 2, none⟩ (.pointer nx)).alloc (.cells #[.int .i64 c.pos, .int .i64 c.size] 44)) g b (hdP ys none) := by rw [HNX.out]; exact hn0.below (below1 _ _)
  have hch1 := HH.out.del hkb.but hn1
  have bx0 : ((w.setCell ⟨g, 2, none⟩ (.pointer nx)).alloc (.cells #[.int .i64 c.pos, .int .i64 c.size] 44)).cell? ⟨w.heap.size, 0, none⟩ = some (.int .i64 c.pos) := by go_simp
  have bx1 : ((w.setCell ⟨g, 2, none⟩ (.pointer nx)).alloc (.cells #[.int .i64 c.pos, .int .i64 c.size] 44)).cell? ⟨w.heap.size, 1, none⟩ = some (.int .i64 c.size) := by go_simp
  generalize ((w.setCell ⟨g, 2, none⟩ (.pointer nx)).alloc (.cells #[.int .i64 c.pos, .int .i64 c.size] 44)) = W1 at *
  have HC1 := Lib.hid hch1
  have HK1 := Lib.hid hkb
  clear hch1 hkb hn0 hn1 c2 d0 d1 d2 gf
  go_at_call 39
  refine (CE.out _).mono ?_
  rintro e w2 ⟨rfl, hb2⟩
  have HC2 := Lib.hid (HC1.out.below hb2)
  have HK2 := Lib.hid (HK1.out.trans (Kb.of_below hb2))
  replace bx0 := keepCell hb2 bx0
  replace bx1 := keepCell hb2 bx1
  clear hb2
  go_wp2_with fail
  go_at_call 62
  refine (insertK B xs ys g b (p + s) (c.pos + c.size - p - s) w2 (Nat.le_trans HBB.out HK2.out.but.1) HC2.out).mono ?_
  rintro e w3 ⟨rfl, zs1, hz1, hch3, hk3⟩
  have HC3 := Lib.hid hch3
  have HZ1 := Lib.hid hz1
  have HK3 := Lib.hid (HK2.out.trans hk3)
  replace bx0 := hk3.but.cell (a := ⟨w.heap.size, 0, none⟩) (by rw [List.mem_singleton]; dsimp only; omega) bx0
  replace bx1 := hk3.but.cell (a := ⟨w.heap.size, 1, none⟩) (by rw [List.mem_singleton]; dsimp only; omega) bx1
  clear hch3 hk3 hz1
  go_wp2_with fail
  go_at_call 62
  refine (insertK B xs (zs1 ++ ys) g b c.pos (p - c.pos) w3 (Nat.le_trans HBB.out HK3.out.but.1) HC3.out).mono ?_
  rintro e w4 ⟨rfl, zs2, hz2, hch4, hk4⟩
  have HC4 := Lib.hid hch4
  have HZ2 := Lib.hid hz2
  have HK4 := Lib.hid (HK3.out.trans hk4)
  clear hch4 hk4 hz2 bx0 bx1
  go_wp2_with fail
  go_end0
  refine ⟨rfl, ⟨zs2 ++ zs1, ?_, by rw [List.append_assoc]; exact HC4.out⟩, kbB HK4.out HG.out HBB.out⟩
  rw [List.map_append, HZ1.out, HZ2.out]
  unfold splitBk
  by_cases h1 : c.pos < p
  · rw [if_pos (by omega), if_pos h1]
  · rw [if_neg (by omega), if_neg h1]
end Go.Proofs.Ytoeofhhmkkpjbaa
