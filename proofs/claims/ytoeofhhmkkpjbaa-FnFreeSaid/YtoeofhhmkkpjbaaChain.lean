/-
  A linked list of free blocks: what it means that one lies in memory, and that it stays there. No condition.
-/
import Derived.Test.YtoeofhhmkkpjbaaBkOwn
namespace Go.Proofs.Ytoeofhhmkkpjbaa
open Go.ChangeShapes Go.WideShapes Go.ChangeAt Go.RowKit Go.Deep

/-- One place: a block, and what lies behind it. -/
structure Node (w : World) (g : Nat) (b : Bk) (nx : Option Addr) : Prop where
  blk : Blk w g
  c0 : w.cell? ⟨g, 0, none⟩ = some (.int .i64 b.pos)
  c1 : w.cell? ⟨g, 1, none⟩ = some (.int .i64 b.size)
  c2 : w.cell? ⟨g, 2, none⟩ = some (.pointer nx)
theorem Node.but {w w' : World} {g : Nat} {b : Bk} {nx : Option Addr} {bs : List Nat} (h : Node w g b nx) (hk : KeptBut bs w w') (hn : g ∉ bs) : Node w' g b nx :=
  ⟨hk.blk hn h.blk, hk.cell (a := ⟨g, 0, none⟩) hn h.c0, hk.cell (a := ⟨g, 1, none⟩) hn h.c1, hk.cell (a := ⟨g, 2, none⟩) hn h.c2⟩
theorem Node.below {w w' : World} {g : Nat} {b : Bk} {nx : Option Addr} (h : Node w g b nx) (hb : Below w.heap.size w w') : Node w' g b nx := h.but (KeptBut.of_below (bs := []) hb) (by simp)
theorem Node.lt {w : World} {g : Nat} {b : Bk} {nx : Option Addr} (h : Node w g b nx) : g < w.heap.size := h.blk.lt

/-- Places, with what they hold. -/
abbrev Pls := List (Nat × Bk)
def hdP : Pls → Option Addr → Option Addr
  | [], h => h
  | x :: _, _ => some ⟨x.1, 0, none⟩
/-- The places hang together, the last at h. -/
def Seg (w : World) : Pls → Option Addr → Prop
  | [], _ => True
  | x :: xs, h => Node w x.1 x.2 (hdP xs h) ∧ Seg w xs h
theorem hdP_append (xs ys : Pls) (h : Option Addr) : hdP (xs ++ ys) h = hdP xs (hdP ys h) := by
  cases xs <;> rfl
theorem Seg.append {w : World} {ys : Pls} {h : Option Addr} : ∀ {xs : Pls}, Seg w (xs ++ ys) h ↔ Seg w xs (hdP ys h) ∧ Seg w ys h
  | [] => ⟨fun k => ⟨trivial, k⟩, fun k => k.2⟩
  | x :: xs => by
    show (Node w x.1 x.2 (hdP (xs ++ ys) h) ∧ Seg w (xs ++ ys) h) ↔ (Node w x.1 x.2 (hdP xs (hdP ys h)) ∧ Seg w xs (hdP ys h)) ∧ Seg w ys h
    rw [Seg.append (xs := xs), hdP_append, and_assoc]
theorem Seg.but {w w' : World} {bs : List Nat} (hk : KeptBut bs w w') {h : Option Addr} : ∀ {xs : Pls}, (∀ x ∈ xs, x.1 ∉ bs) → Seg w xs h → Seg w' xs h
  | [], _, _ => trivial
  | x :: xs, hn, k => ⟨k.1.but hk (hn x (by simp)), Seg.but hk (fun y hy => hn y (by simp [hy])) k.2⟩
theorem Seg.below {w w' : World} {xs : Pls} {h : Option Addr} (k : Seg w xs h) (hb : Below w.heap.size w w') : Seg w' xs h := k.but (KeptBut.of_below (bs := []) hb) (by simp)
theorem Seg.mem {w : World} {h : Option Addr} : ∀ {xs : Pls}, Seg w xs h → ∀ x ∈ xs, x.1 < w.heap.size
  | y :: ys, k, x, hx => by
    rcases List.mem_cons.1 hx with rfl | hx
    · exact k.1.lt
    · exact Seg.mem k.2 x hx
/-- A list of places of one's own: no place twice, all of them new. -/
structure ChnAt (B : Nat) (w : World) (l : Pls) : Prop where
  seg : Seg w l none
  nodup : (l.map Prod.fst).Nodup
  new : ∀ x ∈ l, B ≤ x.1
theorem ChnAt.below {B : Nat} {w w' : World} {l : Pls} (h : ChnAt B w l) (hb : Below w.heap.size w w') : ChnAt B w' l := ⟨h.seg.below hb, h.nodup, h.new⟩
/-- Some place of the list, what lies ahead and what behind it. -/
theorem ChnAt.parts {B : Nat} {w : World} {xs ys : Pls} {g : Nat} {b : Bk} (h : ChnAt B w (xs ++ (g, b) :: ys)) : Seg w xs (some ⟨g, 0, none⟩) ∧ Node w g b (hdP ys none) ∧ Seg w ys none ∧ (∀ x ∈ xs, x.1 ≠ g) ∧ (∀ x ∈ ys, x.1 ≠ g) ∧ B ≤ g := by
  obtain ⟨h1, h2, h3⟩ := Seg.append.1 h.seg
  have hn := h.nodup
  rw [List.map_append, List.nodup_append] at hn
  obtain ⟨_, n2, n3⟩ := hn
  rw [List.map_cons, List.nodup_cons] at n2
  refine ⟨h1, h2, h3, fun x hx e => n3 x.1 (List.mem_map.2 ⟨x, hx, rfl⟩) g (by simp) e, fun x hx e => n2.1 (List.mem_map.2 ⟨x, hx, e⟩), h.new (g, b) (by simp)⟩
/-- Another block, or another behind it, at one place. -/
theorem ChnAt.set {B : Nat} {w w' : World} {xs ys : Pls} {g : Nat} {b b' : Bk} (h : ChnAt B w (xs ++ (g, b) :: ys)) (hk : KeptBut [g] w w') (hn : Node w' g b' (hdP ys none)) : ChnAt B w' (xs ++ (g, b') :: ys) := by
  obtain ⟨h1, h2, h3, h4, h5, h6⟩ := h.parts
  refine ⟨Seg.append.2 ⟨h1.but hk (fun x hx => by simp [h4 x hx]), hn, h3.but hk (fun x hx => by simp [h5 x hx])⟩, by simpa using h.nodup, fun x hx => ?_⟩
  rcases List.mem_append.1 hx with hx | hx
  · exact h.new x (by simp [hx])
  · rcases List.mem_cons.1 hx with rfl | hx
    · exact h6
    · exact h.new x (by simp [hx])
/-- One place more, behind one. -/
theorem ChnAt.ins {B : Nat} {w w' : World} {xs ys : Pls} {g g' : Nat} {b b' : Bk} (h : ChnAt B w (xs ++ (g, b) :: ys)) (hB : B ≤ w.heap.size) (hk : KeptBut [g] w w') (hn : Node w' g b (some ⟨g', 0, none⟩)) (hg : w.heap.size ≤ g') (hn' : Node w' g' b' (hdP ys none)) : ChnAt B w' (xs ++ (g, b) :: (g', b') :: ys) := by
  obtain ⟨h1, h2, h3, h4, h5, h6⟩ := h.parts
  have hmem := h.seg.mem
  refine ⟨Seg.append.2 ⟨h1.but hk (fun x hx => by simp [h4 x hx]), hn, hn', h3.but hk (fun x hx => by simp [h5 x hx])⟩, ?_, fun x hx => ?_⟩
  · have hnd := h.nodup
    rw [List.map_append, List.map_cons] at hnd
    rw [List.map_append, List.map_cons, List.map_cons]
    refine (List.perm_middle (l₁ := xs.map Prod.fst) (l₂ := g' :: ys.map Prod.fst)).nodup_iff.2 ?_
    have hp : (g :: (xs.map Prod.fst ++ g' :: ys.map Prod.fst)).Perm (g' :: (xs.map Prod.fst ++ g :: ys.map Prod.fst)) :=
      ((List.perm_middle.cons g).trans (List.Perm.swap g' g _)).trans (List.perm_middle.symm.cons g')
    refine hp.nodup_iff.2 (List.nodup_cons.2 ⟨fun hm => ?_, hnd⟩)
    have : g' < w.heap.size := by
      rw [← List.map_cons (f := Prod.fst) (a := (g, b)), ← List.map_append] at hm
      obtain ⟨x, hx, e⟩ := List.mem_map.1 hm
      rw [← e]
      exact hmem x hx
    omega
  · rcases List.mem_append.1 hx with hx | hx
    · exact h.new x (by simp [hx])
    · rcases List.mem_cons.1 hx with rfl | hx
      · exact h6
      · rcases List.mem_cons.1 hx with rfl | hx
        · exact Nat.le_trans hB hg
        · exact h.new x (by simp [hx])
/-- One place less, behind one; the one may hold another block. -/
theorem ChnAt.del {B : Nat} {w w' : World} {xs ys : Pls} {g g' : Nat} {b b' b2 : Bk} (h : ChnAt B w (xs ++ (g, b) :: (g', b2) :: ys)) (hk : KeptBut [g] w w') (hn : Node w' g b' (hdP ys none)) : ChnAt B w' (xs ++ (g, b') :: ys) := by
  obtain ⟨h1, h2, h3, h4, h5, h6⟩ := h.parts
  refine ⟨Seg.append.2 ⟨h1.but hk (fun x hx => by simp [h4 x hx]), hn, h3.2.but hk (fun x hx => by simp [h5 x (by simp [hx])])⟩, ?_, fun x hx => ?_⟩
  · have hnd := h.nodup
    refine hnd.sublist ?_
    simp only [List.map_append, List.map_cons]
    exact (List.Sublist.refl _).append ((List.sublist_cons_self _ _).cons_cons _)
  · rcases List.mem_append.1 hx with hx | hx
    · exact h.new x (by simp [hx])
    · rcases List.mem_cons.1 hx with rfl | hx
      · exact h6
      · exact h.new x (by simp [hx])
end Go.Proofs.Ytoeofhhmkkpjbaa
