/-
  The walks of both SameType.
-/
import Derived.Test.YtifchfecfkdjlaaGreatDoorSameI
namespace Go.Proofs.YtifchfecfkdjlaaGreatDoor
open Go.ChangeShapes Go.WideShapes Go.ChangeAt Go.RowKit Go.Deep

theorem specSameType_any (T U : Ty) (hT : T.wt ≤ 1048576) (hU : U.wt ≤ 1048576) (A B A' B' : Option Addr) (ca cb ca' cb' lo lo' : Nat) (w : World) (h : Ty.At w lo T A B) (h' : Ty.At w lo' U A' B') :
    Calls Tryz.prog 49 #[.agg #[.int .i64 T.kind, .string T.name, .slice A T.labels.length ca, .slice B T.kids.length cb], .agg #[.int .i64 U.kind, .string U.name, .slice A' U.labels.length ca', .slice B' U.kids.length cb']] w (SaysB (SameOk T U 1) w) := by
  have C := Lib.hid (fun W x y => l03Same_any T hT U hU 1 (by omega) (by omega) A B A' B' ca cb ca' cb' lo lo' W x y)
  have H := Lib.hid h
  have H' := Lib.hid h'
  clear h h' hT hU
  go_enter Tryz.func49, Tryz.ntmps49
  go_wp2_with fail
  go_at_call 68
  refine (C.out _ (H.out.below (below2 _ _ _)) (H'.out.below (below2 _ _ _))).mono ?_
  rintro e w2 ⟨v, rfl, hv, hb⟩
  have HV := Lib.hid hv
  have HB := Lib.hid (bnext (below2 _ _ _) hb)
  clear hv hb C
  go_wp2_with fail
  go_ret
  exact ⟨v, rfl, HV.out, HB.out⟩

theorem Ty.rowP_one {W : World} {T : Ty} {A B : Option Addr} {ca cb g : Nat} (hb : Blk W g) (h0 : W.cell? ⟨g, 0, none⟩ = some (.int .i64 T.kind)) (h1 : W.cell? ⟨g, 1, none⟩ = some (.string T.name)) (h2 : W.cell? ⟨g, 2, none⟩ = some (.slice A T.labels.length ca)) (h3 : W.cell? ⟨g, 3, none⟩ = some (.slice B T.kids.length cb)) (ht : Ty.Pl W 0 T A B) : Ty.RowP W [T] (some ⟨g, 0, none⟩) := fun _ => ⟨g, 0, rfl, hb, fun i t hi => by
  cases i with
  | zero =>
    cases hi
    exact ⟨A, B, ca, cb, by simpa using h0, by simpa using h1, by simpa using h2, by simpa using h3, ht⟩
  | succ i => simp at hi⟩
theorem same_one {T U : Ty} : SameAll [T] [U] 100 ↔ SameOk T U 1 := by
  unfold SameAll SameOk
  simp only [Ty.depths, List.cons.injEq, and_true]
  constructor
  · rintro ⟨h1, h2⟩
    exact ⟨h1, by omega⟩
  · rintro ⟨h1, h2⟩
    exact ⟨h1, by omega⟩
theorem sameTypes_one (T U : Ty) (hT : T.wt ≤ 1048576) (hU : U.wt ≤ 1048576) (g g' m : Nat) (W : World) (h1 : Ty.RowP W [T] (some ⟨g, 0, none⟩)) (h2 : Ty.RowP W [U] (some ⟨g', 0, none⟩)) (h3 : Pairs W m) :
    Calls Tryz.prog 96 #[.slice (some ⟨g, 0, none⟩) (1 : Nat) (1 : Nat), .slice (some ⟨g', 0, none⟩) (1 : Nat) (1 : Nat), .int .i64 100, .map (some m)] W fun e w' => ∃ v : Bool, e = .returned (.bool v) ∧ (v = true ↔ SameOk T U 1) ∧ Gm m W w' := by
  have one : ∀ V : Ty, V.wt ≤ 1048576 → ∀ (i : Nat) (t : Ty), [V][i]? = some t → t.wt ≤ 1048576 := fun V hV i t hi => by
    cases i with
    | zero =>
      cases hi
      exact hV
    | succ i => simp at hi
  exact (sameTypes_any 100 (by omega) [T] [U] (by simp) (by simp) (one T hT) (one U hU) (some ⟨g, 0, none⟩) (some ⟨g', 0, none⟩) 1 1 m W h1 h2 h3).mono fun _ _ ⟨v, e1, e2, _, e4⟩ => ⟨v, e1, e2.trans same_one, e4⟩

theorem blk_new (w : World) (c : Array Value) (t : TypeId) : Blk (w.alloc (.cells c t)) w.heap.size := ⟨c, t, by show (w.heap.push _)[w.heap.size]? = _; simp⟩
theorem Blk.alloc {w : World} {g : Nat} (h : Blk w g) (o : Obj) : Blk (w.alloc o) g := h.below (below1 _ _)

theorem blk_new2 (w : World) (a b : Obj) (c : Array Value) (t : TypeId) : Blk (((w.alloc a).alloc b).alloc (.cells c t)) (w.heap.size + 1 + 1) := by
  have h := blk_new ((w.alloc a).alloc b) c t
  simpa using h
theorem blk_new3 (w : World) (a b d : Obj) (c : Array Value) (t : TypeId) : Blk ((((w.alloc a).alloc b).alloc d).alloc (.cells c t)) (w.heap.size + 1 + 1 + 1) := by
  have h := blk_new (((w.alloc a).alloc b).alloc d) c t
  simpa using h
theorem made4 (w : World) (a b c d : Obj) : Pairs (((((w.alloc a).alloc b).alloc c).alloc d).alloc (.map #[] 0)) (w.heap.size + 1 + 1 + 1 + 1) := by
  have h := Pairs.made ((((w.alloc a).alloc b).alloc c).alloc d)
  simpa using h
theorem Gm.below {m B : Nat} {a b : World} (h : Gm m a b) (hm : B ≤ m) (hs : B ≤ a.heap.size) : Below B a b := ⟨h.os, h.tape, h.output, h.size, fun k hk => h.block k (by omega) (fun e => by have := Option.some.inj e; omega)⟩

theorem implSameType_any (T U : Ty) (hT : T.wt ≤ 1048576) (hU : U.wt ≤ 1048576) (A B A' B' : Option Addr) (ca cb ca' cb' : Nat) (w : World) (h : Ty.Pl w 0 T A B) (h' : Ty.Pl w 0 U A' B') :
    Calls Tryz.prog 90 #[.agg #[.int .i64 T.kind, .string T.name, .slice A T.labels.length ca, .slice B T.kids.length cb], .agg #[.int .i64 U.kind, .string U.name, .slice A' U.labels.length ca', .slice B' U.kids.length cb']] w (SaysB (SameOk T U 1) w) := by
  have C := Lib.hid (fun g g' m W x y z => sameTypes_one T U hT hU g g' m W x y z)
  have H := Lib.hid h
  have H' := Lib.hid h'
  clear h h' hT hU
  have hmm := @run_makeMap Tryz.prog
  go_enter Tryz.func90, Tryz.ntmps90
  go_wp2_with fail
  go_at_call 96
  refine (C.out _ _ _ _ (Ty.rowP_one (A := A) (B := B) (ca := ca) (cb := cb) ((blk_new2 _ _ _ _ _).alloc _ |>.alloc _) (by go_simp) (by go_simp) (by go_simp) (by go_simp) (H.out.keep (Kp.below (below5 _ _ _ _ _ _)).1)) (Ty.rowP_one (A := A') (B := B') (ca := ca') (cb := cb') ((blk_new3 _ _ _ _ _ _).alloc _) (by go_simp) (by go_simp) (by go_simp) (by go_simp) (H'.out.keep (Kp.below (below5 _ _ _ _ _ _)).1)) (made4 _ _ _ _ _)).mono ?_
  rintro e w2 ⟨v, rfl, hv, hg⟩
  have HV := Lib.hid hv
  have HB : Hid (Below w.heap.size w w2) := Lib.hid ((below5 _ _ _ _ _ _).trans (hg.below (by omega) (by simp; omega)))
  clear hv hg C
  go_wp2_with fail
  go_ret
  exact ⟨v, rfl, HV.out, HB.out⟩
end Go.Proofs.YtifchfecfkdjlaaGreatDoor
