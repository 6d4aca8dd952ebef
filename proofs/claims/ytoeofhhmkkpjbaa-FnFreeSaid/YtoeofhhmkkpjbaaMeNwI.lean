/-
  The walk of the program's NewMemory; what it answers.
-/
import Derived.Test.YtoeofhhmkkpjbaaMeGrI
namespace Go.Proofs.Ytoeofhhmkkpjbaa
open Go.ChangeShapes Go.WideShapes Go.ChangeAt Go.RowKit Go.Deep

def memNew (m : Int) : Me × Int := if 0 ≤ m ∧ m ≤ 4096 then (⟨zeroB m.toNat, if 8 < m then [⟨8, m - 8⟩] else []⟩, 0) else (noMe, 2)
theorem noMe_ok : memOk noMe = true := by decide
theorem grow_new {m : Int} (h0 : 0 ≤ m) (h1 : m ≤ 4096) : memGrow noMe m = memNew m := by
  have hs : (noMe.bytes.size : Int) = 0 := rfl
  have ha : growAt noMe = 8 := by unfold growAt; rw [hs]; rfl
  have hg : growL noMe m = if 8 < m then [⟨8, m - 8⟩] else [] := by
    unfold growL
    rw [ha, hs, show (0 : Int) + m = m by omega]
    by_cases h8 : 8 < m
    · rw [if_pos h8, if_pos h8]
      rfl
    · rw [if_neg h8, if_neg h8]
      rfl
  have e : noMe.bytes ++ zeroB m.toNat = zeroB m.toNat := ByteArray.empty_append
  unfold memGrow memNew
  rw [if_pos noMe_ok, if_neg (by omega), hs, if_neg (by omega), if_pos ⟨h0, h1⟩, hg, e]
/-- One box. -/
structure Bx (w W : World) : Prop where
  q0 : W.cell? ⟨w.heap.size, 0, none⟩ = some (.string ⟨#[]⟩)
  q1 : W.cell? ⟨w.heap.size, 1, none⟩ = some (.slice none 0 0)
  qf : ∀ o, W.frozen? ⟨w.heap.size, o, none⟩ = false
  hb : Below w.heap.size w W
  hz : w.heap.size + 1 ≤ W.heap.size
theorem Bx.new (w : World) : Bx w (w.alloc (.cells #[.string ⟨#[]⟩, .slice none 0 0] 38)) := ⟨by go_simp, by go_simp, (fun o => by go_simp), below1 _ _, by simp⟩
theorem Bx.below {w W W' : World} (h : Bx w W) (hb : Below W.heap.size W W') : Bx w W' :=
  ⟨keepCell hb h.q0, keepCell hb h.q1, fun o => (hb.frozen (p := ⟨w.heap.size, o, none⟩) (by have := h.hz; dsimp only; omega)).trans (h.qf o), h.hb.trans (hb.mono (by have := h.hz; omega)), Nat.le_trans h.hz hb.size⟩
theorem Bx.ret {w W : World} (h : Bx w W) (v0 v1 : Value) :
    ((W.setCell ⟨w.heap.size, 0, none⟩ v0).setCell ⟨w.heap.size, 1, none⟩ v1).cell? ⟨w.heap.size, 0, none⟩ = some v0 ∧
    ((W.setCell ⟨w.heap.size, 0, none⟩ v0).setCell ⟨w.heap.size, 1, none⟩ v1).cell? ⟨w.heap.size, 1, none⟩ = some v1 ∧
    Grew w ((W.setCell ⟨w.heap.size, 0, none⟩ v0).setCell ⟨w.heap.size, 1, none⟩ v1) :=
  ⟨(setTwo7 h.q0 h.q1).1, (setTwo7 h.q0 h.q1).2, (h.hb.setCell (by dsimp only; omega) _).setCell (by dsimp only; omega) _, by have := h.hz; simp; omega⟩
theorem OwnBk.retB {w W : World} {xs : List Bk} {R : Option Addr} {n c : Nat} {base : Nat} (h : OwnBk W base xs R n c) (hb : w.heap.size + 1 ≤ base) (v0 v1 : Value) : OwnBk ((W.setCell ⟨w.heap.size, 0, none⟩ v0).setCell ⟨w.heap.size, 1, none⟩ v1) w.heap.size xs R n c :=
  (((h.far _ (by dsimp only; omega) _).far _ (by dsimp only; omega) _).down (by omega))
theorem noMe_wtA : noMe.wt ≤ 1048576 := by simp [noMe, Me.wt, Bk.wts, ByteArray.size]
theorem noMe_fin : noMe.Fin := ⟨by simp [noMe, ByteArray.size, maxLen], by simp [noMe, maxLen], fun y hy => by simp [noMe] at hy⟩
theorem noMe_at (w : World) : Me.At w 0 noMe none := fun h => by simp [noMe] at h

set_option maxRecDepth 100000 in
set_option maxHeartbeats 2000000 in
theorem implNew_no (m : Int) (k : Int) (hk : k ≠ 0) (he : memGrow noMe m = (noMe, k)) (w : World) :
    Calls Try.prog 12 #[.int .i64 m] w (MeAns2 noMe 2 w) := by
  have CG : Hid (∀ W : World, Calls Try.prog 33 #[.agg #[.string ⟨#[]⟩, .slice none 0 0], .int .i64 m] W (MeAns2 noMe k W)) := Lib.hid (fun W => by
    have h := implGrowMem_any noMe noMe_wtA noMe_fin none 0 m 0 W (noMe_at W)
    rw [he] at h
    exact h)
  clear he
  go_enter Try.func12, Try.ntmps12
  go_wp2_with fail
  have F0 := Lib.hid (Bx.new w)
  go_at_call 33
  refine (CG.out _).mono ?_
  rintro e w2 ⟨R2, c2, rfl, ho2, hb2⟩
  have HZ0 := Lib.hid F0.out.hz
  have F2 := Lib.hid (F0.out.below hb2.1)
  have HO2 := Lib.hid ho2
  have F3 := Lib.hid (fun o => F2.out.below (below1 w2 o))
  have q0 := fun o => (F3.out o).q0
  have q1 := fun o => (F3.out o).q1
  have qf := fun o => (F3.out o).qf
  have hzne : w.heap.size ≠ w2.heap.size := by have := F2.out.hz; omega
  clear ho2 hb2
  go_wp2_with fail
  obtain ⟨s0, s1, s2⟩ := (F3.out (.cells #[.string noMe.bytes, .slice R2 noMe.free.length c2] 38)).ret (.string ⟨#[]⟩) (.slice none 0 0)
  refine bodyPost_ret (v := .tuple #[.agg #[.string ⟨#[]⟩, .slice none 0 0], .int .i64 2]) (by simp [results, Try.results12, go_sem, s0, s1]) rfl ?_
  exact ⟨none, 0, rfl, ownBk_nil _ _, s2⟩
set_option maxRecDepth 100000 in
set_option maxHeartbeats 2000000 in
theorem implNew_yes (m : Int) (r : Me) (he : memGrow noMe m = (r, 0)) (w : World) :
    Calls Try.prog 12 #[.int .i64 m] w (MeAns2 r 0 w) := by
  have CG : Hid (∀ W : World, Calls Try.prog 33 #[.agg #[.string ⟨#[]⟩, .slice none 0 0], .int .i64 m] W (MeAns2 r 0 W)) := Lib.hid (fun W => by
    have h := implGrowMem_any noMe noMe_wtA noMe_fin none 0 m 0 W (noMe_at W)
    rw [he] at h
    exact h)
  clear he
  go_enter Try.func12, Try.ntmps12
  go_wp2_with fail
  have F0 := Lib.hid (Bx.new w)
  go_at_call 33
  refine (CG.out _).mono ?_
  rintro e w2 ⟨R2, c2, rfl, ho2, hb2⟩
  have HZ0 := Lib.hid F0.out.hz
  have F2 := Lib.hid (F0.out.below hb2.1)
  have HO2 := Lib.hid ho2
  have F3 := Lib.hid (fun o => F2.out.below (below1 w2 o))
  have q0 := fun o => (F3.out o).q0
  have q1 := fun o => (F3.out o).q1
  have qf := fun o => (F3.out o).qf
  have hzne : w.heap.size ≠ w2.heap.size := by have := F2.out.hz; omega
  clear ho2 hb2
  go_wp2_with fail
  obtain ⟨s0, s1, s2⟩ := (F3.out (.cells #[.string r.bytes, .slice R2 r.free.length c2] 38)).ret (.string r.bytes) (.slice R2 r.free.length c2)
  refine bodyPost_ret (v := .tuple #[.agg #[.string r.bytes, .slice R2 r.free.length c2], .int .i64 0]) (by simp [results, Try.results12, go_sem, s0, s1]) rfl ?_
  exact ⟨R2, c2, rfl, (HO2.out.keep (below1 _ _)).retB HZ0.out _ _, s2⟩
theorem implNewMemory_any (m : Int) (w : World) : Calls Try.prog 12 #[.int .i64 m] w (MeAns2 (memNew m).1 (memNew m).2 w) := by
  by_cases h : 0 ≤ m ∧ m ≤ 4096
  · have e := grow_new h.1 h.2
    have e2 : (memNew m).2 = 0 := by unfold memNew; rw [if_pos h]
    rw [e2]
    exact implNew_yes m (memNew m).1 (by rw [e, ← e2]) w
  · have e : memNew m = (noMe, 2) := by unfold memNew; rw [if_neg h]
    rw [e]
    by_cases h0 : m < 0
    · exact implNew_no m 2 (by decide) (by unfold memGrow; rw [if_pos noMe_ok, if_pos h0]) w
    · have hs : (noMe.bytes.size : Int) = 0 := rfl
      exact implNew_no m 4 (by decide) (by unfold memGrow; rw [if_pos noMe_ok, if_neg h0, hs, if_pos (by omega)]) w
end Go.Proofs.Ytoeofhhmkkpjbaa
