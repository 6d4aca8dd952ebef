/-
  What the program's reasons say; the walk of under. No condition.
-/
import Derived.Test.YtifchfecfkdjlaaGreatDoorNrAll
import Derived.Test.YtifchfecfkdjlaaGreatDoorPlaces
import Derived.Test.YtifchfecfkdjlaaGreatDoorTyPl
import Derived.Test.YtifchfecfkdjlaaGreatDoorTyParts
namespace Go.Proofs.YtifchfecfkdjlaaGreatDoor
open Go.ChangeShapes Go.WideShapes Go.ChangeAt Go.RowKit Go.Deep

def rk : Option (Int × ByteArray) → Int | none => 0 | some x => x.1
def ra : Option (Int × ByteArray) → ByteArray | none => ⟨#[]⟩ | some x => x.2
def RsnPost (r : Option (Int × ByteArray)) (w : World) (e : Ending) (w' : World) : Prop := e = .returned (.agg #[.int .i64 (rk r), .string (ra r)]) ∧ Below w.heap.size w w'

theorem Ty.Pl.on {w w' : World} {T : Ty} {A B : Option Addr} (h : Ty.Pl w 0 T A B) (hb : Below w.heap.size w w') : Ty.Pl w' 0 T A B := h.keep (Kp.below hb).1
theorem RsnPost.none_ {w w' : World} {e : Ending} (h : RsnPost none w e w') : e = .returned (.agg #[.int .i64 0, .string ⟨#[]⟩]) ∧ Below w.heap.size w w' := h
theorem RsnPost.some_ {k : Int} {p : ByteArray} {w w' : World} {e : Ending} (h : RsnPost (some (k, p)) w e w') : e = .returned (.agg #[.int .i64 k, .string p]) ∧ Below w.heap.size w w' := h

theorem under_none (s : ByteArray) (w : World) : Calls Tryz.prog 60 #[.agg #[.int .i64 0, .string ⟨#[]⟩], .string s] w (RsnPost none w) := by
  go_enter Tryz.func60, Tryz.ntmps60
  go_wp2_with fail
  exact bodyPost_ret (v := .agg #[.int .i64 0, .string ⟨#[]⟩]) (by simp [results, Tryz.results60, go_sem]) rfl ⟨rfl, by (first | (with_reducible exact (below2 _ _ _)) | ((with_reducible refine Below.setCell ((below2 _ _ _)) ?_ _) <;> (first | exact Nat.le_refl _ | exact Nat.le_add_right _ _ | (dsimp only; omega) | (simp; omega))) | ((with_reducible refine Below.setCell (Below.setCell ((below2 _ _ _)) ?_ _) ?_ _) <;> (first | exact Nat.le_refl _ | exact Nat.le_add_right _ _ | (dsimp only; omega) | (simp; omega))) | ((with_reducible refine Below.setCell (Below.setCell (Below.setCell ((below2 _ _ _)) ?_ _) ?_ _) ?_ _) <;> (first | exact Nat.le_refl _ | exact Nat.le_add_right _ _ | (dsimp only; omega) | (simp; omega))))⟩
theorem under_some (k : Int) (p s : ByteArray) (hk : 1 ≤ k ∧ k ≤ 11) (hp : p.size ≤ 100000000) (hs : s.size ≤ 100000000) (w : World) : Calls Tryz.prog 60 #[.agg #[.int .i64 k, .string p], .string s] w (RsnPost (some (k, s ++ p)) w) := by
  have e1 : (k == 0) = false := by rw [beq_eq_false_iff_ne]; omega
  have e2 : (k != 0) = true := by rw [bne_iff_ne]; omega
  have hsz : ¬ 9223372036854775807 < s.size + p.size := by omega
  clear hk hp hs
  go_enter Tryz.func60, Tryz.ntmps60
  go_wp2_with fail
  refine bodyPost_ret (v := .agg #[.int .i64 k, .string (s ++ p)]) (by simp [results, Tryz.results60, go_sem]) rfl ⟨rfl, ?_⟩
  (first | (with_reducible exact below2 _ _ _) | ((with_reducible refine Below.setCell (below2 _ _ _) ?_ _) <;> (first | exact Nat.le_refl _ | exact Nat.le_add_right _ _ | (dsimp only; omega) | (simp; omega))) | ((with_reducible refine Below.setCell (Below.setCell (below2 _ _ _) ?_ _) ?_ _) <;> (first | exact Nat.le_refl _ | exact Nat.le_add_right _ _ | (dsimp only; omega) | (simp; omega))) | ((with_reducible refine Below.setCell (Below.setCell (Below.setCell (below2 _ _ _) ?_ _) ?_ _) ?_ _) <;> (first | exact Nat.le_refl _ | exact Nat.le_add_right _ _ | (dsimp only; omega) | (simp; omega))))
theorem under_any (r : Option (Int × ByteArray)) (hr : RsnOk 100000000 r) (s : ByteArray) (hs : s.size ≤ 100000000) (w : World) :
    Calls Tryz.prog 60 #[.agg #[.int .i64 (rk r), .string (ra r)], .string s] w (RsnPost (preR s r) w) := by
  cases r with
  | none => exact under_none s w
  | some x =>
    obtain ⟨k, p⟩ := x
    obtain ⟨h1, h2⟩ := hr k p rfl
    exact under_some k p s h1 h2 hs w

/-- A type in order, not deeper than n. -/
def Gd (n : Nat) (T : Ty) : Prop := T.wt ≤ 1048576 ∧ T.Sound ∧ T.depth ≤ n ∧ T.size ≤ 24
theorem Gd.kid {n : Nat} {T t : Ty} (h : Gd (n + 1) T) {i : Nat} (ht : T.kids[i]? = some t) : Gd n t := by
  obtain ⟨h1, h2, h3, h4⟩ := h
  have g1 := Ty.depths_get ht
  have g2 := T.depth_eq
  have g3 := Ty.size_kid ht
  exact ⟨(Ty.len_le h1).2.2.1 i t ht, Ty.sounds_get ((Ty.sound_eq T).1 h2).2 ht, by omega, by omega⟩
theorem Gd.shape {n : Nat} {T : Ty} (h : Gd n T) : ShapeOk T := ((Ty.sound_eq T).1 h.2.1).1
theorem Gd.kids {n : Nat} {T : Ty} (h : Gd n T) : T.kids.length ≤ 24 := by
  have h2 := T.size_eq
  have h3 := Ty.length_le T.kids
  have := h.2.2.2
  omega
theorem ShapeOk.one {T : Ty} (h : ShapeOk T) (hk : T.kind = 12 ∨ T.kind = 13 ∨ T.kind = 22 ∨ T.kind = 23) : T.kids.length = 1 := by
  have h1 := h.2
  unfold BodyOk at h1
  rcases hk with e | e | e | e
  · rw [if_pos (Or.inl e)] at h1; exact h1.1
  · rw [if_pos (Or.inr e)] at h1; exact h1.1
  · rw [if_neg (by omega), if_pos (Or.inl e)] at h1; exact h1.1
  · rw [if_neg (by omega), if_pos (Or.inr e)] at h1; exact h1.1
theorem ShapeOk.two {T : Ty} (h : ShapeOk T) (hk : T.kind = 14) : T.kids.length = 2 := by
  have h1 := h.2
  unfold BodyOk at h1
  rw [if_neg (by omega), if_neg (by omega), if_pos hk] at h1
  exact h1
theorem ShapeOk.six {T : Ty} (h : ShapeOk T) (hk : T.kind = 15) : T.kids.length ≤ 6 := by
  have h1 := h.2
  unfold BodyOk at h1
  rw [if_neg (by omega), if_neg (by omega), if_neg (by omega), if_pos hk] at h1
  exact h1.1.2
theorem ShapeOk.lab {T : Ty} (h : ShapeOk T) (hk : T.kind = 16 ∨ T.kind = 17) : T.kids.length = T.labels.length := by
  have h1 := h.2
  unfold BodyOk at h1
  rcases hk with e | e
  · rw [if_neg (by omega), if_neg (by omega), if_neg (by omega), if_neg (by omega), if_pos e] at h1; exact h1.1
  · rw [if_neg (by omega), if_neg (by omega), if_neg (by omega), if_neg (by omega), if_neg (by omega), if_pos e] at h1; exact h1
theorem ShapeOk.apart {T : Ty} (h : ShapeOk T) (hk : 16 ≤ T.kind ∧ T.kind ≤ 19) : Apart T.labels := (h.1.2.2.1 hk).2.2.apart

/-- typeReason at types not deeper than n. -/
def TyR (n : Nat) : Prop := ∀ (a b : Ty), Gd n a → Gd n b → ∀ (A B A' B' : Option Addr) (ca cb ca' cb' : Nat) (w : World), Ty.Pl w 0 a A B → Ty.Pl w 0 b A' B' → RTable w →
  Calls Tryz.prog 32 #[.agg #[.int .i64 a.kind, .string a.name, .slice A a.labels.length ca, .slice B a.kids.length cb], .agg #[.int .i64 b.kind, .string b.name, .slice A' b.labels.length ca', .slice B' b.kids.length cb']] w (RsnPost (Ty.why n a b) w)
theorem Ty.why_small {n : Nat} (hn : n ≤ 4) {a b : Ty} (ha : Gd n a) (hb : Gd n b) : RsnOk 5000000 (Ty.why n a b) := (Ty.why_ok n a b ha.1 hb.1 (by have := hb.2.2.2; omega)).mono (by omega)
end Go.Proofs.YtifchfecfkdjlaaGreatDoor
