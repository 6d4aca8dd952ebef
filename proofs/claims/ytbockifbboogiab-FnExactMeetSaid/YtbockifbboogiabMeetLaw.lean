/-
  The law on Meet: both answer alike at all ranges.
-/
import Derived.Test.YtbockifbboogiabSpecMeet
import Derived.Deep.DeepCutAuto
namespace Go.Proofs.Ytbockifbboogiab
open Go.ChangeShapes Go.WideShapes Go.ChangeAt Go.RowKit

theorem meet_both (a b c d : Int) : ∃ (x y : Int) (k : Bool),
    (∀ W, Calls Try.prog 14 #[.agg #[.int .i64 a, .int .i64 b], .agg #[.int .i64 c, .int .i64 d]] W fun e w' => e = .returned (.tuple #[.agg #[.int .i64 x, .int .i64 y], .bool k]) ∧ Below W.heap.size W w') ∧
    (∀ W, Calls Try.prog 15 #[.agg #[.int .i64 a, .int .i64 b], .agg #[.int .i64 c, .int .i64 d]] W fun e w' => e = .returned (.tuple #[.agg #[.int .i64 x, .int .i64 y], .bool k]) ∧ Below W.heap.size W w') := by
  have e1 : c < a ∧ max a c = a ∨ a < c ∧ max a c = c ∨ a = c ∧ max a c = a := by omega
  have e2 : b < d ∧ min b d = b ∨ d < b ∧ min b d = d ∨ b = d ∧ min b d = b := by omega
  by_cases h1 : rOk a b
  · by_cases h2 : rOk c d
    · by_cases h3 : max a c < min b d
      · have h4 : rOk (max a c) (min b d) := by unfold rOk at *; omega
        exact ⟨_, _, _, fun W => specMeet_yes a b c d _ _ W h1 h2 h3 rfl rfl, fun W => implMeet_yes a b c d _ _ W h1 h2 h4 e1 e2⟩
      · have h4 : ¬ rOk (max a c) (min b d) := by unfold rOk at *; omega
        exact ⟨_, _, _, fun W => specMeet_no3 a b c d _ _ W h1 h2 (by omega) rfl rfl, fun W => implMeet_no3 a b c d _ _ W h1 h2 h4 e1 e2⟩
    · exact ⟨_, _, _, fun W => specMeet_no2 a b c d _ _ W h1 h2 rfl rfl, fun W => implMeet_no2 a b c d _ _ W h1 h2 e1 e2⟩
  · exact ⟨_, _, _, fun W => specMeet_no1 a b c d _ _ W h1 rfl rfl, fun W => implMeet_no1 a b c d _ _ W h1 e1 e2⟩


theorem below_lt {B : Nat} {w w' : World} (h : Below B w w') : ∀ n, n < w.heap.size → n < w'.heap.size := fun _ k => Nat.lt_of_lt_of_le k h.size
/-- The four cells of two ranges, and that nothing that the call found has changed. -/
def S4 (a b c d : Int) (W : World) (w' : World) : Prop := w'.cell? ⟨W.heap.size, 0, none⟩ = some (.int .i64 a) ∧ w'.cell? ⟨W.heap.size, 1, none⟩ = some (.int .i64 b) ∧ w'.cell? ⟨W.heap.size + 1, 0, none⟩ = some (.int .i64 c) ∧ w'.cell? ⟨W.heap.size + 1, 1, none⟩ = some (.int .i64 d) ∧ Below W.heap.size W w'

theorem S4.keep {a b c d : Int} {W w0 w' : World} (hb : Below w0.heap.size w0 w') (h : S4 a b c d W w0) : S4 a b c d W w' :=
  ⟨keepCell hb h.1, keepCell hb h.2.1, keepCell hb h.2.2.1, keepCell hb h.2.2.2.1, bchain h.2.2.2.2 hb h.2.2.2.2.size⟩
theorem S4start (a b c d : Int) (w : World) (t : TypeId) : S4 a b c d w (((w.alloc (.cells #[.int .i64 a, .int .i64 b] t)).alloc (.cells #[.int .i64 c, .int .i64 d] t))) :=
  ⟨by go_simp, by go_simp, by go_simp, by go_simp, below2 _ _ _⟩
theorem S4.setCell {a b c d : Int} {W w0 : World} (h : S4 a b c d W w0) {p : Addr} (hp : W.heap.size + 1 < p.block) (u : Value) : S4 a b c d W (w0.setCell p u) := by
  have k : ∀ q : Addr, q.block ≤ W.heap.size + 1 → (w0.setCell p u).cell? q = w0.cell? q := fun q hq => World.cell?_of_block (Below.heap_setCell w0 p u q.block (by omega))
  exact ⟨(k _ (by simp)).trans h.1, (k _ (by simp)).trans h.2.1, (k _ (by simp)).trans h.2.2.1, (k _ (by simp)).trans h.2.2.2.1, h.2.2.2.2.setCell (by omega) u⟩
theorem S4.size {a b c d : Int} {W w0 : World} (h : S4 a b c d W w0) : W.heap.size + 1 < w0.heap.size := World.block_lt_of_cell? w0 _ h.2.2.1
theorem S4.alloc {a b c d : Int} {W w0 : World} (h : S4 a b c d W w0) (o : Obj) : S4 a b c d W (w0.alloc o) := h.keep (below1 _ _)
theorem S4.drew {a b c d : Int} {W w0 : World} (h : S4 a b c d W w0) : S4 a b c d W w0.drew := h.keep (Below.refl _ _).drew

/-- The same behind the first answer: two cells more. -/
def SB (a b c d x y : Int) (B g : Nat) (W : World) (w' : World) : Prop := w'.cell? ⟨B, 0, none⟩ = some (.int .i64 a) ∧ w'.cell? ⟨B, 1, none⟩ = some (.int .i64 b) ∧ w'.cell? ⟨B + 1, 0, none⟩ = some (.int .i64 c) ∧ w'.cell? ⟨B + 1, 1, none⟩ = some (.int .i64 d) ∧ w'.cell? ⟨g, 0, none⟩ = some (.int .i64 x) ∧ w'.cell? ⟨g, 1, none⟩ = some (.int .i64 y) ∧ Below W.heap.size W w'
theorem SB.keep {a b c d x y : Int} {B g : Nat} {W w0 w' : World} (hb : Below w0.heap.size w0 w') (h : SB a b c d x y B g W w0) : SB a b c d x y B g W w' :=
  ⟨keepCell hb h.1, keepCell hb h.2.1, keepCell hb h.2.2.1, keepCell hb h.2.2.2.1, keepCell hb h.2.2.2.2.1, keepCell hb h.2.2.2.2.2.1, bchain h.2.2.2.2.2.2 hb h.2.2.2.2.2.2.size⟩
theorem SB.alloc {a b c d x y : Int} {B g : Nat} {W w0 : World} (h : SB a b c d x y B g W w0) (o : Obj) : SB a b c d x y B g W (w0.alloc o) := h.keep (below1 _ _)
theorem SB.drew {a b c d x y : Int} {B g : Nat} {W w0 : World} (h : SB a b c d x y B g W w0) : SB a b c d x y B g W w0.drew := h.keep (Below.refl _ _).drew
theorem SB.size {a b c d x y : Int} {B g : Nat} {W w0 : World} (h : SB a b c d x y B g W w0) : W.heap.size ≤ w0.heap.size := h.2.2.2.2.2.2.size
theorem SB.setCell {a b c d x y : Int} {B g : Nat} {W w0 : World} (h : SB a b c d x y B g W w0) (hW : SB a b c d x y B g W W) {p : Addr} (hp : W.heap.size ≤ p.block) (u : Value) : SB a b c d x y B g W (w0.setCell p u) := by
  have hb : Below W.heap.size W (w0.setCell p u) := h.2.2.2.2.2.2.setCell hp u
  exact hW.keep hb

set_option maxHeartbeats 4000000 in
theorem meetLaw (a b c d : Int) (w : World) (_ : (Lit.int .i64 a).wf = true) (_ : (Lit.int .i64 b).wf = true) (_ : (Lit.int .i64 c).wf = true) (_ : (Lit.int .i64 d).wf = true) :
    Calls Try.prog 6 #[.agg #[.int .i64 a, .int .i64 b], .agg #[.int .i64 c, .int .i64 d]] w fun e w' => e = .returned (.bool true) ∧ Below w.heap.size w w' := by
  obtain ⟨x, y, k, m1, m2⟩ := meet_both a b c d
  have M1 := Lib.hid m1
  have M2 := Lib.hid m2
  clear m1 m2
  go_enter Try.func6, Try.ntmps6
  go_upto_region 1 with fail
  go_cut [5, 6] (fun s5 s6 wx => ∃ g : Nat, s5 = .pointer (some ⟨g, 0, none⟩) ∧ s6 = .bool k ∧ wx.cell? ⟨g, 0, none⟩ = some (.int .i64 x) ∧ wx.cell? ⟨g, 1, none⟩ = some (.int .i64 y) ∧ S4 a b c d w wx)
  case first =>
    go_region_held3 (fun w' => w'.cell? ⟨w.heap.size, 0, none⟩ = some (.int .i64 a) ∧ w'.cell? ⟨w.heap.size, 1, none⟩ = some (.int .i64 b) ∧ w'.cell? ⟨w.heap.size + 1, 0, none⟩ = some (.int .i64 c) ∧ w'.cell? ⟨w.heap.size + 1, 1, none⟩ = some (.int .i64 d) ∧ Below w.heap.size w w')
      (first | (exact S4.drew (S4start _ _ _ _ _ _)) | (exact S4.drew (S4.alloc (S4start _ _ _ _ _ _) _)) | (apply S4.keep; assumption; assumption) | (apply S4.drew; assumption) | (apply S4.alloc; assumption) | (show S4 a b c d w _; refine S4.setCell (S4.setCell ?_ ?_ _) ?_ _; assumption; all_goals (first | omega | (simp; done) | (simp; omega))))
      (first
        | (go_at_call 12; refine (toRange_any _ _ _).mono ?_; rintro e wx ⟨rfl, hbx⟩; obtain ⟨hcx, hfx⟩ := bcell hbx; have hSx := S4.keep hbx (by assumption); have hzx := hSx.size; have htx := below_lt hbx; (first | (have hz2 : w.heap.size + 1 + 1 < wx.heap.size := (by have := hbx.size; simp at this; omega)) | skip))
        | (go_at_call 14; refine (M1.out _).mono ?_; rintro e wx ⟨rfl, hbx⟩; obtain ⟨hcx, hfx⟩ := bcell hbx; have hSx := S4.keep hbx (by assumption); have hzx := hSx.size; have htx := below_lt hbx; (first | (have hz2 : w.heap.size + 1 + 1 < wx.heap.size := (by have := hbx.size; simp at this; omega)) | skip)))
    all_goals
      go_wp2_with fail
      go_meet
      refine ⟨_, rfl, rfl, (by first | (go_simp; done) | (go_simp; exact World.cell?_setCell_same _ _ _ (u := .int .i64 0) (by go_simp)) | (go_simp; refine World.cell?_setCell_same _ _ _ (u := .int .i64 0) ?_; go_simp)), (by first | (go_simp; done) | (go_simp; exact World.cell?_setCell_same _ _ _ (u := .int .i64 0) (by go_simp)) | (go_simp; refine World.cell?_setCell_same _ _ _ (u := .int .i64 0) ?_; go_simp)), ?_⟩
      show (_ : World).cell? ⟨w.heap.size, 0, none⟩ = some (.int .i64 a) ∧ (_ : World).cell? ⟨w.heap.size, 1, none⟩ = some (.int .i64 b) ∧ (_ : World).cell? ⟨w.heap.size + 1, 0, none⟩ = some (.int .i64 c) ∧ (_ : World).cell? ⟨w.heap.size + 1, 1, none⟩ = some (.int .i64 d) ∧ Below w.heap.size w _
      assumption
  case rest =>
    obtain ⟨g, rfl, rfl, hg0, hg1, hS⟩ := hcut
    have H0 : SB a b c d x y w.heap.size g wc wc := ⟨hS.1, hS.2.1, hS.2.2.1, hS.2.2.2.1, hg0, hg1, Below.refl _ _⟩
    have hbw := hS.2.2.2.2
    obtain ⟨q0, q1, q2, q3, _⟩ := hS
    go_upto_region 2 with fail
    go_cut [7, 8] (fun s7 s8 wx => ∃ g2 : Nat, s7 = .pointer (some ⟨g2, 0, none⟩) ∧ s8 = .bool k ∧ wx.cell? ⟨g2, 0, none⟩ = some (.int .i64 x) ∧ wx.cell? ⟨g2, 1, none⟩ = some (.int .i64 y) ∧ SB a b c d x y w.heap.size g wc wx)
    case first =>
      go_region_held3 (fun w' => w'.cell? ⟨w.heap.size, 0, none⟩ = some (.int .i64 a) ∧ w'.cell? ⟨w.heap.size, 1, none⟩ = some (.int .i64 b) ∧ w'.cell? ⟨w.heap.size + 1, 0, none⟩ = some (.int .i64 c) ∧ w'.cell? ⟨w.heap.size + 1, 1, none⟩ = some (.int .i64 d) ∧ w'.cell? ⟨g, 0, none⟩ = some (.int .i64 x) ∧ w'.cell? ⟨g, 1, none⟩ = some (.int .i64 y) ∧ Below wc.heap.size wc w')
        (first | (exact SB.drew H0) | (exact SB.drew (SB.alloc H0 _)) | (apply SB.keep; assumption; assumption) | (apply SB.drew; assumption) | (apply SB.alloc; assumption) | (show SB a b c d x y w.heap.size g wc _; refine SB.setCell (SB.setCell ?_ H0 ?_ _) H0 ?_ _; assumption; all_goals (first | omega | (simp; done) | (simp; omega))))
        (first
          | (go_at_call 12; refine (toRange_any _ _ _).mono ?_; rintro e wx ⟨rfl, hbx⟩; obtain ⟨hcx, hfx⟩ := bcell hbx; have hSx := SB.keep hbx (by assumption); have hzx := hSx.size; have htx := below_lt hbx; (first | (have hz2 : wc.heap.size < wx.heap.size := (by have := hbx.size; simp at this; omega)) | skip))
          | (go_at_call 15; refine (M2.out _).mono ?_; rintro e wx ⟨rfl, hbx⟩; obtain ⟨hcx, hfx⟩ := bcell hbx; have hSx := SB.keep hbx (by assumption); have hzx := hSx.size; have htx := below_lt hbx; (first | (have hz2 : wc.heap.size < wx.heap.size := (by have := hbx.size; simp at this; omega)) | skip)))
      all_goals
        go_wp2_with fail
        go_meet
        refine ⟨_, rfl, rfl, (by first | (go_simp; done) | (go_simp; exact World.cell?_setCell_same _ _ _ (u := .int .i64 0) (by go_simp)) | (go_simp; refine World.cell?_setCell_same _ _ _ (u := .int .i64 0) ?_; go_simp)), (by first | (go_simp; done) | (go_simp; exact World.cell?_setCell_same _ _ _ (u := .int .i64 0) (by go_simp)) | (go_simp; refine World.cell?_setCell_same _ _ _ (u := .int .i64 0) ?_; go_simp)), ?_⟩
        show (_ : World).cell? ⟨w.heap.size, 0, none⟩ = some (.int .i64 a) ∧ (_ : World).cell? ⟨w.heap.size, 1, none⟩ = some (.int .i64 b) ∧ (_ : World).cell? ⟨w.heap.size + 1, 0, none⟩ = some (.int .i64 c) ∧ (_ : World).cell? ⟨w.heap.size + 1, 1, none⟩ = some (.int .i64 d) ∧ (_ : World).cell? ⟨g, 0, none⟩ = some (.int .i64 x) ∧ (_ : World).cell? ⟨g, 1, none⟩ = some (.int .i64 y) ∧ Below wc.heap.size wc _
        assumption
    case rest =>
      obtain ⟨g2, rfl, rfl, hk0, hk1, hS2⟩ := hcut
      have hb2 := bchain hbw hS2.2.2.2.2.2.2 hbw.size
      obtain ⟨_, _, _, _, r4, r5, _⟩ := hS2
      clear H0 q0 q1 q2 q3 hg0 hg1 hbw
      go_wp2_with fail
      go_at_call 16
      refine (eqRange_same _ _ _).mono ?_
      rintro e w9 ⟨rfl, hb9⟩
      have hb3 := bchain hb2 hb9 hb2.size
      clear hk0 hk1 r4 r5 hb2 hb9
      go_wp2_with fail
      go_ret
      exact ⟨rfl, hb3⟩
end Go.Proofs.Ytbockifbboogiab
