/-
  The walk of the model's l03Own: the same tree in memory of its own.
-/
import Derived.Test.YtlmmbheamicdaabTyCpW
import Derived.Deep.Cut
import Derived.Deep.RegionHeld3
import Derived.Deep.RegionLaw
namespace Go.Proofs.Ytlmmbheamicdaab
open Go.ChangeShapes Go.WideShapes Go.ChangeAt Go.RowKit Go.Deep

theorem heapn0 (w : World) (o p : Obj) : ((w.alloc o).alloc p).heap[w.heap.size]? = some o := (heap_alloc_old _ _ (by simp)).trans (heap_alloc_new w _)
theorem heapn1 (w : World) (o p : Obj) : ((w.alloc o).alloc p).heap[w.heap.size + 1]? = some p := by
  have h := heap_alloc_new (w.alloc o) p
  rw [show (w.alloc o).heap.size = w.heap.size + 1 by simp] at h
  exact h
theorem setFour {w : World} {g : Nat} {u0 u1 u2 u3 v0 v1 v2 v3 : Value} (h0 : w.cell? ⟨g, 0, none⟩ = some u0) (h1 : w.cell? ⟨g, 1, none⟩ = some u1) (h2 : w.cell? ⟨g, 2, none⟩ = some u2) (h3 : w.cell? ⟨g, 3, none⟩ = some u3) :
    ((((w.setCell ⟨g, 0, none⟩ v0).setCell ⟨g, 1, none⟩ v1).setCell ⟨g, 2, none⟩ v2).setCell ⟨g, 3, none⟩ v3).cell? ⟨g, 0, none⟩ = some v0 ∧ ((((w.setCell ⟨g, 0, none⟩ v0).setCell ⟨g, 1, none⟩ v1).setCell ⟨g, 2, none⟩ v2).setCell ⟨g, 3, none⟩ v3).cell? ⟨g, 1, none⟩ = some v1 ∧ ((((w.setCell ⟨g, 0, none⟩ v0).setCell ⟨g, 1, none⟩ v1).setCell ⟨g, 2, none⟩ v2).setCell ⟨g, 3, none⟩ v3).cell? ⟨g, 2, none⟩ = some v2 ∧ ((((w.setCell ⟨g, 0, none⟩ v0).setCell ⟨g, 1, none⟩ v1).setCell ⟨g, 2, none⟩ v2).setCell ⟨g, 3, none⟩ v3).cell? ⟨g, 3, none⟩ = some v3 := by
  have kk := sets_in w g [v0, v1, v2, v3] (fun j hj => by
    have h4 : j = 0 ∨ j = 1 ∨ j = 2 ∨ j = 3 := by simp at hj; omega
    rcases h4 with rfl | rfl | rfl | rfl <;> simp [h0, h1, h2, h3])
  exact ⟨kk 0 (by simp), kk 1 (by simp), kk 2 (by simp), kk 3 (by simp)⟩
theorem keptFour (w : World) (g : Nat) (v0 v1 v2 v3 : Value) : KeptBut [g] w ((((w.setCell ⟨g, 0, none⟩ v0).setCell ⟨g, 1, none⟩ v1).setCell ⟨g, 2, none⟩ v2).setCell ⟨g, 3, none⟩ v3) :=
  (((KeptBut.setCell (by simp) _).trans (KeptBut.setCell (by simp) _)).trans (KeptBut.setCell (by simp) _)).trans (KeptBut.setCell (by simp) _)
theorem belowFour {B : Nat} {w0 w : World} {g : Nat} (h : Below B w0 w) (hg : B ≤ g) (v0 v1 v2 v3 : Value) : Below B w0 ((((w.setCell ⟨g, 0, none⟩ v0).setCell ⟨g, 1, none⟩ v1).setCell ⟨g, 2, none⟩ v2).setCell ⟨g, 3, none⟩ v3) :=
  (((h.setCell hg _).setCell hg _).setCell hg _).setCell hg _
theorem farSet {w : World} {p a : Addr} {u v : Value} (hne : a.block ≠ p.block) (h : w.cell? a = some v) : (w.setCell p u).cell? a = some v := (World.cell?_setCell_other _ _ _ _ (fun e => hne (by rw [e]))).trans h
def OwG (T : Ty) (g : Nat) (R1 : Option Addr) (c1 : Nat) (v : Value) (w : World) : Prop := Blk w g ∧ w.cell? ⟨g, 0, none⟩ = some (.int .i64 T.kind) ∧ w.cell? ⟨g, 1, none⟩ = some (.string T.name) ∧ w.cell? ⟨g, 2, none⟩ = some (.slice R1 T.labels.length c1) ∧ w.cell? ⟨g, 3, none⟩ = some v
theorem OwG.keep {T : Ty} {g : Nat} {R1 : Option Addr} {c1 B : Nat} {v : Value} {w w' : World} (h : OwG T g R1 c1 v w) (hb : Below B w w') (hg : g < B) : OwG T g R1 c1 v w' :=
  ⟨h.1.same (hb.block g hg), (hb.cell hg).trans h.2.1, (hb.cell hg).trans h.2.2.1, (hb.cell hg).trans h.2.2.2.1, (hb.cell hg).trans h.2.2.2.2⟩
theorem OwG.set {T : Ty} {g : Nat} {R1 : Option Addr} {c1 : Nat} {v : Value} {w : World} (h : OwG T g R1 c1 v w) (u : Value) : OwG T g R1 c1 u (w.setCell ⟨g, 3, none⟩ u) := by
  obtain ⟨h0, h1, h2, h3, h4⟩ := h
  refine ⟨blk_set h0 _ _, ?_, ?_, ?_, ?_⟩
  · rw [cell_two h1 h4]; rfl
  · rw [cell_two h2 h4]; rfl
  · rw [cell_two h3 h4]; rfl
  · rw [cell_two h4 h4]; rfl
theorem KidsO.set {base : Nat} {ks : List Ty} {j c : Nat} {R : Option Addr} {w : World} (h : KidsO base ks j R c w) {g : Nat} (hg : g < base) (i : Nat) (u : Value) : KidsO base ks j R c (w.setCell ⟨g, i, none⟩ u) := by
  obtain ⟨tvs, bs, p1, p2, p3, p4, p5, p6⟩ := h
  exact ⟨tvs, bs, p1, ownsRow_setCell_below p2 (by exact hg) u, OwnL.keep (KeptBut.setCell (bs := [g]) (by simp) u) (fun b hb => by have := p5 b hb; simp; omega) p3, p4, fun b hb => by have := p5 b hb; simp; omega, p6⟩
def OwMid (T : Ty) (W w' : World) (g : Nat) (R1 : Option Addr) (c1 : Nat) (b1 : List Nat) : Prop := W.heap.size ≤ g ∧ OwG T g R1 c1 (.slice none 0 0) w' ∧ StrsOwn w' T.labels R1 b1 ∧ b1.Nodup ∧ (∀ b ∈ b1, W.heap.size ≤ b ∧ b < w'.heap.size ∧ b ≠ g) ∧ Below W.heap.size W w'
theorem own_mid_new {T : Ty} {W w3 : World} {R : Option Addr} {c : Nat} {bl : List Nat} (hso : StrsOwn w3 T.labels R bl) (hnl : bl.Nodup) (hbl : ∀ b ∈ bl, W.heap.size ≤ b ∧ b < w3.heap.size) (hbw : Below W.heap.size W w3) :
    OwMid T W (w3.alloc (.cells #[.int .i64 T.kind, .string T.name, .slice R T.labels.length c, .slice none 0 0] 30)) w3.heap.size R c bl :=
  ⟨hbw.size, ⟨⟨_, _, heap_alloc_new w3 _⟩, by go_simp, by go_simp, by go_simp, by go_simp⟩, hso.keep (KeptBut.of_below (bs := []) (below1 _ _)) (by simp), hnl, fun b hb => by have := hbl b hb; simp; omega, bchain hbw (below1 _ _) hbw.size⟩
theorem own_mid_set {T : Ty} {W w3 : World} {R : Option Addr} {c g : Nat} {bl : List Nat} {u0 u1 u2 u3 : Value} (hso : StrsOwn w3 T.labels R bl) (hnl : bl.Nodup) (hbl : ∀ b ∈ bl, W.heap.size ≤ b ∧ b < w3.heap.size) (hbw : Below W.heap.size W w3) (hg : W.heap.size ≤ g)
    (z0 : w3.cell? ⟨g, 0, none⟩ = some u0) (z1 : w3.cell? ⟨g, 1, none⟩ = some u1) (z2 : w3.cell? ⟨g, 2, none⟩ = some u2) (z3 : w3.cell? ⟨g, 3, none⟩ = some u3) (hzb : Blk w3 g) (hzn : ∀ b ∈ bl, b ≠ g) :
    OwMid T W ((((w3.setCell ⟨g, 0, none⟩ (.int .i64 T.kind)).setCell ⟨g, 1, none⟩ (.string T.name)).setCell ⟨g, 2, none⟩ (.slice R T.labels.length c)).setCell ⟨g, 3, none⟩ (.slice none 0 0)) g R c bl :=
  have h := setFour (v0 := .int .i64 T.kind) (v1 := .string T.name) (v2 := .slice R T.labels.length c) (v3 := .slice none 0 0) z0 z1 z2 z3
  ⟨hg, ⟨blk_set (blk_set (blk_set (blk_set hzb _ _) _ _) _ _) _ _, h.1, h.2.1, h.2.2.1, h.2.2.2⟩, hso.keep (cs := [g]) (keptFour _ _ _ _ _ _) (fun b hb => by have := hzn b hb; simpa using this), hnl, fun b hb => by have := hbl b hb; have := hzn b hb; simp; omega, belowFour hbw hg _ _ _ _⟩
def OwL (T : Ty) (W wc : World) (g : Nat) (R1 : Option Addr) (c1 j : Nat) (R : Option Addr) (c : Nat) (wr : World) : Prop := OwG T g R1 c1 (.slice R j c) wr ∧ KidsO wc.heap.size T.kids j R c wr ∧ KeptBut [g] wc wr ∧ Below W.heap.size W wr
theorem own_round {T : Ty} {W wc wr w4 : World} {g c1 j j2 c c2 : Nat} {R1 R R2 : Option Addr} (h : OwL T W wc g R1 c1 j R c wr) (hg : g < wc.heap.size) (hgW : W.heap.size ≤ g) (hG : OwG T g R1 c1 (.slice R j c) w4) (hK : KidsO wc.heap.size T.kids j2 R2 c2 w4) (hB : Below wc.heap.size wr w4) :
    OwL T W wc g R1 c1 j2 R2 c2 (w4.setCell ⟨g, 3, none⟩ (.slice R2 j2 c2)) :=
  ⟨hG.set _, hK.set hg _ _, KeptBut.trans ⟨Nat.le_trans h.2.2.1.1 hB.size, fun b hb hn => (hB.block b hb).trans (h.2.2.1.2 b hb hn)⟩ (KeptBut.setCell (by simp) _), (h.2.2.2.trans (hB.mono (by omega))).setCell hgW _⟩
def Ow (T : Ty) : Prop := ∀ (A B : Option Addr) (ca cb lo : Nat) (w : World), Ty.At w lo T A B → Calls Try.prog 46 #[.agg #[.int .i64 T.kind, .string T.name, .slice A T.labels.length ca, .slice B T.kids.length cb]] w (CpPost T w)

set_option maxHeartbeats 8000000 in
set_option maxRecDepth 100000 in
theorem l03Own_any (T : Ty) (hT : T.wt ≤ 1048576) : Ow T := by
  induction T using Ty.kidInd with
  | h T ih =>
    intro A B ca cb lo w hat
    obtain ⟨q1, q2, q3, _, _⟩ := Ty.len_le hT
    have IH : Hid (∀ (i : Nat) (t : Ty), T.kids[i]? = some t → Ow t) := Lib.hid (fun i t ht => ih i t ht (q3 i t ht))
    have HR := Lib.hid hat.rowAt
    have HSS := Lib.hid hat.strs
    obtain ⟨i0, hi, hz0, hz1, hz2⟩ := info_parts infoTypeC
    have k0 : ((w.alloc (.cells #[.int .i64 T.kind, .string T.name, .slice A T.labels.length ca, .slice B T.kids.length cb] 30)).alloc (.cells #[.int .i64 0, .string ⟨#[]⟩, .slice none 0 0, .slice none 0 0] 30)).cell? ⟨w.heap.size, 0, none⟩ = some (.int .i64 T.kind) := by go_simp
    have k1 : ((w.alloc (.cells #[.int .i64 T.kind, .string T.name, .slice A T.labels.length ca, .slice B T.kids.length cb] 30)).alloc (.cells #[.int .i64 0, .string ⟨#[]⟩, .slice none 0 0, .slice none 0 0] 30)).cell? ⟨w.heap.size, 1, none⟩ = some (.string T.name) := by go_simp
    have k2 : ((w.alloc (.cells #[.int .i64 T.kind, .string T.name, .slice A T.labels.length ca, .slice B T.kids.length cb] 30)).alloc (.cells #[.int .i64 0, .string ⟨#[]⟩, .slice none 0 0, .slice none 0 0] 30)).cell? ⟨w.heap.size, 2, none⟩ = some (.slice A T.labels.length ca) := by go_simp
    have k3 : ((w.alloc (.cells #[.int .i64 T.kind, .string T.name, .slice A T.labels.length ca, .slice B T.kids.length cb] 30)).alloc (.cells #[.int .i64 0, .string ⟨#[]⟩, .slice none 0 0, .slice none 0 0] 30)).cell? ⟨w.heap.size, 3, none⟩ = some (.slice B T.kids.length cb) := by go_simp
    have r0 : ((w.alloc (.cells #[.int .i64 T.kind, .string T.name, .slice A T.labels.length ca, .slice B T.kids.length cb] 30)).alloc (.cells #[.int .i64 0, .string ⟨#[]⟩, .slice none 0 0, .slice none 0 0] 30)).cell? ⟨w.heap.size + 1, 0, none⟩ = some (.int .i64 0) := by go_simp
    have r1 : ((w.alloc (.cells #[.int .i64 T.kind, .string T.name, .slice A T.labels.length ca, .slice B T.kids.length cb] 30)).alloc (.cells #[.int .i64 0, .string ⟨#[]⟩, .slice none 0 0, .slice none 0 0] 30)).cell? ⟨w.heap.size + 1, 1, none⟩ = some (.string ⟨#[]⟩) := by go_simp
    have r2 : ((w.alloc (.cells #[.int .i64 T.kind, .string T.name, .slice A T.labels.length ca, .slice B T.kids.length cb] 30)).alloc (.cells #[.int .i64 0, .string ⟨#[]⟩, .slice none 0 0, .slice none 0 0] 30)).cell? ⟨w.heap.size + 1, 2, none⟩ = some (.slice none 0 0) := by go_simp
    have r3 : ((w.alloc (.cells #[.int .i64 T.kind, .string T.name, .slice A T.labels.length ca, .slice B T.kids.length cb] 30)).alloc (.cells #[.int .i64 0, .string ⟨#[]⟩, .slice none 0 0, .slice none 0 0] 30)).cell? ⟨w.heap.size + 1, 3, none⟩ = some (.slice none 0 0) := by go_simp
    have BK := Lib.hid (blk_new0 w #[.int .i64 T.kind, .string T.name, .slice A T.labels.length ca, .slice B T.kids.length cb] #[.int .i64 0, .string ⟨#[]⟩, .slice none 0 0, .slice none 0 0] 30)
    have BR := Lib.hid (blk_new1 w #[.int .i64 T.kind, .string T.name, .slice A T.labels.length ca, .slice B T.kids.length cb] #[.int .i64 0, .string ⟨#[]⟩, .slice none 0 0, .slice none 0 0] 30)
    have HW := Lib.hid (below2 w (.cells #[.int .i64 T.kind, .string T.name, .slice A T.labels.length ca, .slice B T.kids.length cb] 30) (.cells #[.int .i64 0, .string ⟨#[]⟩, .slice none 0 0, .slice none 0 0] 30))
    have hzW : ((w.alloc (.cells #[.int .i64 T.kind, .string T.name, .slice A T.labels.length ca, .slice B T.kids.length cb] 30)).alloc (.cells #[.int .i64 0, .string ⟨#[]⟩, .slice none 0 0, .slice none 0 0] 30)).heap.size = w.heap.size + 2 := by simp
    clear ih hat q3 hT
    go_enter Try.func46, Try.ntmps46
    go_wp2_with fail
    generalize ((w.alloc (.cells #[.int .i64 T.kind, .string T.name, .slice A T.labels.length ca, .slice B T.kids.length cb] 30)).alloc (.cells #[.int .i64 0, .string ⟨#[]⟩, .slice none 0 0, .slice none 0 0] 30)) = W at *
    have HSW := Lib.hid (HSS.out.below HW.out)
    have K : W.cell? ⟨w.heap.size, 0, none⟩ = some (.int .i64 T.kind) ∧ W.cell? ⟨w.heap.size, 1, none⟩ = some (.string T.name) ∧ W.cell? ⟨w.heap.size, 2, none⟩ = some (.slice A T.labels.length ca) := ⟨k0, k1, k2⟩
    have A1 : Hid (∀ ty, ∃ v' w', (Builtin.append_ #[22, 22] ty #[.slice (some ⟨W.heap.size, 0, none⟩) 0 0, .slice A T.labels.length ca]).run Try.prog ((W.alloc (.cells #[] 9)).drew) = .ok v' w' ∧ ∃ (R : Option Addr) (c : Nat) (bs : List Nat), v' = .slice R T.labels.length c ∧ StrsOwn w' T.labels R bs ∧ bs.Nodup ∧ (∀ b ∈ bs, W.heap.size ≤ b ∧ b < w'.heap.size) ∧ Below W.heap.size W w' ∧ w'.cell? ⟨w.heap.size, 0, none⟩ = some (.int .i64 T.kind) ∧ w'.cell? ⟨w.heap.size, 1, none⟩ = some (.string T.name) ∧ w'.cell? ⟨w.heap.size, 2, none⟩ = some (.slice A T.labels.length ca)) := Lib.hid (fun ty => by
      have hbx : Below W.heap.size W ((W.alloc (.cells #[] 9)).drew) := (below1 W _).drew
      have hown : ((W.alloc (.cells #[] 9)).drew).ownsRow W.heap.size 9 1 (.slice (some ⟨W.heap.size, 0, none⟩) 0 0) 0 [] := by
        refine ⟨rfl, Or.inr ⟨W.heap.size, 0, #[], rfl, by first | exact Nat.le_refl _ | exact Nat.le_add_right _ _, ?_, Nat.le_refl _, by unfold maxLen; omega, rfl, rfl⟩⟩
        exact heap_alloc_new W _
      obtain ⟨R, c, w', bs, h1, h2, h3, h4, h5⟩ := appStrs T.labels q1 A ca lo W.heap.size ty ((W.alloc (.cells #[] 9)).drew) (HSW.out.below hbx) _ 0 hown hbx.size
      have hbw : Below W.heap.size W w' := hbx.grown h5 hbx.size (own_block_ge hown)
      exact ⟨_, w', h1, R, c, bs, rfl, h2, h3, h4, hbw, keepCell hbw K.1, keepCell hbw K.2.1, keepCell hbw K.2.2⟩)
    have A2 : Hid (∀ ty, ∃ v' w', (Builtin.append_ #[22, 22] ty #[.slice (some ⟨W.heap.size, 0, none⟩) 0 0, .slice A T.labels.length ca]).run Try.prog (((W.alloc (.cells #[] 9)).alloc (.cells #[.int .i64 0, .string ⟨#[]⟩, .slice none 0 0, .slice none 0 0] 30)).drew) = .ok v' w' ∧ ∃ (R : Option Addr) (c : Nat) (bs : List Nat), v' = .slice R T.labels.length c ∧ StrsOwn w' T.labels R bs ∧ bs.Nodup ∧ (∀ b ∈ bs, W.heap.size ≤ b ∧ b < w'.heap.size) ∧ Below W.heap.size W w' ∧ w'.cell? ⟨w.heap.size, 0, none⟩ = some (.int .i64 T.kind) ∧ w'.cell? ⟨w.heap.size, 1, none⟩ = some (.string T.name) ∧ w'.cell? ⟨w.heap.size, 2, none⟩ = some (.slice A T.labels.length ca) ∧ w'.cell? ⟨W.heap.size + 1, 0, none⟩ = some (.int .i64 0) ∧ w'.cell? ⟨W.heap.size + 1, 1, none⟩ = some (.string ⟨#[]⟩) ∧ w'.cell? ⟨W.heap.size + 1, 2, none⟩ = some (.slice none 0 0) ∧ w'.cell? ⟨W.heap.size + 1, 3, none⟩ = some (.slice none 0 0) ∧ Blk w' (W.heap.size + 1) ∧ (∀ b ∈ bs, b ≠ W.heap.size + 1)) := Lib.hid (fun ty => by
      have hbx : Below W.heap.size W (((W.alloc (.cells #[] 9)).alloc (.cells #[.int .i64 0, .string ⟨#[]⟩, .slice none 0 0, .slice none 0 0] 30)).drew) := (below2 W _ _).drew
      have hown : (((W.alloc (.cells #[] 9)).alloc (.cells #[.int .i64 0, .string ⟨#[]⟩, .slice none 0 0, .slice none 0 0] 30)).drew).ownsRow W.heap.size 9 1 (.slice (some ⟨W.heap.size, 0, none⟩) 0 0) 0 [] := by
        refine ⟨rfl, Or.inr ⟨W.heap.size, 0, #[], rfl, by first | exact Nat.le_refl _ | exact Nat.le_add_right _ _, ?_, Nat.le_refl _, by unfold maxLen; omega, rfl, rfl⟩⟩
        exact heapn0 W _ _
      obtain ⟨R, c, w', bs, h1, h2, h3, h4, h5⟩ := appStrs T.labels q1 A ca lo W.heap.size ty (((W.alloc (.cells #[] 9)).alloc (.cells #[.int .i64 0, .string ⟨#[]⟩, .slice none 0 0, .slice none 0 0] 30)).drew) (HSW.out.below hbx) _ 0 hown hbx.size
      have hbw : Below W.heap.size W w' := hbx.grown h5 hbx.size (own_block_ge hown)
      have hne : ∀ k, (Value.slice (some ⟨W.heap.size, 0, none⟩) 0 0).ownBlock = some k → k = W.heap.size := fun k hk => by simpa [Value.ownBlock] using hk.symm
      have hz : ∀ j u, (((W.alloc (.cells #[] 9)).alloc (.cells #[.int .i64 0, .string ⟨#[]⟩, .slice none 0 0, .slice none 0 0] 30)).drew).cell? ⟨W.heap.size + 1, j, none⟩ = some u → w'.cell? ⟨W.heap.size + 1, j, none⟩ = some u := fun j u hu => h5.cell hu (fun e => by
        have h9 := hne _ e.symm
        dsimp only at h9
        omega)
      have hg : w'.heap[W.heap.size + 1]? = (((W.alloc (.cells #[] 9)).alloc (.cells #[.int .i64 0, .string ⟨#[]⟩, .slice none 0 0, .slice none 0 0] 30)).drew).heap[W.heap.size + 1]? := h5.block _ (by first | (simp; done) | (simp; omega)) (fun e => by
        have h9 := hne _ e.symm
        omega)
      have z0 := hz 0 (.int .i64 0) (by go_simp)
      have z1 := hz 1 (.string ⟨#[]⟩) (by go_simp)
      have z2 := hz 2 (.slice none 0 0) (by go_simp)
      have z3 := hz 3 (.slice none 0 0) (by go_simp)
      have hblk : Blk w' (W.heap.size + 1) := Blk.same (w := ((W.alloc (.cells #[] 9)).alloc (.cells #[.int .i64 0, .string ⟨#[]⟩, .slice none 0 0, .slice none 0 0] 30)).drew) ⟨_, _, heapn1 W _ _⟩ hg
      by_cases hp : T.labels = []
      · exact ⟨_, w', h1, R, c, [], rfl, Or.inl ⟨hp, rfl⟩, List.nodup_nil, by simp, hbw, keepCell hbw K.1, keepCell hbw K.2.1, keepCell hbw K.2.2, z0, z1, z2, z3, hblk, by simp⟩
      · exact ⟨_, w', h1, R, c, bs, rfl, h2, h3, h4, hbw, keepCell hbw K.1, keepCell hbw K.2.1, keepCell hbw K.2.2, z0, z1, z2, z3, hblk, fun b hb e => by
          rcases h2 with ⟨h2, _⟩ | ⟨g, _, h2, _, h2c⟩
          · exact hp h2
          · rw [h2] at hb
            obtain rfl : b = g := by simpa using hb
            subst e
            have h9 := h2c 0 _ (List.getElem?_eq_getElem (List.length_pos_iff.2 hp))
            rw [z0] at h9
            cases h9⟩)
    have A3 : Hid (∀ ty, ∃ v' w', (Builtin.append_ #[22, 22] ty #[.slice (some ⟨W.heap.size + 1, 0, none⟩) 0 0, .slice A T.labels.length ca]).run Try.prog (((W.alloc (.cells #[.int .i64 0, .string ⟨#[]⟩, .slice none 0 0, .slice none 0 0] 30)).alloc (.cells #[] 9)).drew) = .ok v' w' ∧ ∃ (R : Option Addr) (c : Nat) (bs : List Nat), v' = .slice R T.labels.length c ∧ StrsOwn w' T.labels R bs ∧ bs.Nodup ∧ (∀ b ∈ bs, W.heap.size ≤ b ∧ b < w'.heap.size) ∧ Below W.heap.size W w' ∧ w'.cell? ⟨w.heap.size, 0, none⟩ = some (.int .i64 T.kind) ∧ w'.cell? ⟨w.heap.size, 1, none⟩ = some (.string T.name) ∧ w'.cell? ⟨w.heap.size, 2, none⟩ = some (.slice A T.labels.length ca) ∧ w'.cell? ⟨W.heap.size, 0, none⟩ = some (.int .i64 0) ∧ w'.cell? ⟨W.heap.size, 1, none⟩ = some (.string ⟨#[]⟩) ∧ w'.cell? ⟨W.heap.size, 2, none⟩ = some (.slice none 0 0) ∧ w'.cell? ⟨W.heap.size, 3, none⟩ = some (.slice none 0 0) ∧ Blk w' (W.heap.size) ∧ (∀ b ∈ bs, b ≠ W.heap.size)) := Lib.hid (fun ty => by
      have hbx : Below W.heap.size W (((W.alloc (.cells #[.int .i64 0, .string ⟨#[]⟩, .slice none 0 0, .slice none 0 0] 30)).alloc (.cells #[] 9)).drew) := (below2 W _ _).drew
      have hown : (((W.alloc (.cells #[.int .i64 0, .string ⟨#[]⟩, .slice none 0 0, .slice none 0 0] 30)).alloc (.cells #[] 9)).drew).ownsRow W.heap.size 9 1 (.slice (some ⟨W.heap.size + 1, 0, none⟩) 0 0) 0 [] := by
        refine ⟨rfl, Or.inr ⟨W.heap.size + 1, 0, #[], rfl, by first | exact Nat.le_refl _ | exact Nat.le_add_right _ _, ?_, Nat.le_refl _, by unfold maxLen; omega, rfl, rfl⟩⟩
        exact heapn1 W _ _
      obtain ⟨R, c, w', bs, h1, h2, h3, h4, h5⟩ := appStrs T.labels q1 A ca lo W.heap.size ty (((W.alloc (.cells #[.int .i64 0, .string ⟨#[]⟩, .slice none 0 0, .slice none 0 0] 30)).alloc (.cells #[] 9)).drew) (HSW.out.below hbx) _ 0 hown hbx.size
      have hbw : Below W.heap.size W w' := hbx.grown h5 hbx.size (own_block_ge hown)
      have hne : ∀ k, (Value.slice (some ⟨W.heap.size + 1, 0, none⟩) 0 0).ownBlock = some k → k = W.heap.size + 1 := fun k hk => by simpa [Value.ownBlock] using hk.symm
      have hz : ∀ j u, (((W.alloc (.cells #[.int .i64 0, .string ⟨#[]⟩, .slice none 0 0, .slice none 0 0] 30)).alloc (.cells #[] 9)).drew).cell? ⟨W.heap.size, j, none⟩ = some u → w'.cell? ⟨W.heap.size, j, none⟩ = some u := fun j u hu => h5.cell hu (fun e => by
        have h9 := hne _ e.symm
        dsimp only at h9
        omega)
      have hg : w'.heap[W.heap.size]? = (((W.alloc (.cells #[.int .i64 0, .string ⟨#[]⟩, .slice none 0 0, .slice none 0 0] 30)).alloc (.cells #[] 9)).drew).heap[W.heap.size]? := h5.block _ (by first | (simp; done) | (simp; omega)) (fun e => by
        have h9 := hne _ e.symm
        omega)
      have z0 := hz 0 (.int .i64 0) (by go_simp)
      have z1 := hz 1 (.string ⟨#[]⟩) (by go_simp)
      have z2 := hz 2 (.slice none 0 0) (by go_simp)
      have z3 := hz 3 (.slice none 0 0) (by go_simp)
      have hblk : Blk w' (W.heap.size) := Blk.same (w := ((W.alloc (.cells #[.int .i64 0, .string ⟨#[]⟩, .slice none 0 0, .slice none 0 0] 30)).alloc (.cells #[] 9)).drew) ⟨_, _, heapn0 W _ _⟩ hg
      by_cases hp : T.labels = []
      · exact ⟨_, w', h1, R, c, [], rfl, Or.inl ⟨hp, rfl⟩, List.nodup_nil, by simp, hbw, keepCell hbw K.1, keepCell hbw K.2.1, keepCell hbw K.2.2, z0, z1, z2, z3, hblk, by simp⟩
      · exact ⟨_, w', h1, R, c, bs, rfl, h2, h3, h4, hbw, keepCell hbw K.1, keepCell hbw K.2.1, keepCell hbw K.2.2, z0, z1, z2, z3, hblk, fun b hb e => by
          rcases h2 with ⟨h2, _⟩ | ⟨g, _, h2, _, h2c⟩
          · exact hp h2
          · rw [h2] at hb
            obtain rfl : b = g := by simpa using hb
            subst e
            have h9 := h2c 0 _ (List.getElem?_eq_getElem (List.length_pos_iff.2 hp))
            rw [z0] at h9
            cases h9⟩)

    go_cut [3] from 5 (fun op w' => ∃ (g : Nat) (R1 : Option Addr) (c1 : Nat) (b1 : List Nat), op = .pointer (some ⟨g, 0, none⟩) ∧ OwMid T W w' g R1 c1 b1)
    case first =>
      have hlw : w.heap.size < W.heap.size := by omega
      have HZW := Lib.hid hzW
      clear hzW
      go_region_held3 (fun w' => w'.cell? ⟨w.heap.size, 0, none⟩ = some (.int .i64 T.kind) ∧ w'.cell? ⟨w.heap.size, 1, none⟩ = some (.string T.name) ∧ w'.cell? ⟨w.heap.size, 2, none⟩ = some (.slice A T.labels.length ca))
        (first | (with_reducible assumption) | (with_reducible exact ⟨k0, k1, k2⟩) | (with_reducible exact ⟨keepCell (Below.refl _ _).drew k0, keepCell (Below.refl _ _).drew k1, keepCell (Below.refl _ _).drew k2⟩) | (with_reducible exact ⟨keepCell (below1 W _).drew k0, keepCell (below1 W _).drew k1, keepCell (below1 W _).drew k2⟩) | (with_reducible exact ⟨keepCell (below2 W _ _).drew k0, keepCell (below2 W _ _).drew k1, keepCell (below2 W _ _).drew k2⟩) | (with_reducible exact ⟨p0, p1, p2⟩) | (with_reducible exact ⟨keepCell (below1 _ _) p0, keepCell (below1 _ _) p1, keepCell (below1 _ _) p2⟩) | (refine ⟨?_, ?_, ?_⟩ <;> first | (with_reducible assumption) | (with_reducible exact farSet (by first | (dsimp only; omega) | (simp; omega)) (farSet (by first | (dsimp only; omega) | (simp; omega)) (farSet (by first | (dsimp only; omega) | (simp; omega)) (farSet (by first | (dsimp only; omega) | (simp; omega)) (by with_reducible assumption))))) | fail))
        (first
          | (with_reducible refine step_append_at ((W.alloc (.cells #[] 9)).drew) rfl (by with_unfolding_all rfl) _ _ _ (by with_unfolding_all rfl) _ _ (by with_unfolding_all rfl) (by with_unfolding_all rfl) A1.out ?_; rintro _ w3 ⟨R, c, bl, rfl, hso, hnl, hbl, hbw, p0, p1, p2⟩; have hs3 := hbw.size)
          | (with_reducible refine step_append_at (((W.alloc (.cells #[] 9)).alloc (.cells #[.int .i64 0, .string ⟨#[]⟩, .slice none 0 0, .slice none 0 0] 30)).drew) rfl (by with_unfolding_all rfl) _ _ _ (by with_unfolding_all rfl) _ _ (by with_unfolding_all rfl) (by with_unfolding_all rfl) A2.out ?_; rintro _ w3 ⟨R, c, bl, rfl, hso, hnl, hbl, hbw, p0, p1, p2, z0, z1, z2, z3, hzb, hzn⟩; have hs3 := hbw.size; have hzf := fun o => hzb.free o)
          | (with_reducible refine step_append_at (((W.alloc (.cells #[.int .i64 0, .string ⟨#[]⟩, .slice none 0 0, .slice none 0 0] 30)).alloc (.cells #[] 9)).drew) rfl (by with_unfolding_all rfl) _ _ _ (by with_unfolding_all rfl) _ _ (by with_unfolding_all rfl) (by with_unfolding_all rfl) A3.out ?_; rintro _ w3 ⟨R, c, bl, rfl, hso, hnl, hbl, hbw, p0, p1, p2, z0, z1, z2, z3, hzb, hzn⟩; have hs3 := hbw.size; have hzf := fun o => hzb.free o))
      all_goals go_wp2_with fail
      all_goals go_meet
      all_goals refine ⟨_, R, c, bl, rfl, ?_⟩
      all_goals clear A1 A2 A3
      all_goals first
        | with_reducible exact own_mid_new hso hnl hbl hbw
        | with_reducible exact own_mid_set hso hnl hbl hbw (Nat.le_add_right _ _) z0 z1 z2 z3 hzb hzn
        | with_reducible exact own_mid_set hso hnl hbl hbw (Nat.le_refl _) z0 z1 z2 z3 hzb hzn
    case rest =>
      obtain ⟨g, R1, c1, b1, rfl, hgW, hG0, hso, hnd, hbl, hbw⟩ := hcut
      clear A1 A2 A3 K k0 k1 k2 HSW HSS
      have HSO := Lib.hid hso
      have HND := Lib.hid hnd
      have HBL := Lib.hid hbl
      have HBC := Lib.hid hbw
      have HG0 := Lib.hid hG0
      have hgc : g < wc.heap.size := hG0.1.lt
      have hzc := hbw.size
      clear hso hnd hbl hbw hG0
      go_wp2_with fail
      go_loopw [4] (fun i wr => ∃ j : Nat, j ≤ T.kids.length ∧ i = .int .i64 j ∧ ∃ (R : Option Addr) (c : Nat), Hid (OwL T W wc g R1 c1 j R c wr)) (fun i _ => T.kids.length - (intOf i).toNat)
      case atStart => exact ⟨0, Nat.zero_le _, rfl, none, 0, HG0.out, KidsO.start _ _ _, KeptBut.refl _ _, HBC.out⟩
      case round =>
        obtain ⟨j, hj, rfl, R, c, HL⟩ := hrel
        have HB := Lib.hid HL.out.2.2.2
        have kb := keepCell HB.out k3
        by_cases hlt : j < T.kids.length
        · obtain ⟨b, o, t, A', B', ca', cb', rfl, _, htk, hc⟩ := HR.out.at_ hlt
          have HBw := Lib.hid (bnext HW.out HB.out)
          have C := Lib.hid (IH.out j t htk A' B' ca' cb' lo)
          have HTR := Lib.hid (hc.tree.below HBw.out)
          have HT := Lib.hid htk
          have hlj : (j : Int) < (T.kids.length : Int) := by omega
          obtain ⟨d0, d1, d2, d3, _⟩ := hc
          have hbg : b ≠ g := by
            have := World.block_lt_of_cell? w _ d0
            dsimp only at this
            omega
          have hbc : b < wc.heap.size := by
            have := World.block_lt_of_cell? w _ d0
            dsimp only at this
            omega
          have e0 := keepCell HBw.out d0
          have e1 := keepCell HBw.out d1
          have e2 := keepCell HBw.out d2
          have e3 := keepCell HBw.out d3
          have hwg : w.heap.size ≠ g := by omega
          have g3 := HL.out.1.2.2.2.2
          obtain ⟨tvs, bsr, p1, p2, p3, p4, p5, p6⟩ := HL.out.2.1
          have P2 := Lib.hid p2
          have hzr : wc.heap.size ≤ wr.heap.size := HL.out.2.2.1.1
          clear htk p1 p2 p3 p4 p5 p6 d0 d1 d2 d3
          go_wp2_with fail
          go_region_law
            (first
              | (refine step_append_lies _ (by rfl) _ _ _ (by rfl) wc.heap.size 30 i0 _ 4 72 Try.underlying27 hi hz0 hz1 hz2 rfl (by decide) (.slice R j c) j (tvs.flatMap TV.cells) (by rfl) (P3.out.alloc _) ⟨w2.heap.size, 0, none⟩ 1 1 [.int .i64 t.kind, .string t.name, .slice A2 t.labels.length ca2, .slice B2 t.kids.length cb2] (by rfl) (by rfl) (cell_row4 _ _ _ _ _ _) (by simp [Value.oneCell']) (by omega) (by unfold maxLen; omega) (by omega) (by simp; omega) _ rfl ?_; intro g4 cap w4 hown4 hgrow4 hat4 hlt4; have HK4 : Hid (KidsO wc.heap.size T.kids (j + 1) (some ⟨g4, 0, none⟩) cap w4) := Lib.hid (KidsO.step HL.out.2.1 HT.out HO2.out HN2.out HBS2.out HB2.out (by omega) (below1 _ _) hgrow4 hat4 (fun xs hxs => by rw [ownsRow_uniq hxs (P3.out.alloc _)]; exact hown4)); have hB4 : Below wc.heap.size wr w4 := (bnext HB2.out (below1 _ _)).mono hzr |>.grown hgrow4 (by simp; omega) (own_block_ge P3.out); have xb := (hB4.cell (p := ⟨w.heap.size, 3, none⟩) (by dsimp only; omega)).trans kb; have x0 := (hB4.cell (by dsimp only; omega)).trans e0; have x1 := (hB4.cell (by dsimp only; omega)).trans e1; have x2 := (hB4.cell (by dsimp only; omega)).trans e2; have x3 := (hB4.cell (by dsimp only; omega)).trans e3; have xG := Lib.hid (HL.out.1.keep hB4 hgc); have xg := xG.out.2.2.2.2; have xf := fun o => xG.out.1.free o; have HB4 := Lib.hid hB4; clear hown4 hgrow4 hat4 hlt4 hB4)
              | (go_simp; go_at_call 46; (with_reducible refine (C.out _ (HTR.out.below (Below.refl _ _).drew)).mono ?_); rintro e w2 ⟨A2, B2, ca2, cb2, bs2, rfl, ho2, hn2, hb2, hbb2⟩; have HO2 := Lib.hid ho2; have HN2 := Lib.hid hn2; have HBS2 : Hid (∀ b ∈ bs2, wr.heap.size ≤ b ∧ b < w2.heap.size) := Lib.hid hb2; have HB2 : Hid (Below wr.heap.size wr w2) := Lib.hid ((Below.refl _ _).drew.trans hbb2); have hzw := HB2.out.size; have P3 := Lib.hid (ownsRow_below P2.out HB2.out); have yb := keepCell HB2.out kb; have y0 := keepCell HB2.out e0; have y1 := keepCell HB2.out e1; have y2 := keepCell HB2.out e2; have y3 := keepCell HB2.out e3; have yg := keepCell HB2.out g3; have yg1 := fun o => keepCell (below1 w2 o) yg; clear ho2 hn2 hb2 hbb2))
          all_goals go_wp2_with fail
          all_goals go_roundw
          all_goals first
            | exact ⟨j + 1, Nat.succ_le_of_lt hlt, by go_num, some ⟨g4, 0, none⟩, cap, Lib.hid (own_round HL.out hgc hgW xG.out HK4.out HB4.out)⟩
            | (simp [intOf]; omega)
        · have hj' : j = T.kids.length := by omega
          subst hj'
          have hlj : ¬ (T.kids.length : Int) < (T.kids.length : Int) := by omega
          obtain ⟨bs2, hro, hnd2, hbs2⟩ := HL.out.2.1.done
          obtain ⟨_, g0, g1, g2, g3⟩ := HL.out.1
          have q0 := keepCell HB.out r0
          have q1' := keepCell HB.out r1
          have q2' := keepCell HB.out r2
          have q3 := keepCell HB.out r3
          have brr := (BR.out.below HB.out).free
          have f1 := fun o => brr o
          have HRO := Lib.hid hro
          have HN2 := Lib.hid hnd2
          have HBS2 := Lib.hid hbs2
          have HSO2 := Lib.hid (HSO.out.keep HL.out.2.2.1 (fun b hb => by have := HBL.out b hb; simp; omega))
          have HWR := Lib.hid (bnext HW.out HB.out)
          have hzr : wc.heap.size ≤ wr.heap.size := HL.out.2.2.1.1
          clear hro hnd2 hbs2
          go_wp2_with fail
          have kk := setFour (w := wr) (v0 := .int .i64 T.kind) (v1 := .string T.name) (v2 := .slice R1 T.labels.length c1) (v3 := .slice R T.kids.length c) q0 q1' q2' q3
          have s0 := kk.1
          have s1 := kk.2.1
          have s2 := kk.2.2.1
          have s3 := kk.2.2.2
          clear kk
          refine bodyPost_ret (v := .agg #[.int .i64 T.kind, .string T.name, .slice R1 T.labels.length c1, .slice R T.kids.length c]) (by simp [results, Try.results46, go_sem, s0, s1, s2, s3]) rfl ?_
          refine ⟨R1, R, c1, c, b1 ++ bs2, rfl, kids_end (x := w.heap.size + 1) (y := w.heap.size + 1) HSO2.out HRO.out ?_ ?_, ?_, ?_, ?_⟩
          · exact (keptFour wr (w.heap.size + 1) _ _ _ _).mono (fun b hb => by simpa using hb)
          · intro b hb
            rcases List.mem_append.1 hb with hb | hb
            · have := HBL.out b hb
              omega
            · have := HBS2.out b hb
              omega
          · rw [List.nodup_append]
            exact ⟨HND.out, HN2.out, fun x hx y hy e => by
              have h1 := HBL.out x hx
              have h2 := HBS2.out y hy
              omega⟩
          · intro b hb
            simp
            rcases List.mem_append.1 hb with hb | hb
            · have := HBL.out b hb
              omega
            · have := HBS2.out b hb
              omega
          · exact belowFour HWR.out (Nat.le_succ _) _ _ _ _
end Go.Proofs.Ytlmmbheamicdaab
