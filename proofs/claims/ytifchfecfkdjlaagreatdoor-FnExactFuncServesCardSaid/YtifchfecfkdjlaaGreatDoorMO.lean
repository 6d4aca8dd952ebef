/-
  WhyM, WhyF, WhyV, WhyE, WhyR, WhyX: in one text.
-/
import Derived.Test.YtifchfecfkdjlaaGreatDoorML
import Derived.Test.YtifchfecfkdjlaaGreatDoorMN
namespace Go.Proofs.YtifchfecfkdjlaaGreatDoor
open Go.ChangeShapes Go.WideShapes Go.ChangeAt Go.RowKit Go.Deep

set_option maxRecDepth 100000 in
theorem elements_any (n : Nat) (hn : n ≤ 3) (IH : TyR n) (a b : Ty) (ga : Gd (n + 1) a) (gb : Gd (n + 1) b) (hka : a.kind = 12) (hkb : b.kind = 12) (A B A' B' : Option Addr) (ca cb ca' cb' : Nat) (w : World) (hat : Ty.Pl w 0 a A B) (hbt : Ty.Pl w 0 b A' B') (ht : RTable w) :
    Calls Tryz.prog 69 #[.agg #[.int .i64 a.kind, .string a.name, .slice A a.labels.length ca, .slice B a.kids.length cb, .int .i64 b.kind, .string b.name, .slice A' b.labels.length ca', .slice B' b.kids.length cb']] w (RsnPost (kidR (Ty.why n) a.kids b.kids 0 0 sList) w) := by
  have la := ga.shape.one (by omega)
  have lb := gb.shape.one (by omega)
  obtain ⟨x, hx⟩ : ∃ x, a.kids[0]? = some x := ⟨_, List.getElem?_eq_getElem (by omega)⟩
  obtain ⟨y, hy⟩ : ∃ y, b.kids[0]? = some y := ⟨_, List.getElem?_eq_getElem (by omega)⟩
  rw [kidR_eq hx hy]
  have CK := Lib.hid (fun W h1 h2 h3 => kid_any n (by omega) IH a b x y 0 0 hx hy (ga.kid hx) (gb.kid hy) (by omega) sList (by decide) A B A' B' ca cb ca' cb' W h1 h2 h3)
  have HA := Lib.hid hat
  have HB := Lib.hid hbt
  have HT := Lib.hid ht
  generalize preR sList (Ty.why n x y) = R at *
  clear IH ga gb hat hbt ht la lb hx hy hn hka hkb
  go_enter Tryz.func69, Tryz.ntmps69
  go_wp2_with fail
  go_at_call 87
  refine (CK.out _ (HA.out.keep (Kp.below (below2 _ _ _)).1) (HB.out.keep (Kp.below (below2 _ _ _)).1) (HT.out.keep (below2 _ _ _))).mono ?_
  rintro e w2 ⟨rfl, hb2⟩
  obtain ⟨hc2, hf2⟩ := bcell hb2
  have hz2 : w.heap.size + 1 < w2.heap.size := by have h9 := hb2.size; simp at h9; omega
  have HB2 := Lib.hid (bnext (below2 _ _ _) hb2)
  clear hb2
  go_wp2_with fail
  exact bodyPost_ret (v := .agg #[.int .i64 (rk R), .string (ra R)]) (by simp [results, Tryz.results69, go_sem, hc2]) rfl ⟨rfl, by (first | (with_reducible exact HB2.out) | ((with_reducible refine Below.setCell (HB2.out) ?_ _) <;> (first | exact Nat.le_refl _ | exact Nat.le_add_right _ _ | (dsimp only; omega) | (simp; omega))) | ((with_reducible refine Below.setCell (Below.setCell (HB2.out) ?_ _) ?_ _) <;> (first | exact Nat.le_refl _ | exact Nat.le_add_right _ _ | (dsimp only; omega) | (simp; omega))) | ((with_reducible refine Below.setCell (Below.setCell (Below.setCell (HB2.out) ?_ _) ?_ _) ?_ _) <;> (first | exact Nat.le_refl _ | exact Nat.le_add_right _ _ | (dsimp only; omega) | (simp; omega))))⟩

set_option maxRecDepth 100000 in
theorem options_any (n : Nat) (hn : n ≤ 3) (IH : TyR n) (a b : Ty) (ga : Gd (n + 1) a) (gb : Gd (n + 1) b) (hka : a.kind = 13) (hkb : b.kind = 13) (A B A' B' : Option Addr) (ca cb ca' cb' : Nat) (w : World) (hat : Ty.Pl w 0 a A B) (hbt : Ty.Pl w 0 b A' B') (ht : RTable w) :
    Calls Tryz.prog 70 #[.agg #[.int .i64 a.kind, .string a.name, .slice A a.labels.length ca, .slice B a.kids.length cb, .int .i64 b.kind, .string b.name, .slice A' b.labels.length ca', .slice B' b.kids.length cb']] w (RsnPost (kidR (Ty.why n) a.kids b.kids 0 0 sOpt) w) := by
  have la := ga.shape.one (by omega)
  have lb := gb.shape.one (by omega)
  obtain ⟨x, hx⟩ : ∃ x, a.kids[0]? = some x := ⟨_, List.getElem?_eq_getElem (by omega)⟩
  obtain ⟨y, hy⟩ : ∃ y, b.kids[0]? = some y := ⟨_, List.getElem?_eq_getElem (by omega)⟩
  rw [kidR_eq hx hy]
  have CK := Lib.hid (fun W h1 h2 h3 => kid_any n (by omega) IH a b x y 0 0 hx hy (ga.kid hx) (gb.kid hy) (by omega) sOpt (by decide) A B A' B' ca cb ca' cb' W h1 h2 h3)
  have HA := Lib.hid hat
  have HB := Lib.hid hbt
  have HT := Lib.hid ht
  generalize preR sOpt (Ty.why n x y) = R at *
  clear IH ga gb hat hbt ht la lb hx hy hn hka hkb
  go_enter Tryz.func70, Tryz.ntmps70
  go_wp2_with fail
  go_at_call 87
  refine (CK.out _ (HA.out.keep (Kp.below (below2 _ _ _)).1) (HB.out.keep (Kp.below (below2 _ _ _)).1) (HT.out.keep (below2 _ _ _))).mono ?_
  rintro e w2 ⟨rfl, hb2⟩
  obtain ⟨hc2, hf2⟩ := bcell hb2
  have hz2 : w.heap.size + 1 < w2.heap.size := by have h9 := hb2.size; simp at h9; omega
  have HB2 := Lib.hid (bnext (below2 _ _ _) hb2)
  clear hb2
  go_wp2_with fail
  exact bodyPost_ret (v := .agg #[.int .i64 (rk R), .string (ra R)]) (by simp [results, Tryz.results70, go_sem, hc2]) rfl ⟨rfl, by (first | (with_reducible exact HB2.out) | ((with_reducible refine Below.setCell (HB2.out) ?_ _) <;> (first | exact Nat.le_refl _ | exact Nat.le_add_right _ _ | (dsimp only; omega) | (simp; omega))) | ((with_reducible refine Below.setCell (Below.setCell (HB2.out) ?_ _) ?_ _) <;> (first | exact Nat.le_refl _ | exact Nat.le_add_right _ _ | (dsimp only; omega) | (simp; omega))) | ((with_reducible refine Below.setCell (Below.setCell (Below.setCell (HB2.out) ?_ _) ?_ _) ?_ _) <;> (first | exact Nat.le_refl _ | exact Nat.le_add_right _ _ | (dsimp only; omega) | (simp; omega))))⟩

theorem nothing_any (a b : Ty)  (A B A' B' : Option Addr) (ca cb ca' cb' : Nat) (w : World) :
    Calls Tryz.prog 77 #[.agg #[.int .i64 a.kind, .string a.name, .slice A a.labels.length ca, .slice B a.kids.length cb, .int .i64 b.kind, .string b.name, .slice A' b.labels.length ca', .slice B' b.kids.length cb']] w (RsnPost none w) := by
  go_enter Tryz.func77, Tryz.ntmps77
  go_wp2_with fail
  exact bodyPost_ret (v := .agg #[.int .i64 0, .string ⟨#[]⟩]) (by simp [results, Tryz.results77, go_sem]) rfl ⟨rfl, by (first | (with_reducible exact (below2 _ _ _)) | ((with_reducible refine Below.setCell ((below2 _ _ _)) ?_ _) <;> (first | exact Nat.le_refl _ | exact Nat.le_add_right _ _ | (dsimp only; omega) | (simp; omega))) | ((with_reducible refine Below.setCell (Below.setCell ((below2 _ _ _)) ?_ _) ?_ _) <;> (first | exact Nat.le_refl _ | exact Nat.le_add_right _ _ | (dsimp only; omega) | (simp; omega))) | ((with_reducible refine Below.setCell (Below.setCell (Below.setCell ((below2 _ _ _)) ?_ _) ?_ _) ?_ _) <;> (first | exact Nat.le_refl _ | exact Nat.le_add_right _ _ | (dsimp only; omega) | (simp; omega))))⟩

theorem resources_same (a b : Ty) (h : a.name = b.name) (A B A' B' : Option Addr) (ca cb ca' cb' : Nat) (w : World) :
    Calls Tryz.prog 75 #[.agg #[.int .i64 a.kind, .string a.name, .slice A a.labels.length ca, .slice B a.kids.length cb, .int .i64 b.kind, .string b.name, .slice A' b.labels.length ca', .slice B' b.kids.length cb']] w (RsnPost none w) := by
  have e0 : (a.name.toList == b.name.toList) = true := by rw [h, beq_iff_eq]
  clear h
  go_enter Tryz.func75, Tryz.ntmps75
  go_wp2_with fail
  exact bodyPost_ret (v := .agg #[.int .i64 0, .string ⟨#[]⟩]) (by simp [results, Tryz.results75, go_sem]) rfl ⟨rfl, by (first | (with_reducible exact (below2 _ _ _)) | ((with_reducible refine Below.setCell ((below2 _ _ _)) ?_ _) <;> (first | exact Nat.le_refl _ | exact Nat.le_add_right _ _ | (dsimp only; omega) | (simp; omega))) | ((with_reducible refine Below.setCell (Below.setCell ((below2 _ _ _)) ?_ _) ?_ _) <;> (first | exact Nat.le_refl _ | exact Nat.le_add_right _ _ | (dsimp only; omega) | (simp; omega))) | ((with_reducible refine Below.setCell (Below.setCell (Below.setCell ((below2 _ _ _)) ?_ _) ?_ _) ?_ _) <;> (first | exact Nat.le_refl _ | exact Nat.le_add_right _ _ | (dsimp only; omega) | (simp; omega))))⟩

theorem resources_other (a b : Ty) (h : ¬ a.name = b.name) (A B A' B' : Option Addr) (ca cb ca' cb' : Nat) (w : World) :
    Calls Tryz.prog 75 #[.agg #[.int .i64 a.kind, .string a.name, .slice A a.labels.length ca, .slice B a.kids.length cb, .int .i64 b.kind, .string b.name, .slice A' b.labels.length ca', .slice B' b.kids.length cb']] w (RsnPost (some (6, sE)) w) := by
  have e0 := text_ne h
  clear h
  go_enter Tryz.func75, Tryz.ntmps75
  go_wp2_with fail
  exact bodyPost_ret (v := .agg #[.int .i64 6, .string ⟨#[]⟩]) (by simp [results, Tryz.results75, go_sem]) rfl ⟨rfl, by (first | (with_reducible exact (below2 _ _ _)) | ((with_reducible refine Below.setCell ((below2 _ _ _)) ?_ _) <;> (first | exact Nat.le_refl _ | exact Nat.le_add_right _ _ | (dsimp only; omega) | (simp; omega))) | ((with_reducible refine Below.setCell (Below.setCell ((below2 _ _ _)) ?_ _) ?_ _) <;> (first | exact Nat.le_refl _ | exact Nat.le_add_right _ _ | (dsimp only; omega) | (simp; omega))) | ((with_reducible refine Below.setCell (Below.setCell (Below.setCell ((below2 _ _ _)) ?_ _) ?_ _) ?_ _) <;> (first | exact Nat.le_refl _ | exact Nat.le_add_right _ _ | (dsimp only; omega) | (simp; omega))))⟩

end Go.Proofs.YtifchfecfkdjlaaGreatDoor

namespace Go.Proofs.YtifchfecfkdjlaaGreatDoor
open Go.ChangeShapes Go.WideShapes Go.ChangeAt Go.RowKit Go.Deep

set_option maxHeartbeats 4000000 in
set_option maxRecDepth 100000 in
theorem fields_any (n : Nat) (hn : n ≤ 3) (IH : TyR n) (a b : Ty) (ga : Gd (n + 1) a) (gb : Gd (n + 1) b) (hka : a.kind = 16) (hkb : b.kind = 16) (A B A' B' : Option Addr) (ca cb ca' cb' : Nat) (w : World) (hat : Ty.Pl w 0 a A B) (hbt : Ty.Pl w 0 b A' B') (ht : RTable w) :
    Calls Tryz.prog 73 #[.agg #[.int .i64 a.kind, .string a.name, .slice A a.labels.length ca, .slice B a.kids.length cb, .int .i64 b.kind, .string b.name, .slice A' b.labels.length ca', .slice B' b.kids.length cb']] w (RsnPost (scanR (recF (Ty.why n) a b) b.labels.length) w) := by
  obtain ⟨qa1, qa2, qa3, _, qa5⟩ := Ty.len_le ga.1
  obtain ⟨qb1, qb2, qb3, _, qb5⟩ := Ty.len_le gb.1
  have hap := ga.shape.apart (by omega)
  have la := ga.shape.lab (by omega)
  have lb := gb.shape.lab (by omega)
  have ka := ga.kids
  have kb := gb.kids
  have CP := Lib.hid (fun W h1 => places_any a.labels qa5 qa1 hap A ca 0 W h1)
  have CK : Hid (∀ (i j : Nat) (x y : Ty), a.kids[i]? = some x → b.kids[j]? = some y → ∀ (l : ByteArray), l.size ≤ 1048576 → ∀ W : World, Ty.Pl W 0 a A B → Ty.Pl W 0 b A' B' → RTable W → Calls Tryz.prog 87 #[.agg #[.int .i64 a.kind, .string a.name, .slice A a.labels.length ca, .slice B a.kids.length cb, .int .i64 b.kind, .string b.name, .slice A' b.labels.length ca', .slice B' b.kids.length cb'], .int .i64 i, .int .i64 j, .string (⟨#[46]⟩ ++ l)] W (RsnPost (preR (⟨#[46]⟩ ++ l) (Ty.why n x y)) W)) := Lib.hid (fun i j x y hx hy l hl W h1 h2 h3 => kid_any n (by omega) IH a b x y i j hx hy (ga.kid hx) (gb.kid hy) (by omega) _ (by rw [appS_size]; have : (⟨#[46]⟩ : ByteArray).size = 1 := rfl; omega) A B A' B' ca cb ca' cb' W h1 h2 h3)
  have RS : Hid (∀ (i j : Nat) (x y : Ty), a.kids[i]? = some x → b.kids[j]? = some y → RsnOk 5000000 (Ty.why n x y)) := Lib.hid (fun i j x y hx hy => Ty.why_small (by omega) (ga.kid hx) (gb.kid hy))
  have LA := Lib.hid la
  have LB := Lib.hid lb
  have HLR := Lib.hid qb5
  have HA := Lib.hid hat
  have HB := Lib.hid hbt
  have HSO := Lib.hid hat.strs
  have HSR := Lib.hid hbt.strs
  have HT := Lib.hid ht
  have hlr := qb1
  clear IH hn hka ga gb hat hbt ht hkb hap qa1 qa2 qa3 qa5 qb1 qb2 qb3 qb5 ka kb la lb
  go_enter Tryz.func73, Tryz.ntmps73
  go_wp2_with fail
  go_at_call 89
  refine (CP.out _ (HSO.out.below (below2 _ _ _))).mono ?_
  rintro e w2 ⟨m, rfl, hpl, hb2⟩
  have p0 := keepCell (a := ⟨w.heap.size, 0, none⟩) (v := .int .i64 a.kind) hb2 (by go_simp)
  have p1 := keepCell (a := ⟨w.heap.size, 1, none⟩) (v := .string a.name) hb2 (by go_simp)
  have p2 := keepCell (a := ⟨w.heap.size, 2, none⟩) (v := .slice A a.labels.length ca) hb2 (by go_simp)
  have p3 := keepCell (a := ⟨w.heap.size, 3, none⟩) (v := .slice B a.kids.length cb) hb2 (by go_simp)
  have p4 := keepCell (a := ⟨w.heap.size, 4, none⟩) (v := .int .i64 b.kind) hb2 (by go_simp)
  have p5 := keepCell (a := ⟨w.heap.size, 5, none⟩) (v := .string b.name) hb2 (by go_simp)
  have p6 := keepCell (a := ⟨w.heap.size, 6, none⟩) (v := .slice A' b.labels.length ca') hb2 (by go_simp)
  have p7 := keepCell (a := ⟨w.heap.size, 7, none⟩) (v := .slice B' b.kids.length cb') hb2 (by go_simp)
  have r0 := keepCell (a := ⟨w.heap.size + 1, 0, none⟩) (v := .int .i64 0) hb2 (by go_simp)
  have r1 := keepCell (a := ⟨w.heap.size + 1, 1, none⟩) (v := .string ⟨#[]⟩) hb2 (by go_simp)
  have rf0 : w2.frozen? ⟨w.heap.size + 1, 0, none⟩ = false := ((bcell hb2).2 _ _ (by first | (simp; done) | (simp; omega))).trans (by go_simp)
  have rf1 : w2.frozen? ⟨w.heap.size + 1, 1, none⟩ = false := ((bcell hb2).2 _ _ (by first | (simp; done) | (simp; omega))).trans (by go_simp)
  have HPL := Lib.hid hpl
  have HB2 := Lib.hid (bnext (below2 _ _ _) hb2)
  clear hb2 hpl CP
  go_wp2_with fail
  go_loopw [17] (fun i wr => ∃ k : Nat, k ≤ b.labels.length ∧ i = .int .i64 k ∧ Hid (scanR (recF (Ty.why n) a b) k = none) ∧ Hid (Placed wr m a.labels) ∧ Hid (Below w.heap.size w wr) ∧ wr.cell? ⟨w.heap.size, 0, none⟩ = some (.int .i64 a.kind) ∧ wr.cell? ⟨w.heap.size, 1, none⟩ = some (.string a.name) ∧ wr.cell? ⟨w.heap.size, 2, none⟩ = some (.slice A a.labels.length ca) ∧ wr.cell? ⟨w.heap.size, 3, none⟩ = some (.slice B a.kids.length cb) ∧ wr.cell? ⟨w.heap.size, 4, none⟩ = some (.int .i64 b.kind) ∧ wr.cell? ⟨w.heap.size, 5, none⟩ = some (.string b.name) ∧ wr.cell? ⟨w.heap.size, 6, none⟩ = some (.slice A' b.labels.length ca') ∧ wr.cell? ⟨w.heap.size, 7, none⟩ = some (.slice B' b.kids.length cb') ∧ wr.cell? ⟨w.heap.size + 1, 0, none⟩ = some (.int .i64 0) ∧ wr.cell? ⟨w.heap.size + 1, 1, none⟩ = some (.string ⟨#[]⟩) ∧ wr.frozen? ⟨w.heap.size + 1, 0, none⟩ = false ∧ wr.frozen? ⟨w.heap.size + 1, 1, none⟩ = false) (fun i _ => b.labels.length - (intOf i).toNat)
  case atStart => exact ⟨0, Nat.zero_le _, rfl, rfl, HPL.out, HB2.out, p0, p1, p2, p3, p4, p5, p6, p7, r0, r1, rf0, rf1⟩
  case round =>
    clear p0 p1 p2 p3 p4 p5 p6 p7 r0 r1 rf0 rf1
    obtain ⟨k, hk, rfl, hno, hpl, hbel, p0, p1, p2, p3, p4, p5, p6, p7, r0, r1, rf0, rf1⟩ := hrel
    by_cases hlt : k < b.labels.length
    · obtain ⟨b0, o0, l, rfl, _, hlk, hcl⟩ := (HSR.out.below hbel.out).at_ hlt
      have hls := HLR.out l (List.mem_of_getElem? hlk)
      have hlm : l.size ≤ maxLen := by unfold maxLen; omega
      have hz : w.heap.size + 1 < wr.heap.size := World.block_lt_of_cell? wr _ r0
      have hli : (k : Int) < (b.labels.length : Int) := by omega
      have HLK := Lib.hid hlk
      have HLT := Lib.hid hlt
      have hm2 := hpl.out.lt
      cases hp : place l a.labels with
      | none =>
        have hrun := hpl.out.no hlm hp
        have HRS : Hid (scanR (recF (Ty.why n) a b) b.labels.length = some (4, ⟨#[46]⟩ ++ l)) := Lib.hid (scanR_of hno.out (by rw [recF_eq HLK.out, recL_no hp]; rfl) HLT.out)
        clear hp hlk hlt CK RS
        go_wp2_with fail
        refine bodyPost_ret (v := .agg #[.int .i64 4, .string (⟨#[46]⟩ ++ l)]) (by simp [results, Tryz.results73, go_sem, r0, r1]) rfl ⟨by rw [HRS.out]; rfl, by (first | (with_reducible exact hbel.out) | ((with_reducible refine Below.setCell (hbel.out) ?_ _) <;> (first | exact Nat.le_refl _ | exact Nat.le_add_right _ _ | (dsimp only; omega) | (simp; omega))) | ((with_reducible refine Below.setCell (Below.setCell (hbel.out) ?_ _) ?_ _) <;> (first | exact Nat.le_refl _ | exact Nat.le_add_right _ _ | (dsimp only; omega) | (simp; omega))) | ((with_reducible refine Below.setCell (Below.setCell (Below.setCell (hbel.out) ?_ _) ?_ _) ?_ _) <;> (first | exact Nat.le_refl _ | exact Nat.le_add_right _ _ | (dsimp only; omega) | (simp; omega))))⟩
      | some q =>
        have hrun := hpl.out.yes hlm hp
        have hq := place_lt hp
        obtain ⟨x, hx⟩ : ∃ x, a.kids[q]? = some x := ⟨_, List.getElem?_eq_getElem (by have := LA.out; have := LB.out; omega)⟩
        obtain ⟨y, hy⟩ : ∃ y, b.kids[k]? = some y := ⟨_, List.getElem?_eq_getElem (by have := LA.out; have := LB.out; omega)⟩
        have C := CK.out q k x y hx hy l hls
        have HFK : Hid (recF (Ty.why n) a b k = preR (⟨#[46]⟩ ++ l) (Ty.why n x y)) := Lib.hid (by rw [recF_eq HLK.out, recL_at hp hx hy]; rfl)
        have HRO := RS.out _ _ x y hx hy
        clear hp hlk hlt hx hy hq
        cases hr : Ty.why n x y with
        | none =>
          rw [hr, preR_none] at C HFK
          have C := Lib.hid (fun W h1 h2 h3 => (C W h1 h2 h3).mono fun _ _ j => j.none_)
          have HSC : Hid (scanR (recF (Ty.why n) a b) (k + 1) = none) := Lib.hid (by rw [scanR_step hno.out, HFK.out])
          clear hr HRO HFK
          go_wp2_with fail
          go_at_call 87
          refine (C.out _ (HA.out.keep (Kp.below hbel.out).1) (HB.out.keep (Kp.below hbel.out).1) (HT.out.keep hbel.out)).mono ?_
          rintro e w3 ⟨rfl, hb3⟩
          have p0' := keepCell hb3 p0; have p1' := keepCell hb3 p1; have p2' := keepCell hb3 p2; have p3' := keepCell hb3 p3; have p4' := keepCell hb3 p4; have p5' := keepCell hb3 p5; have p6' := keepCell hb3 p6; have p7' := keepCell hb3 p7; have r0' := keepCell hb3 r0; have r1' := keepCell hb3 r1
          have rf0' : w3.frozen? ⟨w.heap.size + 1, 0, none⟩ = false := ((bcell hb3).2 _ _ (by omega)).trans rf0
          have rf1' : w3.frozen? ⟨w.heap.size + 1, 1, none⟩ = false := ((bcell hb3).2 _ _ (by omega)).trans rf1
          have hz3 : w.heap.size + 1 < w3.heap.size := World.block_lt_of_cell? w3 _ r0'
          have HP3 := Lib.hid (hpl.out.below hb3)
          have HB3 := Lib.hid (bnext hbel.out hb3)
          clear hb3 C p0 p1 p2 p3 p4 p5 p6 p7 r0 r1 rf0 rf1
          go_wp2_with fail
          go_roundw
          case rel => exact ⟨k + 1, by omega, by go_num, HSC.out, HP3.out.below (below1 _ _), bnext HB3.out (below1 _ _), keepCell (below1 _ _) p0', keepCell (below1 _ _) p1', keepCell (below1 _ _) p2', keepCell (below1 _ _) p3', keepCell (below1 _ _) p4', keepCell (below1 _ _) p5', keepCell (below1 _ _) p6', keepCell (below1 _ _) p7', keepCell (below1 _ _) r0', keepCell (below1 _ _) r1', by go_simp, by go_simp⟩
          case measure => simp [intOf]; omega
        | some v =>
          obtain ⟨z, p⟩ := v
          obtain ⟨⟨z1, z2⟩, z3⟩ := HRO z p hr
          rw [hr, preR_some] at C HFK
          have C := Lib.hid (fun W h1 h2 h3 => (C W h1 h2 h3).mono fun _ _ j => j.some_)
          have HRS : Hid (scanR (recF (Ty.why n) a b) b.labels.length = some (z, ⟨#[46]⟩ ++ l ++ p)) := Lib.hid (scanR_of hno.out HFK.out HLT.out)
          have ez : (z == 0) = false := by rw [beq_eq_false_iff_ne]; omega
          have ez' : (z != 0) = true := by rw [bne_iff_ne]; omega
          clear hr HRO HFK
          go_wp2_with fail
          go_at_call 87
          refine (C.out _ (HA.out.keep (Kp.below hbel.out).1) (HB.out.keep (Kp.below hbel.out).1) (HT.out.keep hbel.out)).mono ?_
          rintro e w3 ⟨rfl, hb3⟩
          have p0' := keepCell hb3 p0; have p1' := keepCell hb3 p1; have p2' := keepCell hb3 p2; have p3' := keepCell hb3 p3; have p4' := keepCell hb3 p4; have p5' := keepCell hb3 p5; have p6' := keepCell hb3 p6; have p7' := keepCell hb3 p7; have r0' := keepCell hb3 r0; have r1' := keepCell hb3 r1
          have rf0' : w3.frozen? ⟨w.heap.size + 1, 0, none⟩ = false := ((bcell hb3).2 _ _ (by omega)).trans rf0
          have rf1' : w3.frozen? ⟨w.heap.size + 1, 1, none⟩ = false := ((bcell hb3).2 _ _ (by omega)).trans rf1
          have hz3 : w.heap.size + 1 < w3.heap.size := World.block_lt_of_cell? w3 _ r0'
          have HB3 := Lib.hid (bnext hbel.out hb3)
          clear hb3 C p0 p1 p2 p3 p4 p5 p6 p7 r0 r1 rf0 rf1
          go_wp2_with fail
          refine bodyPost_ret (v := .agg #[.int .i64 z, .string (⟨#[46]⟩ ++ l ++ p)]) (by simp [results, Tryz.results73, go_sem, r0', r1', hz3]) rfl ⟨by rw [HRS.out]; rfl, by (first | (with_reducible exact (bnext HB3.out (below1 _ _))) | ((with_reducible refine Below.setCell (Below.setCell ((bnext HB3.out (below1 _ _))) ?_ _) ?_ _) <;> (first | exact Nat.le_refl _ | exact Nat.le_add_right _ _ | (dsimp only; omega) | (simp; omega))) | ((with_reducible refine Below.alloc (Below.setCell (Below.setCell (HB3.out) ?_ _) ?_ _) ?_ _) <;> (first | (first | exact Nat.le_refl _ | exact Nat.le_add_right _ _ | (dsimp only; omega) | (simp; omega)) | (simp only [World.setCell_size]; omega) | (simp; have := hz3; omega))))⟩
    · have hk' : k = b.labels.length := by omega
      have h9 := hno.out
      rw [hk'] at h9
      have HRS := Lib.hid h9
      have hz : w.heap.size + 1 < wr.heap.size := World.block_lt_of_cell? wr _ r0
      clear h9 hk'
      go_wp2_with fail
      refine bodyPost_ret (v := .agg #[.int .i64 0, .string ⟨#[]⟩]) (by simp [results, Tryz.results73, go_sem, r0, r1]) rfl ⟨by rw [HRS.out]; rfl, by (first | (with_reducible exact hbel.out) | ((with_reducible refine Below.setCell (hbel.out) ?_ _) <;> (first | exact Nat.le_refl _ | exact Nat.le_add_right _ _ | (dsimp only; omega) | (simp; omega))) | ((with_reducible refine Below.setCell (Below.setCell (hbel.out) ?_ _) ?_ _) <;> (first | exact Nat.le_refl _ | exact Nat.le_add_right _ _ | (dsimp only; omega) | (simp; omega))) | ((with_reducible refine Below.setCell (Below.setCell (Below.setCell (hbel.out) ?_ _) ?_ _) ?_ _) <;> (first | exact Nat.le_refl _ | exact Nat.le_add_right _ _ | (dsimp only; omega) | (simp; omega))))⟩

end Go.Proofs.YtifchfecfkdjlaaGreatDoor

namespace Go.Proofs.YtifchfecfkdjlaaGreatDoor
open Go.ChangeShapes Go.WideShapes Go.ChangeAt Go.RowKit Go.Deep

set_option maxHeartbeats 4000000 in
set_option maxRecDepth 100000 in
theorem cases_var (n : Nat) (hn : n ≤ 3) (IH : TyR n) (a b : Ty) (ga : Gd (n + 1) a) (gb : Gd (n + 1) b) (hka : a.kind = 17) (hkb : b.kind = 17) (A B A' B' : Option Addr) (ca cb ca' cb' : Nat) (w : World) (hat : Ty.Pl w 0 a A B) (hbt : Ty.Pl w 0 b A' B') (ht : RTable w) :
    Calls Tryz.prog 74 #[.agg #[.int .i64 a.kind, .string a.name, .slice A a.labels.length ca, .slice B a.kids.length cb, .int .i64 b.kind, .string b.name, .slice A' b.labels.length ca', .slice B' b.kids.length cb']] w (RsnPost (scanR (varF (Ty.why n) a b) a.labels.length) w) := by
  obtain ⟨qa1, qa2, qa3, _, qa5⟩ := Ty.len_le ga.1
  obtain ⟨qb1, qb2, qb3, _, qb5⟩ := Ty.len_le gb.1
  have hap := gb.shape.apart (by omega)
  have la := ga.shape.lab (by omega)
  have lb := gb.shape.lab (by omega)
  have ka := ga.kids
  have kb := gb.kids
  have CP := Lib.hid (fun W h1 => places_any b.labels qb5 qb1 hap A' ca' 0 W h1)
  have CK : Hid (∀ (i j : Nat) (x y : Ty), a.kids[i]? = some x → b.kids[j]? = some y → ∀ (l : ByteArray), l.size ≤ 1048576 → ∀ W : World, Ty.Pl W 0 a A B → Ty.Pl W 0 b A' B' → RTable W → Calls Tryz.prog 87 #[.agg #[.int .i64 a.kind, .string a.name, .slice A a.labels.length ca, .slice B a.kids.length cb, .int .i64 b.kind, .string b.name, .slice A' b.labels.length ca', .slice B' b.kids.length cb'], .int .i64 i, .int .i64 j, .string (⟨#[46]⟩ ++ l)] W (RsnPost (preR (⟨#[46]⟩ ++ l) (Ty.why n x y)) W)) := Lib.hid (fun i j x y hx hy l hl W h1 h2 h3 => kid_any n (by omega) IH a b x y i j hx hy (ga.kid hx) (gb.kid hy) (by omega) _ (by rw [appS_size]; have : (⟨#[46]⟩ : ByteArray).size = 1 := rfl; omega) A B A' B' ca cb ca' cb' W h1 h2 h3)
  have RS : Hid (∀ (i j : Nat) (x y : Ty), a.kids[i]? = some x → b.kids[j]? = some y → RsnOk 5000000 (Ty.why n x y)) := Lib.hid (fun i j x y hx hy => Ty.why_small (by omega) (ga.kid hx) (gb.kid hy))
  have LA := Lib.hid la
  have LB := Lib.hid lb
  have HLR := Lib.hid qa5
  have HA := Lib.hid hat
  have HB := Lib.hid hbt
  have HSO := Lib.hid hbt.strs
  have HSR := Lib.hid hat.strs
  have HT := Lib.hid ht
  have hlr := qa1
  have hk17 : (b.kind == 17) = true := by rw [beq_iff_eq]; exact hkb
  have hk17' : (b.kind != 17) = false := by rw [bne_eq_false_iff_eq]; exact hkb
  clear IH hn hka ga gb hat hbt ht hkb hap qa1 qa2 qa3 qa5 qb1 qb2 qb3 qb5 ka kb la lb
  go_enter Tryz.func74, Tryz.ntmps74
  go_wp2_with fail
  go_at_call 89
  refine (CP.out _ (HSO.out.below (below2 _ _ _))).mono ?_
  rintro e w2 ⟨m, rfl, hpl, hb2⟩
  have p0 := keepCell (a := ⟨w.heap.size, 0, none⟩) (v := .int .i64 a.kind) hb2 (by go_simp)
  have p1 := keepCell (a := ⟨w.heap.size, 1, none⟩) (v := .string a.name) hb2 (by go_simp)
  have p2 := keepCell (a := ⟨w.heap.size, 2, none⟩) (v := .slice A a.labels.length ca) hb2 (by go_simp)
  have p3 := keepCell (a := ⟨w.heap.size, 3, none⟩) (v := .slice B a.kids.length cb) hb2 (by go_simp)
  have p4 := keepCell (a := ⟨w.heap.size, 4, none⟩) (v := .int .i64 b.kind) hb2 (by go_simp)
  have p5 := keepCell (a := ⟨w.heap.size, 5, none⟩) (v := .string b.name) hb2 (by go_simp)
  have p6 := keepCell (a := ⟨w.heap.size, 6, none⟩) (v := .slice A' b.labels.length ca') hb2 (by go_simp)
  have p7 := keepCell (a := ⟨w.heap.size, 7, none⟩) (v := .slice B' b.kids.length cb') hb2 (by go_simp)
  have r0 := keepCell (a := ⟨w.heap.size + 1, 0, none⟩) (v := .int .i64 0) hb2 (by go_simp)
  have r1 := keepCell (a := ⟨w.heap.size + 1, 1, none⟩) (v := .string ⟨#[]⟩) hb2 (by go_simp)
  have rf0 : w2.frozen? ⟨w.heap.size + 1, 0, none⟩ = false := ((bcell hb2).2 _ _ (by first | (simp; done) | (simp; omega))).trans (by go_simp)
  have rf1 : w2.frozen? ⟨w.heap.size + 1, 1, none⟩ = false := ((bcell hb2).2 _ _ (by first | (simp; done) | (simp; omega))).trans (by go_simp)
  have HPL := Lib.hid hpl
  have HB2 := Lib.hid (bnext (below2 _ _ _) hb2)
  clear hb2 hpl CP
  go_wp2_with fail
  go_loopw [17] (fun i wr => ∃ k : Nat, k ≤ a.labels.length ∧ i = .int .i64 k ∧ Hid (scanR (varF (Ty.why n) a b) k = none) ∧ Hid (Placed wr m b.labels) ∧ Hid (Below w.heap.size w wr) ∧ wr.cell? ⟨w.heap.size, 0, none⟩ = some (.int .i64 a.kind) ∧ wr.cell? ⟨w.heap.size, 1, none⟩ = some (.string a.name) ∧ wr.cell? ⟨w.heap.size, 2, none⟩ = some (.slice A a.labels.length ca) ∧ wr.cell? ⟨w.heap.size, 3, none⟩ = some (.slice B a.kids.length cb) ∧ wr.cell? ⟨w.heap.size, 4, none⟩ = some (.int .i64 b.kind) ∧ wr.cell? ⟨w.heap.size, 5, none⟩ = some (.string b.name) ∧ wr.cell? ⟨w.heap.size, 6, none⟩ = some (.slice A' b.labels.length ca') ∧ wr.cell? ⟨w.heap.size, 7, none⟩ = some (.slice B' b.kids.length cb') ∧ wr.cell? ⟨w.heap.size + 1, 0, none⟩ = some (.int .i64 0) ∧ wr.cell? ⟨w.heap.size + 1, 1, none⟩ = some (.string ⟨#[]⟩) ∧ wr.frozen? ⟨w.heap.size + 1, 0, none⟩ = false ∧ wr.frozen? ⟨w.heap.size + 1, 1, none⟩ = false) (fun i _ => a.labels.length - (intOf i).toNat)
  case atStart => exact ⟨0, Nat.zero_le _, rfl, rfl, HPL.out, HB2.out, p0, p1, p2, p3, p4, p5, p6, p7, r0, r1, rf0, rf1⟩
  case round =>
    clear p0 p1 p2 p3 p4 p5 p6 p7 r0 r1 rf0 rf1
    obtain ⟨k, hk, rfl, hno, hpl, hbel, p0, p1, p2, p3, p4, p5, p6, p7, r0, r1, rf0, rf1⟩ := hrel
    by_cases hlt : k < a.labels.length
    · obtain ⟨b0, o0, l, rfl, _, hlk, hcl⟩ := (HSR.out.below hbel.out).at_ hlt
      have hls := HLR.out l (List.mem_of_getElem? hlk)
      have hlm : l.size ≤ maxLen := by unfold maxLen; omega
      have hz : w.heap.size + 1 < wr.heap.size := World.block_lt_of_cell? wr _ r0
      have hli : (k : Int) < (a.labels.length : Int) := by omega
      have HLK := Lib.hid hlk
      have HLT := Lib.hid hlt
      have hm2 := hpl.out.lt
      cases hp : place l b.labels with
      | none =>
        have hrun := hpl.out.no hlm hp
        have HRS : Hid (scanR (varF (Ty.why n) a b) a.labels.length = some (5, ⟨#[46]⟩ ++ l)) := Lib.hid (scanR_of hno.out (by rw [varF_eq HLK.out, varL_no hp]; rfl) HLT.out)
        clear hp hlk hlt CK RS
        go_wp2_with fail
        refine bodyPost_ret (v := .agg #[.int .i64 5, .string (⟨#[46]⟩ ++ l)]) (by simp [results, Tryz.results74, go_sem, r0, r1]) rfl ⟨by rw [HRS.out]; rfl, by (first | (with_reducible exact hbel.out) | ((with_reducible refine Below.setCell (hbel.out) ?_ _) <;> (first | exact Nat.le_refl _ | exact Nat.le_add_right _ _ | (dsimp only; omega) | (simp; omega))) | ((with_reducible refine Below.setCell (Below.setCell (hbel.out) ?_ _) ?_ _) <;> (first | exact Nat.le_refl _ | exact Nat.le_add_right _ _ | (dsimp only; omega) | (simp; omega))) | ((with_reducible refine Below.setCell (Below.setCell (Below.setCell (hbel.out) ?_ _) ?_ _) ?_ _) <;> (first | exact Nat.le_refl _ | exact Nat.le_add_right _ _ | (dsimp only; omega) | (simp; omega))))⟩
      | some q =>
        have hrun := hpl.out.yes hlm hp
        have hq := place_lt hp
        obtain ⟨x, hx⟩ : ∃ x, a.kids[k]? = some x := ⟨_, List.getElem?_eq_getElem (by have := LA.out; have := LB.out; omega)⟩
        obtain ⟨y, hy⟩ : ∃ y, b.kids[q]? = some y := ⟨_, List.getElem?_eq_getElem (by have := LA.out; have := LB.out; omega)⟩
        have C := CK.out k q x y hx hy l hls
        have HFK : Hid (varF (Ty.why n) a b k = preR (⟨#[46]⟩ ++ l) (Ty.why n x y)) := Lib.hid (by rw [varF_eq HLK.out, varL_at hp hx hy]; rfl)
        have HRO := RS.out _ _ x y hx hy
        clear hp hlk hlt hx hy hq
        cases hr : Ty.why n x y with
        | none =>
          rw [hr, preR_none] at C HFK
          have C := Lib.hid (fun W h1 h2 h3 => (C W h1 h2 h3).mono fun _ _ j => j.none_)
          have HSC : Hid (scanR (varF (Ty.why n) a b) (k + 1) = none) := Lib.hid (by rw [scanR_step hno.out, HFK.out])
          clear hr HRO HFK
          go_wp2_with fail
          go_at_call 87
          refine (C.out _ (HA.out.keep (Kp.below hbel.out).1) (HB.out.keep (Kp.below hbel.out).1) (HT.out.keep hbel.out)).mono ?_
          rintro e w3 ⟨rfl, hb3⟩
          have p0' := keepCell hb3 p0; have p1' := keepCell hb3 p1; have p2' := keepCell hb3 p2; have p3' := keepCell hb3 p3; have p4' := keepCell hb3 p4; have p5' := keepCell hb3 p5; have p6' := keepCell hb3 p6; have p7' := keepCell hb3 p7; have r0' := keepCell hb3 r0; have r1' := keepCell hb3 r1
          have rf0' : w3.frozen? ⟨w.heap.size + 1, 0, none⟩ = false := ((bcell hb3).2 _ _ (by omega)).trans rf0
          have rf1' : w3.frozen? ⟨w.heap.size + 1, 1, none⟩ = false := ((bcell hb3).2 _ _ (by omega)).trans rf1
          have hz3 : w.heap.size + 1 < w3.heap.size := World.block_lt_of_cell? w3 _ r0'
          have HP3 := Lib.hid (hpl.out.below hb3)
          have HB3 := Lib.hid (bnext hbel.out hb3)
          clear hb3 C p0 p1 p2 p3 p4 p5 p6 p7 r0 r1 rf0 rf1
          go_wp2_with fail
          go_roundw
          case rel => exact ⟨k + 1, by omega, by go_num, HSC.out, HP3.out.below (below1 _ _), bnext HB3.out (below1 _ _), keepCell (below1 _ _) p0', keepCell (below1 _ _) p1', keepCell (below1 _ _) p2', keepCell (below1 _ _) p3', keepCell (below1 _ _) p4', keepCell (below1 _ _) p5', keepCell (below1 _ _) p6', keepCell (below1 _ _) p7', keepCell (below1 _ _) r0', keepCell (below1 _ _) r1', by go_simp, by go_simp⟩
          case measure => simp [intOf]; omega
        | some v =>
          obtain ⟨z, p⟩ := v
          obtain ⟨⟨z1, z2⟩, z3⟩ := HRO z p hr
          rw [hr, preR_some] at C HFK
          have C := Lib.hid (fun W h1 h2 h3 => (C W h1 h2 h3).mono fun _ _ j => j.some_)
          have HRS : Hid (scanR (varF (Ty.why n) a b) a.labels.length = some (z, ⟨#[46]⟩ ++ l ++ p)) := Lib.hid (scanR_of hno.out HFK.out HLT.out)
          have ez : (z == 0) = false := by rw [beq_eq_false_iff_ne]; omega
          have ez' : (z != 0) = true := by rw [bne_iff_ne]; omega
          clear hr HRO HFK
          go_wp2_with fail
          go_at_call 87
          refine (C.out _ (HA.out.keep (Kp.below hbel.out).1) (HB.out.keep (Kp.below hbel.out).1) (HT.out.keep hbel.out)).mono ?_
          rintro e w3 ⟨rfl, hb3⟩
          have p0' := keepCell hb3 p0; have p1' := keepCell hb3 p1; have p2' := keepCell hb3 p2; have p3' := keepCell hb3 p3; have p4' := keepCell hb3 p4; have p5' := keepCell hb3 p5; have p6' := keepCell hb3 p6; have p7' := keepCell hb3 p7; have r0' := keepCell hb3 r0; have r1' := keepCell hb3 r1
          have rf0' : w3.frozen? ⟨w.heap.size + 1, 0, none⟩ = false := ((bcell hb3).2 _ _ (by omega)).trans rf0
          have rf1' : w3.frozen? ⟨w.heap.size + 1, 1, none⟩ = false := ((bcell hb3).2 _ _ (by omega)).trans rf1
          have hz3 : w.heap.size + 1 < w3.heap.size := World.block_lt_of_cell? w3 _ r0'
          have HB3 := Lib.hid (bnext hbel.out hb3)
          clear hb3 C p0 p1 p2 p3 p4 p5 p6 p7 r0 r1 rf0 rf1
          go_wp2_with fail
          refine bodyPost_ret (v := .agg #[.int .i64 z, .string (⟨#[46]⟩ ++ l ++ p)]) (by simp [results, Tryz.results74, go_sem, r0', r1', hz3]) rfl ⟨by rw [HRS.out]; rfl, by (first | (with_reducible exact (bnext HB3.out (below1 _ _))) | ((with_reducible refine Below.setCell (Below.setCell ((bnext HB3.out (below1 _ _))) ?_ _) ?_ _) <;> (first | exact Nat.le_refl _ | exact Nat.le_add_right _ _ | (dsimp only; omega) | (simp; omega))) | ((with_reducible refine Below.alloc (Below.setCell (Below.setCell (HB3.out) ?_ _) ?_ _) ?_ _) <;> (first | (first | exact Nat.le_refl _ | exact Nat.le_add_right _ _ | (dsimp only; omega) | (simp; omega)) | (simp only [World.setCell_size]; omega) | (simp; have := hz3; omega))))⟩
    · have hk' : k = a.labels.length := by omega
      have h9 := hno.out
      rw [hk'] at h9
      have HRS := Lib.hid h9
      have hz : w.heap.size + 1 < wr.heap.size := World.block_lt_of_cell? wr _ r0
      clear h9 hk'
      go_wp2_with fail
      refine bodyPost_ret (v := .agg #[.int .i64 0, .string ⟨#[]⟩]) (by simp [results, Tryz.results74, go_sem, r0, r1]) rfl ⟨by rw [HRS.out]; rfl, by (first | (with_reducible exact hbel.out) | ((with_reducible refine Below.setCell (hbel.out) ?_ _) <;> (first | exact Nat.le_refl _ | exact Nat.le_add_right _ _ | (dsimp only; omega) | (simp; omega))) | ((with_reducible refine Below.setCell (Below.setCell (hbel.out) ?_ _) ?_ _) <;> (first | exact Nat.le_refl _ | exact Nat.le_add_right _ _ | (dsimp only; omega) | (simp; omega))) | ((with_reducible refine Below.setCell (Below.setCell (Below.setCell (hbel.out) ?_ _) ?_ _) ?_ _) <;> (first | exact Nat.le_refl _ | exact Nat.le_add_right _ _ | (dsimp only; omega) | (simp; omega))))⟩

end Go.Proofs.YtifchfecfkdjlaaGreatDoor

namespace Go.Proofs.YtifchfecfkdjlaaGreatDoor
open Go.ChangeShapes Go.WideShapes Go.ChangeAt Go.RowKit Go.Deep

set_option maxHeartbeats 4000000 in
set_option maxRecDepth 100000 in
theorem cases_en (n : Nat) (a b : Ty) (ga : Gd (n + 1) a) (gb : Gd (n + 1) b) (hkb : b.kind = 18 ∨ b.kind = 19) (A B A' B' : Option Addr) (ca cb ca' cb' : Nat) (w : World) (hat : Ty.Pl w 0 a A B) (hbt : Ty.Pl w 0 b A' B') (ht : RTable w) :
    Calls Tryz.prog 74 #[.agg #[.int .i64 a.kind, .string a.name, .slice A a.labels.length ca, .slice B a.kids.length cb, .int .i64 b.kind, .string b.name, .slice A' b.labels.length ca', .slice B' b.kids.length cb']] w (RsnPost (scanR (enF a b) a.labels.length) w) := by
  obtain ⟨qa1, qa2, qa3, _, qa5⟩ := Ty.len_le ga.1
  obtain ⟨qb1, qb2, qb3, _, qb5⟩ := Ty.len_le gb.1
  have hap := gb.shape.apart (by omega)
  have ka := ga.kids
  have kb := gb.kids
  have CP := Lib.hid (fun W h1 => places_any b.labels qb5 qb1 hap A' ca' 0 W h1)
  have HLR := Lib.hid qa5
  have HA := Lib.hid hat
  have HB := Lib.hid hbt
  have HSO := Lib.hid hbt.strs
  have HSR := Lib.hid hat.strs
  have HT := Lib.hid ht
  have hlr := qa1
  have hk17 : (b.kind == 17) = false := by rw [beq_eq_false_iff_ne]; omega
  have hk17' : (b.kind != 17) = true := by rw [bne_iff_ne]; omega
  clear  ga gb hat hbt ht hkb hap qa1 qa2 qa3 qa5 qb1 qb2 qb3 qb5 ka kb 
  go_enter Tryz.func74, Tryz.ntmps74
  go_wp2_with fail
  go_at_call 89
  refine (CP.out _ (HSO.out.below (below2 _ _ _))).mono ?_
  rintro e w2 ⟨m, rfl, hpl, hb2⟩
  have p0 := keepCell (a := ⟨w.heap.size, 0, none⟩) (v := .int .i64 a.kind) hb2 (by go_simp)
  have p1 := keepCell (a := ⟨w.heap.size, 1, none⟩) (v := .string a.name) hb2 (by go_simp)
  have p2 := keepCell (a := ⟨w.heap.size, 2, none⟩) (v := .slice A a.labels.length ca) hb2 (by go_simp)
  have p3 := keepCell (a := ⟨w.heap.size, 3, none⟩) (v := .slice B a.kids.length cb) hb2 (by go_simp)
  have p4 := keepCell (a := ⟨w.heap.size, 4, none⟩) (v := .int .i64 b.kind) hb2 (by go_simp)
  have p5 := keepCell (a := ⟨w.heap.size, 5, none⟩) (v := .string b.name) hb2 (by go_simp)
  have p6 := keepCell (a := ⟨w.heap.size, 6, none⟩) (v := .slice A' b.labels.length ca') hb2 (by go_simp)
  have p7 := keepCell (a := ⟨w.heap.size, 7, none⟩) (v := .slice B' b.kids.length cb') hb2 (by go_simp)
  have r0 := keepCell (a := ⟨w.heap.size + 1, 0, none⟩) (v := .int .i64 0) hb2 (by go_simp)
  have r1 := keepCell (a := ⟨w.heap.size + 1, 1, none⟩) (v := .string ⟨#[]⟩) hb2 (by go_simp)
  have rf0 : w2.frozen? ⟨w.heap.size + 1, 0, none⟩ = false := ((bcell hb2).2 _ _ (by first | (simp; done) | (simp; omega))).trans (by go_simp)
  have rf1 : w2.frozen? ⟨w.heap.size + 1, 1, none⟩ = false := ((bcell hb2).2 _ _ (by first | (simp; done) | (simp; omega))).trans (by go_simp)
  have HPL := Lib.hid hpl
  have HB2 := Lib.hid (bnext (below2 _ _ _) hb2)
  clear hb2 hpl CP
  go_wp2_with fail
  go_loopw [17] (fun i wr => ∃ k : Nat, k ≤ a.labels.length ∧ i = .int .i64 k ∧ Hid (scanR (enF a b) k = none) ∧ Hid (Placed wr m b.labels) ∧ Hid (Below w.heap.size w wr) ∧ wr.cell? ⟨w.heap.size, 0, none⟩ = some (.int .i64 a.kind) ∧ wr.cell? ⟨w.heap.size, 1, none⟩ = some (.string a.name) ∧ wr.cell? ⟨w.heap.size, 2, none⟩ = some (.slice A a.labels.length ca) ∧ wr.cell? ⟨w.heap.size, 3, none⟩ = some (.slice B a.kids.length cb) ∧ wr.cell? ⟨w.heap.size, 4, none⟩ = some (.int .i64 b.kind) ∧ wr.cell? ⟨w.heap.size, 5, none⟩ = some (.string b.name) ∧ wr.cell? ⟨w.heap.size, 6, none⟩ = some (.slice A' b.labels.length ca') ∧ wr.cell? ⟨w.heap.size, 7, none⟩ = some (.slice B' b.kids.length cb') ∧ wr.cell? ⟨w.heap.size + 1, 0, none⟩ = some (.int .i64 0) ∧ wr.cell? ⟨w.heap.size + 1, 1, none⟩ = some (.string ⟨#[]⟩) ∧ wr.frozen? ⟨w.heap.size + 1, 0, none⟩ = false ∧ wr.frozen? ⟨w.heap.size + 1, 1, none⟩ = false) (fun i _ => a.labels.length - (intOf i).toNat)
  case atStart => exact ⟨0, Nat.zero_le _, rfl, rfl, HPL.out, HB2.out, p0, p1, p2, p3, p4, p5, p6, p7, r0, r1, rf0, rf1⟩
  case round =>
    clear p0 p1 p2 p3 p4 p5 p6 p7 r0 r1 rf0 rf1
    obtain ⟨k, hk, rfl, hno, hpl, hbel, p0, p1, p2, p3, p4, p5, p6, p7, r0, r1, rf0, rf1⟩ := hrel
    by_cases hlt : k < a.labels.length
    · obtain ⟨b0, o0, l, rfl, _, hlk, hcl⟩ := (HSR.out.below hbel.out).at_ hlt
      have hls := HLR.out l (List.mem_of_getElem? hlk)
      have hlm : l.size ≤ maxLen := by unfold maxLen; omega
      have hz : w.heap.size + 1 < wr.heap.size := World.block_lt_of_cell? wr _ r0
      have hli : (k : Int) < (a.labels.length : Int) := by omega
      have HLK := Lib.hid hlk
      have HLT := Lib.hid hlt
      have hm2 := hpl.out.lt
      cases hp : place l b.labels with
      | none =>
        have hrun := hpl.out.no hlm hp
        have HRS : Hid (scanR (enF a b) a.labels.length = some (5, ⟨#[46]⟩ ++ l)) := Lib.hid (scanR_of hno.out (by rw [enF_eq HLK.out, enL_no hp]; rfl) HLT.out)
        clear hp hlk hlt 
        go_wp2_with fail
        refine bodyPost_ret (v := .agg #[.int .i64 5, .string (⟨#[46]⟩ ++ l)]) (by simp [results, Tryz.results74, go_sem, r0, r1]) rfl ⟨by rw [HRS.out]; rfl, by (first | (with_reducible exact hbel.out) | ((with_reducible refine Below.setCell (hbel.out) ?_ _) <;> (first | exact Nat.le_refl _ | exact Nat.le_add_right _ _ | (dsimp only; omega) | (simp; omega))) | ((with_reducible refine Below.setCell (Below.setCell (hbel.out) ?_ _) ?_ _) <;> (first | exact Nat.le_refl _ | exact Nat.le_add_right _ _ | (dsimp only; omega) | (simp; omega))) | ((with_reducible refine Below.setCell (Below.setCell (Below.setCell (hbel.out) ?_ _) ?_ _) ?_ _) <;> (first | exact Nat.le_refl _ | exact Nat.le_add_right _ _ | (dsimp only; omega) | (simp; omega))))⟩
      | some q =>
        have hrun := hpl.out.yes hlm hp
        have HSC : Hid (scanR (enF a b) (k + 1) = none) := Lib.hid (by rw [scanR_step hno.out, enF_eq HLK.out, enL_at hp])
        clear hp hlk hlt
        go_wp2_with fail
        go_roundw
        case rel => exact ⟨k + 1, by omega, by go_num, HSC.out, hpl.out, hbel.out, p0, p1, p2, p3, p4, p5, p6, p7, r0, r1, rf0, rf1⟩
        case measure => simp [intOf]; omega
    · have hk' : k = a.labels.length := by omega
      have h9 := hno.out
      rw [hk'] at h9
      have HRS := Lib.hid h9
      have hz : w.heap.size + 1 < wr.heap.size := World.block_lt_of_cell? wr _ r0
      clear h9 hk'
      go_wp2_with fail
      refine bodyPost_ret (v := .agg #[.int .i64 0, .string ⟨#[]⟩]) (by simp [results, Tryz.results74, go_sem, r0, r1]) rfl ⟨by rw [HRS.out]; rfl, by (first | (with_reducible exact hbel.out) | ((with_reducible refine Below.setCell (hbel.out) ?_ _) <;> (first | exact Nat.le_refl _ | exact Nat.le_add_right _ _ | (dsimp only; omega) | (simp; omega))) | ((with_reducible refine Below.setCell (Below.setCell (hbel.out) ?_ _) ?_ _) <;> (first | exact Nat.le_refl _ | exact Nat.le_add_right _ _ | (dsimp only; omega) | (simp; omega))) | ((with_reducible refine Below.setCell (Below.setCell (Below.setCell (hbel.out) ?_ _) ?_ _) ?_ _) <;> (first | exact Nat.le_refl _ | exact Nat.le_add_right _ _ | (dsimp only; omega) | (simp; omega))))⟩

end Go.Proofs.YtifchfecfkdjlaaGreatDoor

namespace Go.Proofs.YtifchfecfkdjlaaGreatDoor
open Go.ChangeShapes Go.WideShapes Go.ChangeAt Go.RowKit Go.Deep

set_option maxHeartbeats 4000000 in
set_option maxRecDepth 100000 in
theorem results_any (n : Nat) (hn : n ≤ 3) (IH : TyR n) (a b : Ty) (ga : Gd (n + 1) a) (gb : Gd (n + 1) b) (hka : a.kind = 14) (hkb : b.kind = 14) (A B A' B' : Option Addr) (ca cb ca' cb' : Nat) (w : World) (hat : Ty.Pl w 0 a A B) (hbt : Ty.Pl w 0 b A' B') (ht : RTable w) :
    Calls Tryz.prog 71 #[.agg #[.int .i64 a.kind, .string a.name, .slice A a.labels.length ca, .slice B a.kids.length cb, .int .i64 b.kind, .string b.name, .slice A' b.labels.length ca', .slice B' b.kids.length cb']] w (RsnPost (match kidR (Ty.why n) a.kids b.kids 0 0 sOk with | some r => some r | none => kidR (Ty.why n) a.kids b.kids 1 1 sErr) w) := by
  have la := ga.shape.two hka
  have lb := gb.shape.two hkb
  obtain ⟨x, hx⟩ : ∃ x, a.kids[0]? = some x := ⟨_, List.getElem?_eq_getElem (by omega)⟩
  obtain ⟨y, hy⟩ : ∃ y, b.kids[0]? = some y := ⟨_, List.getElem?_eq_getElem (by omega)⟩
  obtain ⟨x', hx'⟩ : ∃ x, a.kids[1]? = some x := ⟨_, List.getElem?_eq_getElem (by omega)⟩
  obtain ⟨y', hy'⟩ : ∃ y, b.kids[1]? = some y := ⟨_, List.getElem?_eq_getElem (by omega)⟩
  rw [kidR_eq hx hy, kidR_eq hx' hy']
  have CK := Lib.hid (fun W h1 h2 h3 => kid_any n (by omega) IH a b x y 0 0 hx hy (ga.kid hx) (gb.kid hy) (by omega) sOk (by decide) A B A' B' ca cb ca' cb' W h1 h2 h3)
  have CK' := Lib.hid (fun W h1 h2 h3 => kid_any n (by omega) IH a b x' y' 1 1 hx' hy' (ga.kid hx') (gb.kid hy') (by omega) sErr (by decide) A B A' B' ca cb ca' cb' W h1 h2 h3)
  have HA := Lib.hid hat
  have HB := Lib.hid hbt
  have HT := Lib.hid ht
  have HRO : RsnOk 10000000 (preR sOk (Ty.why n x y)) := ((Ty.why_small (by omega) (ga.kid hx) (gb.kid hy)).pre (show sOk.size ≤ 3 by decide)).mono (by omega)
  generalize preR sOk (Ty.why n x y) = R at *
  generalize preR sErr (Ty.why n x' y') = R' at *
  clear IH ga gb hat hbt ht la lb hx hy hx' hy' hn hka hkb
  cases R with
  | some v =>
    obtain ⟨z, p⟩ := v
    obtain ⟨⟨z1, z2⟩, z3⟩ := HRO z p rfl
    replace CK := Lib.hid (fun W h1 h2 h3 => (CK.out W h1 h2 h3).mono fun _ _ j => j.some_)
    have ez : (z == 0) = false := by rw [beq_eq_false_iff_ne]; omega
    have ez' : (z != 0) = true := by rw [bne_iff_ne]; omega
    clear HRO CK'
    go_enter Tryz.func71, Tryz.ntmps71
    go_wp2_with fail
    go_at_call 87
    refine (CK.out _ (HA.out.keep (Kp.below (below2 _ _ _)).1) (HB.out.keep (Kp.below (below2 _ _ _)).1) (HT.out.keep (below2 _ _ _))).mono ?_
    rintro e w2 ⟨rfl, hb2⟩
    have p0 := keepCell (a := ⟨w.heap.size, 0, none⟩) (v := .int .i64 a.kind) hb2 (by go_simp)
    have p1 := keepCell (a := ⟨w.heap.size, 1, none⟩) (v := .string a.name) hb2 (by go_simp)
    have p2 := keepCell (a := ⟨w.heap.size, 2, none⟩) (v := .slice A a.labels.length ca) hb2 (by go_simp)
    have p3 := keepCell (a := ⟨w.heap.size, 3, none⟩) (v := .slice B a.kids.length cb) hb2 (by go_simp)
    have p4 := keepCell (a := ⟨w.heap.size, 4, none⟩) (v := .int .i64 b.kind) hb2 (by go_simp)
    have p5 := keepCell (a := ⟨w.heap.size, 5, none⟩) (v := .string b.name) hb2 (by go_simp)
    have p6 := keepCell (a := ⟨w.heap.size, 6, none⟩) (v := .slice A' b.labels.length ca') hb2 (by go_simp)
    have p7 := keepCell (a := ⟨w.heap.size, 7, none⟩) (v := .slice B' b.kids.length cb') hb2 (by go_simp)
    have r0 := keepCell (a := ⟨w.heap.size + 1, 0, none⟩) (v := .int .i64 0) hb2 (by go_simp)
    have r1 := keepCell (a := ⟨w.heap.size + 1, 1, none⟩) (v := .string ⟨#[]⟩) hb2 (by go_simp)
    have rf0 : w2.frozen? ⟨w.heap.size + 1, 0, none⟩ = false := ((bcell hb2).2 _ _ (by first | (simp; done) | (simp; omega))).trans (by go_simp)
    have rf1 : w2.frozen? ⟨w.heap.size + 1, 1, none⟩ = false := ((bcell hb2).2 _ _ (by first | (simp; done) | (simp; omega))).trans (by go_simp)
    have hz2 : w.heap.size + 1 < w2.heap.size := World.block_lt_of_cell? w2 _ r0
    have HB2 := Lib.hid (bnext (below2 _ _ _) hb2)
    clear hb2 CK
    go_wp2_with fail
    refine bodyPost_ret (v := .agg #[.int .i64 z, .string p]) (by simp [results, Tryz.results71, go_sem, r0, r1, hz2]) rfl ⟨rfl, by (first | (with_reducible exact (bnext HB2.out (below1 _ _))) | ((with_reducible refine Below.setCell (Below.setCell ((bnext HB2.out (below1 _ _))) ?_ _) ?_ _) <;> (first | exact Nat.le_refl _ | exact Nat.le_add_right _ _ | (dsimp only; omega) | (simp; omega))) | ((with_reducible refine Below.alloc (Below.setCell (Below.setCell (HB2.out) ?_ _) ?_ _) ?_ _) <;> (first | (first | exact Nat.le_refl _ | exact Nat.le_add_right _ _ | (dsimp only; omega) | (simp; omega)) | (simp only [World.setCell_size]; omega) | (simp; have := hz3; omega))))⟩
  | none =>
    replace CK := Lib.hid (fun W h1 h2 h3 => (CK.out W h1 h2 h3).mono fun _ _ j => j.none_)
    clear HRO
    go_enter Tryz.func71, Tryz.ntmps71
    go_wp2_with fail
    go_at_call 87
    refine (CK.out _ (HA.out.keep (Kp.below (below2 _ _ _)).1) (HB.out.keep (Kp.below (below2 _ _ _)).1) (HT.out.keep (below2 _ _ _))).mono ?_
    rintro e w2 ⟨rfl, hb2⟩
    have p0 := keepCell (a := ⟨w.heap.size, 0, none⟩) (v := .int .i64 a.kind) hb2 (by go_simp)
    have p1 := keepCell (a := ⟨w.heap.size, 1, none⟩) (v := .string a.name) hb2 (by go_simp)
    have p2 := keepCell (a := ⟨w.heap.size, 2, none⟩) (v := .slice A a.labels.length ca) hb2 (by go_simp)
    have p3 := keepCell (a := ⟨w.heap.size, 3, none⟩) (v := .slice B a.kids.length cb) hb2 (by go_simp)
    have p4 := keepCell (a := ⟨w.heap.size, 4, none⟩) (v := .int .i64 b.kind) hb2 (by go_simp)
    have p5 := keepCell (a := ⟨w.heap.size, 5, none⟩) (v := .string b.name) hb2 (by go_simp)
    have p6 := keepCell (a := ⟨w.heap.size, 6, none⟩) (v := .slice A' b.labels.length ca') hb2 (by go_simp)
    have p7 := keepCell (a := ⟨w.heap.size, 7, none⟩) (v := .slice B' b.kids.length cb') hb2 (by go_simp)
    have r0 := keepCell (a := ⟨w.heap.size + 1, 0, none⟩) (v := .int .i64 0) hb2 (by go_simp)
    have r1 := keepCell (a := ⟨w.heap.size + 1, 1, none⟩) (v := .string ⟨#[]⟩) hb2 (by go_simp)
    have rf0 : w2.frozen? ⟨w.heap.size + 1, 0, none⟩ = false := ((bcell hb2).2 _ _ (by first | (simp; done) | (simp; omega))).trans (by go_simp)
    have rf1 : w2.frozen? ⟨w.heap.size + 1, 1, none⟩ = false := ((bcell hb2).2 _ _ (by first | (simp; done) | (simp; omega))).trans (by go_simp)
    have hz2 : w.heap.size + 1 < w2.heap.size := World.block_lt_of_cell? w2 _ r0
    have HB2 := Lib.hid (bnext (below2 _ _ _) hb2)
    have hz2' : w.heap.size < w2.heap.size := by omega
    clear hb2 CK
    go_wp2_with fail
    go_at_call 87
    refine (CK'.out _ (HA.out.keep (Kp.below (bnext HB2.out (below1 _ _))).1) (HB.out.keep (Kp.below (bnext HB2.out (below1 _ _))).1) (HT.out.keep (bnext HB2.out (below1 _ _)))).mono ?_
    rintro e w3 ⟨rfl, hb3⟩
    have r0' := keepCell hb3 (keepCell (below1 _ _) r0)
    have r1' := keepCell hb3 (keepCell (below1 _ _) r1)
    have rf0' : w3.frozen? ⟨w.heap.size + 1, 0, none⟩ = false := ((bcell hb3).2 _ _ (by first | (simp; omega) | omega)).trans (by go_simp)
    have rf1' : w3.frozen? ⟨w.heap.size + 1, 1, none⟩ = false := ((bcell hb3).2 _ _ (by first | (simp; omega) | omega)).trans (by go_simp)
    have hz3 : w.heap.size + 1 < w3.heap.size := World.block_lt_of_cell? w3 _ r0'
    have HB3 := Lib.hid (bnext (bnext HB2.out (below1 _ _)) hb3)
    clear hb3 CK' p0 p1 p2 p3 p4 p5 p6 p7 r0 r1 rf0 rf1
    go_wp2_with fail
    refine bodyPost_ret (v := .agg #[.int .i64 (rk R'), .string (ra R')]) (by simp [results, Tryz.results71, go_sem, r0', r1']) rfl ⟨rfl, by (first | (with_reducible exact HB3.out) | ((with_reducible refine Below.setCell (HB3.out) ?_ _) <;> (first | exact Nat.le_refl _ | exact Nat.le_add_right _ _ | (dsimp only; omega) | (simp; omega))) | ((with_reducible refine Below.setCell (Below.setCell (HB3.out) ?_ _) ?_ _) <;> (first | exact Nat.le_refl _ | exact Nat.le_add_right _ _ | (dsimp only; omega) | (simp; omega))) | ((with_reducible refine Below.setCell (Below.setCell (Below.setCell (HB3.out) ?_ _) ?_ _) ?_ _) <;> (first | exact Nat.le_refl _ | exact Nat.le_add_right _ _ | (dsimp only; omega) | (simp; omega))))⟩
end Go.Proofs.YtifchfecfkdjlaaGreatDoor

namespace Go.Proofs.YtifchfecfkdjlaaGreatDoor
open Go.ChangeShapes Go.WideShapes Go.ChangeAt Go.RowKit Go.Deep

theorem says_valW {p : Prop} {w : World} {e : Ending} {w' : World} (h : SaysB p w e w') {v : Bool} (hv : v = true ↔ p) : e = .returned (.bool v) ∧ Below w.heap.size w w' := by
  obtain ⟨u, rfl, hu, hb⟩ := h
  obtain rfl : u = v := Bool.eq_iff_iff.mpr (hu.trans hv.symm)
  exact ⟨rfl, hb⟩
theorem dec_valW (p : Prop) : ∃ v : Bool, v = true ↔ p := by
  by_cases h : p
  · exact ⟨true, iffT h⟩
  · exact ⟨false, iffF h⟩

set_option maxHeartbeats 4000000 in
set_option maxRecDepth 100000 in
theorem transfers_any (n : Nat) (hn : n ≤ 3) (a b : Ty) (ga : Gd (n + 1) a) (gb : Gd (n + 1) b) (hka : a.kind = 22 ∨ a.kind = 23) (hkb : b.kind = 22 ∨ b.kind = 23) (A B A' B' : Option Addr) (ca cb ca' cb' : Nat) (w : World) (hat : Ty.Pl w 0 a A B) (hbt : Ty.Pl w 0 b A' B') :
    Calls Tryz.prog 76 #[.agg #[.int .i64 a.kind, .string a.name, .slice A a.labels.length ca, .slice B a.kids.length cb, .int .i64 b.kind, .string b.name, .slice A' b.labels.length ca', .slice B' b.kids.length cb']] w (RsnPost (if Ty.eqsB a.kids b.kids = true then none else some (3, sE)) w) := by
  have la := ga.shape.one (by omega)
  have lb := gb.shape.one (by omega)
  obtain ⟨x, hx⟩ : ∃ x, a.kids = [x] := List.length_eq_one_iff.mp la
  obtain ⟨y, hy⟩ : ∃ y, b.kids = [y] := List.length_eq_one_iff.mp lb
  obtain ⟨b1, o1, x', A1, B1, c1, d1, rfl, hb1, hx', hc⟩ := hat.rowP.at_ (k := 0) (by omega)
  obtain ⟨b2, o2, y', A2, B2, c2, d2, rfl, hb2, hy', hd⟩ := hbt.rowP.at_ (k := 0) (by omega)
  rw [hx] at hx'
  rw [hy] at hy'
  obtain rfl : x = x' := by simpa using hx'
  obtain rfl : y = y' := by simpa using hy'
  have gx := ga.kid (i := 0) (t := x) (by rw [hx]; rfl)
  have gy := gb.kid (i := 0) (t := y) (by rw [hy]; rfl)
  obtain ⟨v, hv⟩ := dec_valW (SameOk x y 1)
  have CS := Lib.hid (fun W h1 h2 => (implSameType_any x y gx.1 gy.1 A1 B1 A2 B2 c1 d1 c2 d2 W h1 h2).mono fun _ _ j => says_valW j hv)
  have HV : Hid ((if Ty.eqsB a.kids b.kids = true then none else some (3, sE)) = (if v = true then none else some ((3 : Int), sE))) := Lib.hid (by
    have h1 : Ty.eqsB a.kids b.kids = true ↔ v = true := by
      rw [Ty.eqsB_iff, hx, hy, hv]
      unfold SameOk
      constructor
      · intro h
        injection h with h
        exact ⟨h, by have := gx.2.2.1; omega⟩
      · rintro ⟨h, _⟩
        rw [h]
    by_cases h : v = true
    · rw [if_pos h, if_pos (h1.mpr h)]
    · rw [if_neg h, if_neg (fun h2 => h (h1.mp h2))])
  have HX := Lib.hid hc.tree
  have HY := Lib.hid hd.tree
  have l1 : b1 < w.heap.size := World.block_lt_of_cell? w _ hc.kind
  have l2 : b2 < w.heap.size := World.block_lt_of_cell? w _ hd.kind
  obtain ⟨c0, c1h, c2h, c3, _⟩ := hc
  obtain ⟨e0, e1, e2, e3, _⟩ := hd
  simp only [Nat.zero_mul, Nat.add_zero] at c0 c1h c2h c3 e0 e1 e2 e3
  rw [HV.out]
  obtain ⟨R, hR⟩ : ∃ R, (if v = true then none else some ((3 : Int), sE)) = R := ⟨_, rfl⟩
  rw [hR]
  have HR := Lib.hid hR
  have q1 : 0 < a.kids.length := by omega
  have q2 : 0 < b.kids.length := by omega
  clear ga gb gx gy hx hy hx' hy' hat hbt hb1 hb2 hv hn hka hkb HV la lb hR
  go_enter Tryz.func76, Tryz.ntmps76
  go_wp2_with fail
  obtain ⟨W, hW, hb, hz, p0, p1, r0, r1, rf⟩ : ∃ W, ((w.alloc (.cells #[.int .i64 a.kind, .string a.name, .slice A a.labels.length ca, .slice (some ⟨b1, o1, none⟩) a.kids.length cb, .int .i64 b.kind, .string b.name, .slice A' b.labels.length ca', .slice (some ⟨b2, o2, none⟩) b.kids.length cb'] 73)).alloc (.cells #[.int .i64 0, .string ⟨#[]⟩] 34)) = W ∧ Below w.heap.size w W ∧ W.heap.size = w.heap.size + 1 + 1 ∧ W.cell? ⟨w.heap.size, 3, none⟩ = some (.slice (some ⟨b1, o1, none⟩) a.kids.length cb) ∧ W.cell? ⟨w.heap.size, 7, none⟩ = some (.slice (some ⟨b2, o2, none⟩) b.kids.length cb') ∧ W.cell? ⟨w.heap.size + 1, 0, none⟩ = some (.int .i64 0) ∧ W.cell? ⟨w.heap.size + 1, 1, none⟩ = some (.string ⟨#[]⟩) ∧ ∀ o, W.frozen? ⟨w.heap.size + 1, o, none⟩ = false := ⟨_, rfl, below2 _ _ _, by simp, by go_simp, by go_simp, by go_simp, by go_simp, fun o => by go_simp⟩
  rw [hW]
  have hz' : w.heap.size + 1 < W.heap.size := by omega
  replace c0 := keepCell hb c0; replace c1h := keepCell hb c1h; replace c2h := keepCell hb c2h; replace c3 := keepCell hb c3; replace e0 := keepCell hb e0; replace e1 := keepCell hb e1; replace e2 := keepCell hb e2; replace e3 := keepCell hb e3
  replace HX := Lib.hid (HX.out.keep (Kp.below hb).1)
  replace HY := Lib.hid (HY.out.keep (Kp.below hb).1)
  have HB := Lib.hid hb
  have RF := Lib.hid rf
  clear hW hb rf
  go_region_held3 (fun w' => w'.cell? ⟨w.heap.size, 3, none⟩ = some (.slice (some ⟨b1, o1, none⟩) a.kids.length cb) ∧ w'.cell? ⟨w.heap.size, 7, none⟩ = some (.slice (some ⟨b2, o2, none⟩) b.kids.length cb') ∧ w'.cell? ⟨b1, o1, none⟩ = some (.int .i64 x.kind) ∧ w'.cell? ⟨b1, o1 + 1, none⟩ = some (.string x.name) ∧ w'.cell? ⟨b1, o1 + 2, none⟩ = some (.slice A1 x.labels.length c1) ∧ w'.cell? ⟨b1, o1 + 3, none⟩ = some (.slice B1 x.kids.length d1) ∧ w'.cell? ⟨b2, o2, none⟩ = some (.int .i64 y.kind) ∧ w'.cell? ⟨b2, o2 + 1, none⟩ = some (.string y.name) ∧ w'.cell? ⟨b2, o2 + 2, none⟩ = some (.slice A2 y.labels.length c2) ∧ w'.cell? ⟨b2, o2 + 3, none⟩ = some (.slice B2 y.kids.length d2))
    (first | assumption | (exact ⟨p0, p1, c0, c1h, c2h, c3, e0, e1, e2, e3⟩) | (refine ⟨?_, ?_, ?_, ?_, ?_, ?_, ?_, ?_, ?_, ?_⟩ <;> assumption))
    (first
      | (go_at_call 90; refine (CS.out _ (HX.out.keep (Kp.below (Below.refl _ _).drew).1) (HY.out.keep (Kp.below (Below.refl _ _).drew).1)).mono ?_; rintro e w3 ⟨rfl, hb3⟩; have hbw : Below W.heap.size W w3 := (Below.refl W.heap.size W).drew.trans hb3; have up0 := keepCell hbw p0; have up1 := keepCell hbw p1; have uc0 := keepCell hbw c0; have uc1h := keepCell hbw c1h; have uc2h := keepCell hbw c2h; have uc3 := keepCell hbw c3; have ue0 := keepCell hbw e0; have ue1 := keepCell hbw e1; have ue2 := keepCell hbw e2; have ue3 := keepCell hbw e3; have ur0 := keepCell hbw r0; have ur1 := keepCell hbw r1; have uf0 : w3.frozen? ⟨w.heap.size + 1, 0, none⟩ = false := ((bcell hbw).2 _ _ (by omega)).trans (RF.out _); have uf1 : w3.frozen? ⟨w.heap.size + 1, 1, none⟩ = false := ((bcell hbw).2 _ _ (by omega)).trans (RF.out _)))
  have hz3 : w.heap.size + 1 < w3.heap.size := World.block_lt_of_cell? w3 _ ur0
  have HB3 := Lib.hid (bnext HB.out hbw)
  clear hbw hb3 p0 p1 c0 c1h c2h c3 e0 e1 e2 e3 r0 r1 CS
  cases v with
  | true =>
    go_wp2_with fail
    refine bodyPost_ret (v := .agg #[.int .i64 0, .string ⟨#[]⟩]) (by simp [results, Tryz.results76, go_sem, ur0, ur1]) rfl ⟨by rw [← HR.out]; rfl, by (first | (with_reducible exact HB3.out) | ((with_reducible refine Below.setCell (HB3.out) ?_ _) <;> (first | exact Nat.le_refl _ | exact Nat.le_add_right _ _ | (dsimp only; omega) | (simp; omega))) | ((with_reducible refine Below.setCell (Below.setCell (HB3.out) ?_ _) ?_ _) <;> (first | exact Nat.le_refl _ | exact Nat.le_add_right _ _ | (dsimp only; omega) | (simp; omega))) | ((with_reducible refine Below.setCell (Below.setCell (Below.setCell (HB3.out) ?_ _) ?_ _) ?_ _) <;> (first | exact Nat.le_refl _ | exact Nat.le_add_right _ _ | (dsimp only; omega) | (simp; omega))))⟩
  | false =>
    go_wp2_with fail
    refine bodyPost_ret (v := .agg #[.int .i64 3, .string ⟨#[]⟩]) (by simp [results, Tryz.results76, go_sem, ur0, ur1]) rfl ⟨by rw [← HR.out]; rfl, by (first | (with_reducible exact HB3.out) | ((with_reducible refine Below.setCell (HB3.out) ?_ _) <;> (first | exact Nat.le_refl _ | exact Nat.le_add_right _ _ | (dsimp only; omega) | (simp; omega))) | ((with_reducible refine Below.setCell (Below.setCell (HB3.out) ?_ _) ?_ _) <;> (first | exact Nat.le_refl _ | exact Nat.le_add_right _ _ | (dsimp only; omega) | (simp; omega))) | ((with_reducible refine Below.setCell (Below.setCell (Below.setCell (HB3.out) ?_ _) ?_ _) ?_ _) <;> (first | exact Nat.le_refl _ | exact Nat.le_add_right _ _ | (dsimp only; omega) | (simp; omega))))⟩
end Go.Proofs.YtifchfecfkdjlaaGreatDoor

