/-
  TyPartsIn, TyOkI, ListChoose, TyOpen, TyIn: in one text.
-/
import Derived.Test.YtifchfecfkdjlaaGreatDoorMTyA
import Derived.Test.YtifchfecfkdjlaaGreatDoorTyParts
import Derived.Test.YtifchfecfkdjlaaGreatDoorBase
import Derived.Test.YtifchfecfkdjlaaGreatDoorTy
namespace Go.Proofs.YtifchfecfkdjlaaGreatDoor
open Go.ChangeShapes Go.WideShapes Go.ChangeAt Go.RowKit Go.Deep

theorem flat_get : ∀ (tvs : List TV) (i j : Nat) (x : TV), tvs[i]? = some x → j < 4 → (tvs.flatMap TV.cells)[i * 4 + j]? = x.cells[j]?
  | [], i, j, x, h, _ => by simp at h
  | y :: ys, 0, j, x, h, hj => by
    simp at h
    subst h
    rw [List.flatMap_cons, Nat.zero_mul, Nat.zero_add, List.getElem?_append_left (by simpa [TV.cells] using hj)]
  | y :: ys, i + 1, j, x, h, hj => by
    have := flat_get ys i j x (by simpa using h) hj
    rw [List.flatMap_cons, List.getElem?_append_right (by simp [TV.cells]; omega), ← this]
    congr 1
    simp [TV.cells]
    omega

mutual
theorem Ty.sound_parts : ∀ T : Ty, T.Sound ↔ ∀ x ∈ T.parts, ShapeOk x
  | .mk k n l ks => by
    rw [Ty.Sound, Ty.parts, Ty.sounds_parts ks]
    simp
theorem Ty.sounds_parts : ∀ ks : List Ty, Ty.Sounds ks ↔ ∀ x ∈ Ty.partss ks, ShapeOk x
  | [] => by simp [Ty.Sounds, Ty.partss]
  | t :: ts => by
    rw [Ty.Sounds, Ty.partss, Ty.sound_parts t, Ty.sounds_parts ts]
    simp only [List.mem_append]
    constructor
    · rintro ⟨h1, h2⟩ x (hx | hx)
      · exact h1 x hx
      · exact h2 x hx
    · intro h
      exact ⟨fun x hx => h x (Or.inl hx), fun x hx => h x (Or.inr hx)⟩
end
mutual
theorem Ty.wt_parts : ∀ T : Ty, ∀ x ∈ T.parts, x.wt ≤ T.wt
  | .mk k n l ks => by
    intro x hx
    rw [Ty.parts] at hx
    rcases List.mem_cons.1 hx with rfl | hx
    · exact Int.le_refl _
    · have h1 := Ty.wts_parts ks x hx
      have h2 := sumSz_nonneg l
      rw [Ty.wt]
      omega
theorem Ty.wts_parts : ∀ ks : List Ty, ∀ x ∈ Ty.partss ks, x.wt ≤ Ty.wts ks
  | [] => by simp [Ty.partss]
  | t :: ts => by
    intro x hx
    rw [Ty.partss] at hx
    have h0 := t.wt_nonneg
    have h3 := Ty.wts_nonneg ts
    rw [Ty.wts]
    rcases List.mem_append.1 hx with hx | hx
    · have := Ty.wt_parts t x hx
      omega
    · have := Ty.wts_parts ts x hx
      omega
end

/-- What partsIn leaves: the parts in a new slice, or none. -/
def PInYes (T : Ty) (lo : Nat) (w : World) (e : Ending) (w' : World) : Prop := ∃ (g cap : Nat) (tvs : List TV), e = .returned (.slice (some ⟨g, 0, none⟩) T.size cap) ∧ w.heap.size ≤ g ∧ (∀ (i : Nat) (x : TV), tvs[i]? = some x → w'.cell? ⟨g, i * 4, none⟩ = some (.int .i64 x.t.kind) ∧ w'.cell? ⟨g, i * 4 + 1, none⟩ = some (.string x.t.name) ∧ w'.cell? ⟨g, i * 4 + 2, none⟩ = some (.slice x.A x.t.labels.length x.ca) ∧ w'.cell? ⟨g, i * 4 + 3, none⟩ = some (.slice x.B x.t.kids.length x.cb)) ∧ PartsAt w' lo T.parts tvs ∧ Below w.heap.size w w'
def PInNo (w : World) (e : Ending) (w' : World) : Prop := e = .returned (.slice none 0 0) ∧ Below w.heap.size w w'
def PInPost (T : Ty) (lo : Nat) (w : World) (e : Ending) (w' : World) : Prop := (T.Ok → PInYes T lo w e w') ∧ (¬ T.Ok → PInNo w e w')

theorem fitsM1 {T : Ty} : FitsM T 1 0 ↔ T.fits 1 := by
  unfold FitsM Ty.fits
  omega

theorem partsIn_no (T : Ty) (lo : Nat) (hT : T.wt ≤ 1048576) (A B : Option Addr) (ca cb : Nat) (w : World) (hat : Ty.At w lo T A B) (hf : ¬ T.fits 1) :
    Calls Tryz.prog 41 #[.agg #[.int .i64 T.kind, .string T.name, .slice A T.labels.length ca, .slice B T.kids.length cb]] w (PInPost T lo w) := by
  have C : Hid (Calls Tryz.prog 63 #[.slice none 0 0, .agg #[.int .i64 T.kind, .string T.name, .slice A T.labels.length ca, .slice B T.kids.length cb], .int .i64 1] (w.alloc (.cells #[.int .i64 T.kind, .string T.name, .slice A T.labels.length ca, .slice B T.kids.length cb] 30)) (AddNo w)) := Lib.hid ((addParts_any w lo T hT 1 0 (by omega) (by omega) (by omega) A B ca cb hat none 0 [] _ (World.ownsRow_nil _ _ _ _) (below1 _ _)).mono fun _ _ h => h.2 (fun h1 => hf (fitsM1.mp h1)))
  have HF := Lib.hid hf
  clear hat hf
  go_enter Tryz.func41, Tryz.ntmps41
  go_wp2_with fail
  go_at_call 63
  refine C.out.mono ?_
  rintro e w2 ⟨rfl, hb⟩
  have HB := Lib.hid hb
  clear hb C
  go_wp2_with fail
  go_ret
  exact ⟨fun h => absurd h.1 HF.out, fun _ => ⟨rfl, HB.out⟩⟩

set_option maxHeartbeats 4000000 in
set_option maxRecDepth 100000 in
theorem partsIn_fits (T : Ty) (lo : Nat) (hT : T.wt ≤ 1048576) (A B : Option Addr) (ca cb : Nat) (w : World) (hat : Ty.At w lo T A B) (hm : MaxC w) (hf : T.fits 1) :
    Calls Tryz.prog 41 #[.agg #[.int .i64 T.kind, .string T.name, .slice A T.labels.length ca, .slice B T.kids.length cb]] w (PInPost T lo w) := by
  have C : Hid (Calls Tryz.prog 63 #[.slice none 0 0, .agg #[.int .i64 T.kind, .string T.name, .slice A T.labels.length ca, .slice B T.kids.length cb], .int .i64 1] (w.alloc (.cells #[.int .i64 T.kind, .string T.name, .slice A T.labels.length ca, .slice B T.kids.length cb] 30)) (AddYes w lo T 0 [])) := Lib.hid ((addParts_any w lo T hT 1 0 (by omega) (by omega) (by omega) A B ca cb hat none 0 [] _ (World.ownsRow_nil _ _ _ _) (below1 _ _)).mono fun _ _ h => h.1 (fitsM1.mpr hf))
  have HF := Lib.hid hf
  have HM := Lib.hid hm
  have HWT := Lib.hid (fun x hx => Int.le_trans (Ty.wt_parts T x hx) hT)
  have HSP := Lib.hid (Ty.sound_parts T)
  have HPL := Lib.hid T.parts_length
  have hsz : T.size ≤ 24 := hf.2
  have hsp := T.size_pos
  clear hat hf hm hT
  go_enter Tryz.func41, Tryz.ntmps41
  go_wp2_with fail
  go_at_call 63
  refine C.out.mono ?_
  rintro e w2 ⟨R, cap, tvs, rfl, hown, hpat, hb⟩
  rw [Nat.zero_add] at hown
  obtain ⟨g, hR, hge, hlt⟩ : ∃ g, R = some ⟨g, 0, none⟩ ∧ w.heap.size ≤ g ∧ g < w2.heap.size := by
    rcases hown.2 with ⟨e1, e2⟩ | ⟨g, cap', cur, e1, e2, e3, _⟩
    · omega
    · injection e1 with e4
      exact ⟨g, e4, e2, (Array.getElem?_eq_some_iff.1 e3).1⟩
  subst hR
  have hlen : tvs.length = T.size := by rw [← HPL.out, ← hpat.1, List.length_map]
  have hcell : ∀ (i : Nat) (x : TV), tvs[i]? = some x → w2.cell? ⟨g, i * 4, none⟩ = some (.int .i64 x.t.kind) ∧ w2.cell? ⟨g, i * 4 + 1, none⟩ = some (.string x.t.name) ∧ w2.cell? ⟨g, i * 4 + 2, none⟩ = some (.slice x.A x.t.labels.length x.ca) ∧ w2.cell? ⟨g, i * 4 + 3, none⟩ = some (.slice x.B x.t.kids.length x.cb) := by
    intro i x hx
    have hi := (List.getElem?_eq_some_iff.1 hx).1
    have k : ∀ j, j < 4 → w2.cell? ⟨g, i * 4 + j, none⟩ = x.cells[j]? := fun j hj => by
      rw [hown.cellAt (i * 4 + j) (by omega), List.nil_append]
      exact flat_get tvs i j x hx hj
    exact ⟨k 0 (by omega), k 1 (by omega), k 2 (by omega), k 3 (by omega)⟩
  have HC := Lib.hid hcell
  have HP := Lib.hid hpat
  have HB := Lib.hid hb
  have HL := Lib.hid hlen
  have HGE := Lib.hid hge
  rw [Nat.zero_add]
  clear hown hcell hpat hb C hlen hge hlt
  go_wp2_with fail
  go_loopw [16] (fun i wr => ∃ j : Nat, j ≤ T.size ∧ i = .int .i64 j ∧ Hid (∀ (i : Nat) (x : TV), i < j → tvs[i]? = some x → ShapeOk x.t) ∧ Below w2.heap.size w2 wr) (fun i _ => T.size - (intOf i).toNat)
  case atStart => exact ⟨0, Nat.zero_le _, rfl, (fun i x hi => by omega), Below.refl _ _⟩
  case round =>
    obtain ⟨j, hj, rfl, hno, hbel⟩ := hrel
    by_cases hjn : j < T.size
    · obtain ⟨x, hx⟩ : ∃ x, tvs[j]? = some x := ⟨_, List.getElem?_eq_getElem (by have := HL.out; omega)⟩
      obtain ⟨a0, a1, a2, a3⟩ := HC.out j x hx
      have c0 := keepCell hbel a0
      have c1 := keepCell hbel a1
      have c2 := keepCell hbel a2
      have c3 := keepCell hbel a3
      have lb := World.block_lt_of_cell? wr _ c0
      have hmem : x.t ∈ T.parts := by rw [← HP.out.1]; exact List.mem_map_of_mem (List.mem_of_getElem? hx)
      have hxw := HWT.out x.t hmem
      have hBW := bnext HB.out hbel
      have hxat : Ty.At wr lo x.t x.A x.B := (HP.out.2 x (List.mem_of_getElem? hx)).below hBW
      have HXA := Lib.hid hxat
      have HX := Lib.hid hx
      have HBW := Lib.hid hBW
      have HBR := Lib.hid hbel
      have HMEM := Lib.hid hmem
      clear a0 a1 a2 a3 hx hxat hBW hbel hmem
      by_cases hk : IsAng x.t.kind
      · by_cases hok : ShapeOk x.t
        · have CN := Lib.hid (fun W => nodeOf_12 x.t.name x.A x.B x.t.labels.length x.t.kids.length x.ca x.cb x.t.kind hk W)
          have hmt := fun W => method_angle (.agg #[.int .i64 x.t.kind, .string x.t.name, .slice x.A x.t.labels.length x.ca, .slice x.B x.t.kids.length x.cb]) W
          have CS : Hid (∀ W : World, Below wr.heap.size wr W → Calls Tryz.prog 153 #[.agg #[.int .i64 x.t.kind, .string x.t.name, .slice x.A x.t.labels.length x.ca, .slice x.B x.t.kids.length x.cb]] W fun e w' => e = .returned (.bool true) ∧ Below W.heap.size W w') := Lib.hid (fun W hW => (angle_any x.t hxw hk x.A x.B x.ca x.cb lo W (HXA.out.below hW) (HM.out.keep (bnext HBW.out hW))).mono fun _ _ k => k.yes hok)
          have HOK := Lib.hid hok
          clear hok
          go_wp2_with (first
            | (go_at_call 64; (with_reducible refine (CN.out _).mono ?_); rintro e w3 ⟨rfl, hb3⟩; have HB3 := Lib.hid (bnext (below1 wr _) hb3); clear hb3)
            | (go_at_call 153; (with_reducible refine (CS.out _ HB3.out).mono ?_); rintro e w4 ⟨rfl, hb4⟩; have HB4 := Lib.hid (bnext HB3.out hb4); clear hb4))
          go_roundw
          case rel =>
            refine ⟨j + 1, by omega, by go_num, fun i y hi hy => ?_, bnext HBR.out HB4.out⟩
            by_cases e : i = j
            · subst e
              have e2 := HX.out.symm.trans hy
              cases e2
              exact HOK.out
            · exact hno.out i y (by omega) hy
          case measure => simp [intOf]; omega
        · have CN := Lib.hid (fun W => nodeOf_12 x.t.name x.A x.B x.t.labels.length x.t.kids.length x.ca x.cb x.t.kind hk W)
          have hmt := fun W => method_angle (.agg #[.int .i64 x.t.kind, .string x.t.name, .slice x.A x.t.labels.length x.ca, .slice x.B x.t.kids.length x.cb]) W
          have CS : Hid (∀ W : World, Below wr.heap.size wr W → Calls Tryz.prog 153 #[.agg #[.int .i64 x.t.kind, .string x.t.name, .slice x.A x.t.labels.length x.ca, .slice x.B x.t.kids.length x.cb]] W fun e w' => e = .returned (.bool false) ∧ Below W.heap.size W w') := Lib.hid (fun W hW => (angle_any x.t hxw hk x.A x.B x.ca x.cb lo W (HXA.out.below hW) (HM.out.keep (bnext HBW.out hW))).mono fun _ _ k => k.no hok)
          have HOK := Lib.hid hok
          clear hok
          go_wp2_with (first
            | (go_at_call 64; (with_reducible refine (CN.out _).mono ?_); rintro e w3 ⟨rfl, hb3⟩; have HB3 := Lib.hid (bnext (below1 wr _) hb3); clear hb3)
            | (go_at_call 153; (with_reducible refine (CS.out _ HB3.out).mono ?_); rintro e w4 ⟨rfl, hb4⟩; have HB4 := Lib.hid (bnext HB3.out hb4); clear hb4))
          go_ret
          exact ⟨fun h => absurd (HSP.out.mp h.2 x.t HMEM.out) HOK.out, fun _ => ⟨rfl, bnext HB.out (bnext HBR.out HB4.out)⟩⟩
      by_cases hk2 : IsLab x.t.kind
      · by_cases hok : ShapeOk x.t
        · have CN := Lib.hid (fun W => nodeOf_16 x.t.name x.A x.B x.t.labels.length x.t.kids.length x.ca x.cb x.t.kind (by unfold IsLab at hk2; omega) W)
          have hmt := fun W => method_label (.agg #[.int .i64 x.t.kind, .string x.t.name, .slice x.A x.t.labels.length x.ca, .slice x.B x.t.kids.length x.cb]) W
          have CS : Hid (∀ W : World, Below wr.heap.size wr W → Calls Tryz.prog 156 #[.agg #[.int .i64 x.t.kind, .string x.t.name, .slice x.A x.t.labels.length x.ca, .slice x.B x.t.kids.length x.cb]] W fun e w' => e = .returned (.bool true) ∧ Below W.heap.size W w') := Lib.hid (fun W hW => (soundLab_any x.t hxw hk2 x.A x.B x.ca x.cb lo W (HXA.out.below hW) (HM.out.keep (bnext HBW.out hW))).mono fun _ _ k => k.yes hok)
          have HOK := Lib.hid hok
          clear hok
          go_wp2_with (first
            | (go_at_call 64; (with_reducible refine (CN.out _).mono ?_); rintro e w3 ⟨rfl, hb3⟩; have HB3 := Lib.hid (bnext (below1 wr _) hb3); clear hb3)
            | (go_at_call 156; (with_reducible refine (CS.out _ HB3.out).mono ?_); rintro e w4 ⟨rfl, hb4⟩; have HB4 := Lib.hid (bnext HB3.out hb4); clear hb4))
          go_roundw
          case rel =>
            refine ⟨j + 1, by omega, by go_num, fun i y hi hy => ?_, bnext HBR.out HB4.out⟩
            by_cases e : i = j
            · subst e
              have e2 := HX.out.symm.trans hy
              cases e2
              exact HOK.out
            · exact hno.out i y (by omega) hy
          case measure => simp [intOf]; omega
        · have CN := Lib.hid (fun W => nodeOf_16 x.t.name x.A x.B x.t.labels.length x.t.kids.length x.ca x.cb x.t.kind (by unfold IsLab at hk2; omega) W)
          have hmt := fun W => method_label (.agg #[.int .i64 x.t.kind, .string x.t.name, .slice x.A x.t.labels.length x.ca, .slice x.B x.t.kids.length x.cb]) W
          have CS : Hid (∀ W : World, Below wr.heap.size wr W → Calls Tryz.prog 156 #[.agg #[.int .i64 x.t.kind, .string x.t.name, .slice x.A x.t.labels.length x.ca, .slice x.B x.t.kids.length x.cb]] W fun e w' => e = .returned (.bool false) ∧ Below W.heap.size W w') := Lib.hid (fun W hW => (soundLab_any x.t hxw hk2 x.A x.B x.ca x.cb lo W (HXA.out.below hW) (HM.out.keep (bnext HBW.out hW))).mono fun _ _ k => k.no hok)
          have HOK := Lib.hid hok
          clear hok
          go_wp2_with (first
            | (go_at_call 64; (with_reducible refine (CN.out _).mono ?_); rintro e w3 ⟨rfl, hb3⟩; have HB3 := Lib.hid (bnext (below1 wr _) hb3); clear hb3)
            | (go_at_call 156; (with_reducible refine (CS.out _ HB3.out).mono ?_); rintro e w4 ⟨rfl, hb4⟩; have HB4 := Lib.hid (bnext HB3.out hb4); clear hb4))
          go_ret
          exact ⟨fun h => absurd (HSP.out.mp h.2 x.t HMEM.out) HOK.out, fun _ => ⟨rfl, bnext HB.out (bnext HBR.out HB4.out)⟩⟩
      by_cases hk3 : IsRes x.t.kind
      · by_cases hok : ShapeOk x.t
        · have CN := Lib.hid (fun W => nodeOf_20 x.t.name x.A x.B x.t.labels.length x.t.kids.length x.ca x.cb x.t.kind hk3 W)
          have hmt := fun W => method_handle (.agg #[.int .i64 x.t.kind, .string x.t.name, .slice x.A x.t.labels.length x.ca, .slice x.B x.t.kids.length x.cb]) W
          have CS : Hid (∀ W : World, Below wr.heap.size wr W → Calls Tryz.prog 157 #[.agg #[.int .i64 x.t.kind, .string x.t.name, .slice x.A x.t.labels.length x.ca, .slice x.B x.t.kids.length x.cb]] W fun e w' => e = .returned (.bool true) ∧ Below W.heap.size W w') := Lib.hid (fun W hW => (handle_any x.t hxw hk3 x.A x.B x.ca x.cb lo W (HXA.out.below hW) (HM.out.keep (bnext HBW.out hW))).mono fun _ _ k => k.yes hok)
          have HOK := Lib.hid hok
          clear hok
          go_wp2_with (first
            | (go_at_call 64; (with_reducible refine (CN.out _).mono ?_); rintro e w3 ⟨rfl, hb3⟩; have HB3 := Lib.hid (bnext (below1 wr _) hb3); clear hb3)
            | (go_at_call 157; (with_reducible refine (CS.out _ HB3.out).mono ?_); rintro e w4 ⟨rfl, hb4⟩; have HB4 := Lib.hid (bnext HB3.out hb4); clear hb4))
          go_roundw
          case rel =>
            refine ⟨j + 1, by omega, by go_num, fun i y hi hy => ?_, bnext HBR.out HB4.out⟩
            by_cases e : i = j
            · subst e
              have e2 := HX.out.symm.trans hy
              cases e2
              exact HOK.out
            · exact hno.out i y (by omega) hy
          case measure => simp [intOf]; omega
        · have CN := Lib.hid (fun W => nodeOf_20 x.t.name x.A x.B x.t.labels.length x.t.kids.length x.ca x.cb x.t.kind hk3 W)
          have hmt := fun W => method_handle (.agg #[.int .i64 x.t.kind, .string x.t.name, .slice x.A x.t.labels.length x.ca, .slice x.B x.t.kids.length x.cb]) W
          have CS : Hid (∀ W : World, Below wr.heap.size wr W → Calls Tryz.prog 157 #[.agg #[.int .i64 x.t.kind, .string x.t.name, .slice x.A x.t.labels.length x.ca, .slice x.B x.t.kids.length x.cb]] W fun e w' => e = .returned (.bool false) ∧ Below W.heap.size W w') := Lib.hid (fun W hW => (handle_any x.t hxw hk3 x.A x.B x.ca x.cb lo W (HXA.out.below hW) (HM.out.keep (bnext HBW.out hW))).mono fun _ _ k => k.no hok)
          have HOK := Lib.hid hok
          clear hok
          go_wp2_with (first
            | (go_at_call 64; (with_reducible refine (CN.out _).mono ?_); rintro e w3 ⟨rfl, hb3⟩; have HB3 := Lib.hid (bnext (below1 wr _) hb3); clear hb3)
            | (go_at_call 157; (with_reducible refine (CS.out _ HB3.out).mono ?_); rintro e w4 ⟨rfl, hb4⟩; have HB4 := Lib.hid (bnext HB3.out hb4); clear hb4))
          go_ret
          exact ⟨fun h => absurd (HSP.out.mp h.2 x.t HMEM.out) HOK.out, fun _ => ⟨rfl, bnext HB.out (bnext HBR.out HB4.out)⟩⟩
      by_cases hok : ShapeOk x.t
      · have CN := Lib.hid (fun W => nodeOf_else x.t.name x.A x.B x.t.labels.length x.t.kids.length x.ca x.cb x.t.kind (by unfold IsAng at hk; unfold IsLab at hk2; unfold IsRes at hk3; omega) W)
        have hmt := fun W => method_plain (.agg #[.int .i64 x.t.kind, .string x.t.name, .slice x.A x.t.labels.length x.ca, .slice x.B x.t.kids.length x.cb]) W
        have CS : Hid (∀ W : World, Below wr.heap.size wr W → Calls Tryz.prog 158 #[.agg #[.int .i64 x.t.kind, .string x.t.name, .slice x.A x.t.labels.length x.ca, .slice x.B x.t.kids.length x.cb]] W fun e w' => e = .returned (.bool true) ∧ Below W.heap.size W w') := Lib.hid (fun W hW => (plain_any x.t hxw hk hk2 hk3 x.A x.B x.ca x.cb lo W (HXA.out.below hW) (HM.out.keep (bnext HBW.out hW))).mono fun _ _ k => k.yes hok)
        have HOK := Lib.hid hok
        clear hok
        go_wp2_with (first
          | (go_at_call 64; (with_reducible refine (CN.out _).mono ?_); rintro e w3 ⟨rfl, hb3⟩; have HB3 := Lib.hid (bnext (below1 wr _) hb3); clear hb3)
          | (go_at_call 158; (with_reducible refine (CS.out _ HB3.out).mono ?_); rintro e w4 ⟨rfl, hb4⟩; have HB4 := Lib.hid (bnext HB3.out hb4); clear hb4))
        go_roundw
        case rel =>
          refine ⟨j + 1, by omega, by go_num, fun i y hi hy => ?_, bnext HBR.out HB4.out⟩
          by_cases e : i = j
          · subst e
            have e2 := HX.out.symm.trans hy
            cases e2
            exact HOK.out
          · exact hno.out i y (by omega) hy
        case measure => simp [intOf]; omega
      · have CN := Lib.hid (fun W => nodeOf_else x.t.name x.A x.B x.t.labels.length x.t.kids.length x.ca x.cb x.t.kind (by unfold IsAng at hk; unfold IsLab at hk2; unfold IsRes at hk3; omega) W)
        have hmt := fun W => method_plain (.agg #[.int .i64 x.t.kind, .string x.t.name, .slice x.A x.t.labels.length x.ca, .slice x.B x.t.kids.length x.cb]) W
        have CS : Hid (∀ W : World, Below wr.heap.size wr W → Calls Tryz.prog 158 #[.agg #[.int .i64 x.t.kind, .string x.t.name, .slice x.A x.t.labels.length x.ca, .slice x.B x.t.kids.length x.cb]] W fun e w' => e = .returned (.bool false) ∧ Below W.heap.size W w') := Lib.hid (fun W hW => (plain_any x.t hxw hk hk2 hk3 x.A x.B x.ca x.cb lo W (HXA.out.below hW) (HM.out.keep (bnext HBW.out hW))).mono fun _ _ k => k.no hok)
        have HOK := Lib.hid hok
        clear hok
        go_wp2_with (first
          | (go_at_call 64; (with_reducible refine (CN.out _).mono ?_); rintro e w3 ⟨rfl, hb3⟩; have HB3 := Lib.hid (bnext (below1 wr _) hb3); clear hb3)
          | (go_at_call 158; (with_reducible refine (CS.out _ HB3.out).mono ?_); rintro e w4 ⟨rfl, hb4⟩; have HB4 := Lib.hid (bnext HB3.out hb4); clear hb4))
        go_ret
        exact ⟨fun h => absurd (HSP.out.mp h.2 x.t HMEM.out) HOK.out, fun _ => ⟨rfl, bnext HB.out (bnext HBR.out HB4.out)⟩⟩
    · have hj' : j = T.size := by omega
      have HBR := Lib.hid hbel
      clear hbel
      go_wp2_with fail
      go_ret
      have hall : ∀ y ∈ T.parts, ShapeOk y := by
        intro y hy
        rw [← HP.out.1] at hy
        obtain ⟨x, hx, rfl⟩ := List.mem_map.1 hy
        obtain ⟨i, hi⟩ := List.getElem?_of_mem hx
        have hil := (List.getElem?_eq_some_iff.1 hi).1
        exact hno.out i x (by have := HL.out; omega) hi
      refine ⟨fun _ => ⟨g, cap, tvs, rfl, HGE.out, fun i x hx => ?_, ⟨HP.out.1, fun x hx => (HP.out.2 x hx).below (bnext HB.out HBR.out)⟩, bnext HB.out HBR.out⟩, fun h => absurd ⟨HF.out, HSP.out.mpr hall⟩ h⟩
      obtain ⟨a0, a1, a2, a3⟩ := HC.out i x hx
      exact ⟨keepCell HBR.out a0, keepCell HBR.out a1, keepCell HBR.out a2, keepCell HBR.out a3⟩

theorem partsIn_any (T : Ty) (lo : Nat) (hT : T.wt ≤ 1048576) (A B : Option Addr) (ca cb : Nat) (w : World) (hat : Ty.At w lo T A B) (hm : MaxC w) :
    Calls Tryz.prog 41 #[.agg #[.int .i64 T.kind, .string T.name, .slice A T.labels.length ca, .slice B T.kids.length cb]] w (PInPost T lo w) := by
  by_cases hf : T.fits 1
  · exact partsIn_fits T lo hT A B ca cb w hat hm hf
  · exact partsIn_no T lo hT A B ca cb w hat hf

end Go.Proofs.YtifchfecfkdjlaaGreatDoor

namespace Go.Proofs.YtifchfecfkdjlaaGreatDoor
open Go.ChangeShapes Go.WideShapes Go.ChangeAt Go.RowKit Go.Deep

theorem implTypeOk_any (T : Ty) (lo : Nat) (hT : T.wt ≤ 1048576) (A B : Option Addr) (ca cb : Nat) (w : World) (hat : Ty.At w lo T A B) (hm : MaxC w) :
    Calls Tryz.prog 28 #[.agg #[.int .i64 T.kind, .string T.name, .slice A T.labels.length ca, .slice B T.kids.length cb]] w (SaysB T.Ok w) := by
  have C := partsIn_any T lo hT A B ca cb (w.alloc (.cells #[.int .i64 T.kind, .string T.name, .slice A T.labels.length ca, .slice B T.kids.length cb] 30)) (hat.below (below1 _ _)) (hm.keep (below1 _ _))
  clear hat hm hT
  by_cases ho : T.Ok
  · have C' := Lib.hid (C.mono fun _ _ h => h.1 ho)
    have HO := Lib.hid ho
    have hs : T.size ≤ 24 := ho.1.2
    have hp := T.size_pos
    have hp' : (0 : Int) < (T.size : Int) := by omega
    clear C ho
    go_enter Tryz.func28, Tryz.ntmps28
    go_wp2_with fail
    go_at_call 41
    refine C'.out.mono ?_
    rintro e w2 ⟨g, cap, tvs, rfl, _, _, _, hb⟩
    have HB := Lib.hid (bnext (below1 _ _) hb)
    clear hb C'
    go_wp2_with fail
    go_ret
    exact ⟨true, (by first | rfl | exact ret_bool (decide_eq_true (by omega))), iffT HO.out, HB.out⟩
  · have C' := Lib.hid (C.mono fun _ _ h => h.2 ho)
    have HO := Lib.hid ho
    clear C ho
    go_enter Tryz.func28, Tryz.ntmps28
    go_wp2_with fail
    go_at_call 41
    refine C'.out.mono ?_
    rintro e w2 ⟨rfl, hb⟩
    have HB := Lib.hid (bnext (below1 _ _) hb)
    clear hb C'
    go_wp2_with fail
    go_ret
    exact ⟨false, rfl, iffF HO.out, HB.out⟩
end Go.Proofs.YtifchfecfkdjlaaGreatDoor

namespace Go.Proofs.YtifchfecfkdjlaaGreatDoor
open Go.ChangeShapes Go.WideShapes Go.ChangeAt Go.RowKit

theorem list_choose {α : Type} {P : Nat → α → Prop} : ∀ n : Nat, (∀ i, i < n → ∃ t, P i t) → ∃ l : List α, l.length = n ∧ ∀ (i : Nat) (t : α), l[i]? = some t → P i t
  | 0, _ => ⟨[], rfl, by simp⟩
  | n + 1, h => by
    obtain ⟨l, hl, hp⟩ := list_choose n (fun i hi => h i (by omega))
    obtain ⟨t, ht⟩ := h n (by omega)
    refine ⟨l ++ [t], by simp [hl], fun i u hu => ?_⟩
    by_cases hi : i < l.length
    · rw [List.getElem?_append_left hi] at hu
      exact hp i u hu
    · have hlt := (List.getElem?_eq_some_iff.1 hu).1
      simp at hlt
      obtain rfl : i = l.length := by omega
      simp at hu
      subst hu
      rw [hl]
      exact ht
theorem plain_cell {w : World} {a : Addr} {v : Value} (h : w.cell? a = some v) : a = ⟨a.block, a.off, none⟩ := by
  cases a with
  | mk b o s =>
    cases s with
    | none => rfl
    | some k =>
      unfold World.cell? at h
      split at h <;> simp at h
theorem add_plain0 (b o i : Nat) : (⟨b, o, none⟩ : Addr).add i = ⟨b, o + i, none⟩ := by unfold Addr.add; split <;> simp_all
end Go.Proofs.YtifchfecfkdjlaaGreatDoor

namespace Go.Proofs.YtifchfecfkdjlaaGreatDoor
open Go.ChangeShapes Go.WideShapes Go.ChangeAt Go.RowKit Go.Deep

section
variable {H : Type} {enc : TypeId × Value → H} {w : World} {base : Nat} {spare : Nat → Bool} {held : Bool}
theorem open_labels {fuel : Nat} {cs : List Value} {x : DataW H × List MemPlace} (h : DataW.trod enc Tryz.prog w base spare held fuel 22 cs = some x) :
    ∃ (ls : List ByteArray) (A : Option Addr) (cap : Nat), cs = [.slice A ls.length cap] ∧ Strs w 0 ls A ∧ ls.length ≤ maxLen ∧ ∀ s ∈ ls, s.size ≤ maxLen := by
  rcases open_strs Tryz.underlying22 Tryz.underlying9 (by kernel_rfl) h with ⟨rfl, _⟩ | ⟨a, len, cap, m, Sx, rfl, hb, hl, hm, hmm, _, hx⟩
  · exact ⟨[], none, 0, rfl, fun h => absurd h (by simp), by simp, by simp⟩
  have hlm : len ≤ m := by rw [hmm]; split <;> omega
  obtain ⟨ls, hls, hp⟩ := list_choose (P := fun i s => w.cell? (a.add i) = some (.string s) ∧ s.size ≤ maxLen) len (fun i hi => ⟨Sx i, hx i (by omega)⟩)
  refine ⟨ls, some a, cap, by rw [hls], fun hpos => ?_, by omega, fun s hs => ?_⟩
  · have h0 := (hp 0 _ (List.getElem?_eq_getElem hpos)).1
    have ha : a.add 0 = a := by unfold Addr.add; simp
    rw [ha] at h0
    have hpl := plain_cell h0
    refine ⟨a.block, a.off, by rw [← hpl], Nat.zero_le _, fun i s hs => ?_⟩
    have h1 := (hp i s hs).1
    rw [hpl, add_plain0] at h1
    exact h1
  · obtain ⟨i, hi⟩ := List.getElem?_of_mem hs
    exact (hp i s hi).2

theorem list4 {α : Type} {l : List α} (h : l.length = 4) : ∃ a b c d, l = [a, b, c, d] := by
  match l, h with
  | [a, b, c, d], _ => exact ⟨a, b, c, d, rfl⟩
theorem open_ty : ∀ (fuel : Nat) {cs : List Value} {x : DataW H × List MemPlace}, DataW.trod enc Tryz.prog w base spare held fuel 25 cs = some x →
    ∃ (T : Ty) (A B : Option Addr) (ca cb : Nat), cs = [.int .i64 T.kind, .string T.name, .slice A T.labels.length ca, .slice B T.kids.length cb] ∧ Ty.At w 0 T A B ∧ T.Fin := by
  intro fuel
  induction fuel using Nat.strongRecOn with
  | ind fuel ih =>
    intro cs x h
    have hC : Tryz.prog.cellsOf 25 = 4 := by kernel_rfl
    have k0 : Tryz.prog.cellsOf 2 = 1 := by kernel_rfl
    have k1 : Tryz.prog.cellsOf 9 = 1 := by kernel_rfl
    have k2 : Tryz.prog.cellsOf 22 = 1 := by kernel_rfl
    have k3 : Tryz.prog.cellsOf 23 = 1 := by kernel_rfl
    obtain ⟨xs, n, rfl, _, hl, hlen, hf⟩ := DataW.trod_struct Tryz.underlying25 h
    rw [hC] at hl
    have hlen' : xs.length = 4 := hlen
    obtain ⟨c0, c1, c2, c3, rfl⟩ := list4 hl
    obtain ⟨y0, y1, y2, y3, rfl⟩ := list4 hlen'
    clear hl hlen hlen'
    have f0 := hf 0 _ rfl
    have f1 := hf 1 _ rfl
    have f2 := hf 2 _ rfl
    have f3 := hf 3 _ rfl
    simp [k0, k1, k2, k3] at f0 f1 f2 f3
    obtain ⟨v0, e0, _, wf0⟩ := DataW.trod_int Tryz.underlying2 f0
    obtain ⟨v1, e1, _, w1⟩ := DataW.trod_string Tryz.underlying9 f1
    obtain ⟨ls, A, ca, e2, hA, hA1, hA2⟩ := open_labels f2
    simp at e0 e1 e2
    subst e0 e1 e2
    have hwf := wf_i64_bounds wf0
    have kids : ∃ (ks : List Ty) (B : Option Addr) (cb : Nat), c3 = .slice B ks.length cb ∧ ks.length ≤ maxLen ∧ (0 < ks.length → ∃ b o : Nat, B = some ⟨b, o, none⟩ ∧ ∀ (i : Nat) (t : Ty), ks[i]? = some t → ∃ A' B' ca cb, Ty.Cells w 0 t b (o + 4 * i) A' B' ca cb) ∧ ∀ (i : Nat) (t : Ty), ks[i]? = some t → t.Fin := by
      rcases DataW.trod_slice Tryz.underlying23 f3 with ⟨e, _⟩ | ⟨a, len, cap, elems, rest, m, hnm, e, _, _, hle, hcap, hel, hi, _, _⟩
      · simp at e
        exact ⟨[], none, 0, by rw [e]; rfl, by simp, fun h => absurd h (by simp), by simp⟩
      simp at e
      have each : ∀ i, i < len → ∃ t : Ty, (∃ A' B' ca cb, w.cell? (a.add (4 * i)) = some (.int .i64 t.kind) ∧ w.cell? (a.add (4 * i + 1)) = some (.string t.name) ∧ w.cell? (a.add (4 * i + 2)) = some (.slice A' t.labels.length ca) ∧ w.cell? (a.add (4 * i + 3)) = some (.slice B' t.kids.length cb) ∧ Ty.At w 0 t A' B') ∧ t.Fin := by
        intro i hil
        have h1 := hi i hil
        rw [List.getElem?_eq_getElem (by omega), hC] at h1
        obtain ⟨cs', hc, ht⟩ := Option.bind_eq_some_iff.1 h1
        obtain ⟨T, A', B', ca', cb', rfl, hat, hfin⟩ := ih m (by omega) ht
        obtain ⟨_, _, hcell⟩ := World.cells?_some hc
        have a0 := hcell 0 (by omega)
        have a1 := hcell 1 (by omega)
        have a2 := hcell 2 (by omega)
        have a3 := hcell 3 (by omega)
        simp only [Go.Deep.add_add, Nat.mul_comm i 4] at a0 a1 a2 a3
        exact ⟨T, ⟨A', B', ca', cb', a0, a1, a2, a3, hat⟩, hfin⟩
      obtain ⟨ks, hks, hp⟩ := list_choose len each
      refine ⟨ks, some a, cap, by rw [e, hks], by omega, fun hpos => ?_, fun i t ht => (hp i t ht).2⟩
      obtain ⟨⟨_, _, _, _, h0, _⟩, _⟩ := hp 0 _ (List.getElem?_eq_getElem hpos)
      have ha : a.add (4 * 0) = a := by unfold Addr.add; simp
      rw [ha] at h0
      have hpl := plain_cell h0
      refine ⟨a.block, a.off, by rw [← hpl], fun i t ht => ?_⟩
      obtain ⟨⟨A', B', ca', cb', h1, h2, h3, h4, h5⟩, _⟩ := hp i t ht
      rw [hpl, add_plain0] at h1 h2 h3 h4
      exact ⟨A', B', ca', cb', h1, h2, h3, h4, h5⟩
    obtain ⟨ks, B, cb, rfl, hk1, hk2, hk3⟩ := kids
    refine ⟨.mk v0 v1 ls ks, A, B, ca, cb, rfl, ?_, ?_⟩
    · exact Ty.At.mk' hA fun hp => by
        obtain ⟨b, o, hb, h⟩ := hk2 hp
        exact ⟨b, o, hb, Nat.zero_le _, h⟩
    · exact Ty.Fin.mk' ⟨w1, hA1, hk1, hA2, hwf.2, hwf.1⟩ hk3
end
end Go.Proofs.YtifchfecfkdjlaaGreatDoor

namespace Go.Proofs.YtifchfecfkdjlaaGreatDoor
open Go.ChangeShapes Go.WideShapes Go.ChangeAt Go.RowKit Go.Deep

/-- What the laws on one type begin with: the argument is measured, and copied three times. -/
structure TyIn (T : Ty) (A B : Option Addr) (ca cb : Nat) : Prop where
  to_ : ∀ W, Ty.At W 0 T A B → Calls Tryz.prog 9 #[.agg #[.int .i64 T.kind, .string T.name, .slice A T.labels.length ca, .slice B T.kids.length cb]] W (ToTyPost T W)
  eq_ : ∀ (A1 B1 A2 B2 : Option Addr) (c1 c2 c3 c4 lo lo' : Nat) W, Ty.At W lo T A1 B1 → Ty.At W lo' T A2 B2 → Calls Tryz.prog 11 #[.agg #[.int .i64 T.kind, .string T.name, .slice A1 T.labels.length c1, .slice B1 T.kids.length c2], .agg #[.int .i64 T.kind, .string T.name, .slice A2 T.labels.length c3, .slice B2 T.kids.length c4]] W fun e w' => e = .returned (.bool true) ∧ Below W.heap.size W w'
theorem TyIn.of {T : Ty} (hT : T.wt ≤ 1048576) (A B : Option Addr) (ca cb : Nat) : TyIn T A B ca cb :=
  ⟨fun W h => toType_any T hT A B ca cb 0 W h, fun A1 B1 A2 B2 c1 c2 c3 c4 lo lo' W h h' => eqType_any T hT A1 B1 A2 B2 c1 c2 c3 c4 lo lo' W h h'⟩

theorem specTypeOk_any (T : Ty) (hT : T.wt ≤ 1048576) (A B : Option Addr) (ca cb lo : Nat) (w : World) (hat : Ty.At w lo T A B) :
    Calls Tryz.prog 24 #[.agg #[.int .i64 T.kind, .string T.name, .slice A T.labels.length ca, .slice B T.kids.length cb]] w (SaysB T.Ok w) := by
  have C := Lib.hid (fun W h => l03Ok_any T hT A B ca cb lo W h)
  have HA := Lib.hid hat
  clear hat hT
  go_enter Tryz.func24, Tryz.ntmps24
  go_wp2_with fail
  go_at_call 40
  first
    | refine (C.out _ HA.out).mono ?_
    | refine (C.out _ (HA.out.below (below1 _ _))).mono ?_
  rintro e w2 ⟨v, rfl, hv, hb⟩
  have HV := Lib.hid hv
  have HB := Lib.hid hb
  clear hv hb C
  go_wp2_with fail
  go_ret
  first
    | exact ⟨v, rfl, HV.out, HB.out⟩
    | exact ⟨v, rfl, HV.out, bnext (below1 _ _) HB.out⟩

/-- An integer; new memory alone has turned. -/
def SaysI (n : Int) (w : World) (e : Ending) (w' : World) : Prop := e = .returned (.int .i64 n) ∧ Below w.heap.size w w'
end Go.Proofs.YtifchfecfkdjlaaGreatDoor

