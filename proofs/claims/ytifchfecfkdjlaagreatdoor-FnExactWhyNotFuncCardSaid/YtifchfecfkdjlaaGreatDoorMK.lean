/-
  TyPartsIn, TyOkI: in one text.
-/
import Derived.Test.YtifchfecfkdjlaaGreatDoorMJ
import Derived.Test.YtifchfecfkdjlaaGreatDoorMG
namespace Go.Proofs.YtifchfecfkdjlaaGreatDoor
open Go.ChangeShapes Go.WideShapes Go.ChangeAt Go.RowKit Go.Deep

theorem flat_get : ∀ (tvs : List TV) (i j : Nat) (x : TV), tvs[i]? = some x → j < 4 → (tvs.flatMap TV.cells)[i * 4 + j]? = x.cells[j]?
  | [], i, j, x, h, _ => by simp at h
  | y :: ys, 0, j, x, h, hj => by
    simp at h
    subst h
    rw [List.flatMap_cons, Nat.zero_mul, Nat.zero_add, List.getElem?_append_left (by simpa [TV.cells] using hj)]
  | y :: ys, i + 1, j, x, h, hj => by
    have := flat_get ys i j x (by simpa using h) hj
    rw [List.flatMap_cons, List.getElem?_append_right (by simp [TV.cells]; omega), ← this]
    congr 1
    simp [TV.cells]
    omega

mutual
theorem Ty.sound_parts : ∀ T : Ty, T.Sound ↔ ∀ x ∈ T.parts, ShapeOk x
  | .mk k n l ks => by
    rw [Ty.Sound, Ty.parts, Ty.sounds_parts ks]
    simp
theorem Ty.sounds_parts : ∀ ks : List Ty, Ty.Sounds ks ↔ ∀ x ∈ Ty.partss ks, ShapeOk x
  | [] => by simp [Ty.Sounds, Ty.partss]
  | t :: ts => by
    rw [Ty.Sounds, Ty.partss, Ty.sound_parts t, Ty.sounds_parts ts]
    simp only [List.mem_append]
    constructor
    · rintro ⟨h1, h2⟩ x (hx | hx)
      · exact h1 x hx
      · exact h2 x hx
    · intro h
      exact ⟨fun x hx => h x (Or.inl hx), fun x hx => h x (Or.inr hx)⟩
end
mutual
theorem Ty.wt_parts : ∀ T : Ty, ∀ x ∈ T.parts, x.wt ≤ T.wt
  | .mk k n l ks => by
    intro x hx
    rw [Ty.parts] at hx
    rcases List.mem_cons.1 hx with rfl | hx
    · exact Int.le_refl _
    · have h1 := Ty.wts_parts ks x hx
      have h2 := sumSz_nonneg l
      rw [Ty.wt]
      omega
theorem Ty.wts_parts : ∀ ks : List Ty, ∀ x ∈ Ty.partss ks, x.wt ≤ Ty.wts ks
  | [] => by simp [Ty.partss]
  | t :: ts => by
    intro x hx
    rw [Ty.partss] at hx
    have h0 := t.wt_nonneg
    have h3 := Ty.wts_nonneg ts
    rw [Ty.wts]
    rcases List.mem_append.1 hx with hx | hx
    · have := Ty.wt_parts t x hx
      omega
    · have := Ty.wts_parts ts x hx
      omega
end

/-- What partsIn leaves: the parts in a new slice, or none. -/
def PInYes (T : Ty) (lo : Nat) (w : World) (e : Ending) (w' : World) : Prop := ∃ (g cap : Nat) (tvs : List TV), e = .returned (.slice (some ⟨g, 0, none⟩) T.size cap) ∧ w.heap.size ≤ g ∧ (∀ (i : Nat) (x : TV), tvs[i]? = some x → w'.cell? ⟨g, i * 4, none⟩ = some (.int .i64 x.t.kind) ∧ w'.cell? ⟨g, i * 4 + 1, none⟩ = some (.string x.t.name) ∧ w'.cell? ⟨g, i * 4 + 2, none⟩ = some (.slice x.A x.t.labels.length x.ca) ∧ w'.cell? ⟨g, i * 4 + 3, none⟩ = some (.slice x.B x.t.kids.length x.cb)) ∧ PartsAt w' lo T.parts tvs ∧ Below w.heap.size w w'
def PInNo (w : World) (e : Ending) (w' : World) : Prop := e = .returned (.slice none 0 0) ∧ Below w.heap.size w w'
def PInPost (T : Ty) (lo : Nat) (w : World) (e : Ending) (w' : World) : Prop := (T.Ok → PInYes T lo w e w') ∧ (¬ T.Ok → PInNo w e w')

theorem fitsM1 {T : Ty} : FitsM T 1 0 ↔ T.fits 1 := by
  unfold FitsM Ty.fits
  omega

theorem partsIn_no (T : Ty) (lo : Nat) (hT : T.wt ≤ 1048576) (A B : Option Addr) (ca cb : Nat) (w : World) (hat : Ty.At w lo T A B) (hf : ¬ T.fits 1) :
    Calls Tryz.prog 41 #[.agg #[.int .i64 T.kind, .string T.name, .slice A T.labels.length ca, .slice B T.kids.length cb]] w (PInPost T lo w) := by
  have C : Hid (Calls Tryz.prog 63 #[.slice none 0 0, .agg #[.int .i64 T.kind, .string T.name, .slice A T.labels.length ca, .slice B T.kids.length cb], .int .i64 1] (w.alloc (.cells #[.int .i64 T.kind, .string T.name, .slice A T.labels.length ca, .slice B T.kids.length cb] 30)) (AddNo w)) := Lib.hid ((addParts_any w lo T hT 1 0 (by omega) (by omega) (by omega) A B ca cb hat none 0 [] _ (World.ownsRow_nil _ _ _ _) (below1 _ _)).mono fun _ _ h => h.2 (fun h1 => hf (fitsM1.mp h1)))
  have HF := Lib.hid hf
  clear hat hf
  go_enter Tryz.func41, Tryz.ntmps41
  go_wp2_with fail
  go_at_call 63
  refine C.out.mono ?_
  rintro e w2 ⟨rfl, hb⟩
  have HB := Lib.hid hb
  clear hb C
  go_wp2_with fail
  go_ret
  exact ⟨fun h => absurd h.1 HF.out, fun _ => ⟨rfl, HB.out⟩⟩

set_option maxHeartbeats 4000000 in
set_option maxRecDepth 100000 in
theorem partsIn_fits (T : Ty) (lo : Nat) (hT : T.wt ≤ 1048576) (A B : Option Addr) (ca cb : Nat) (w : World) (hat : Ty.At w lo T A B) (hm : MaxC w) (hf : T.fits 1) :
    Calls Tryz.prog 41 #[.agg #[.int .i64 T.kind, .string T.name, .slice A T.labels.length ca, .slice B T.kids.length cb]] w (PInPost T lo w) := by
  have C : Hid (Calls Tryz.prog 63 #[.slice none 0 0, .agg #[.int .i64 T.kind, .string T.name, .slice A T.labels.length ca, .slice B T.kids.length cb], .int .i64 1] (w.alloc (.cells #[.int .i64 T.kind, .string T.name, .slice A T.labels.length ca, .slice B T.kids.length cb] 30)) (AddYes w lo T 0 [])) := Lib.hid ((addParts_any w lo T hT 1 0 (by omega) (by omega) (by omega) A B ca cb hat none 0 [] _ (World.ownsRow_nil _ _ _ _) (below1 _ _)).mono fun _ _ h => h.1 (fitsM1.mpr hf))
  have HF := Lib.hid hf
  have HM := Lib.hid hm
  have HWT := Lib.hid (fun x hx => Int.le_trans (Ty.wt_parts T x hx) hT)
  have HSP := Lib.hid (Ty.sound_parts T)
  have HPL := Lib.hid T.parts_length
  have hsz : T.size ≤ 24 := hf.2
  have hsp := T.size_pos
  clear hat hf hm hT
  go_enter Tryz.func41, Tryz.ntmps41
  go_wp2_with fail
  go_at_call 63
  refine C.out.mono ?_
  rintro e w2 ⟨R, cap, tvs, rfl, hown, hpat, hb⟩
  rw [Nat.zero_add] at hown
  obtain ⟨g, hR, hge, hlt⟩ : ∃ g, R = some ⟨g, 0, none⟩ ∧ w.heap.size ≤ g ∧ g < w2.heap.size := by
    rcases hown.2 with ⟨e1, e2⟩ | ⟨g, cap', cur, e1, e2, e3, _⟩
    · omega
    · injection e1 with e4
      exact ⟨g, e4, e2, (Array.getElem?_eq_some_iff.1 e3).1⟩
  subst hR
  have hlen : tvs.length = T.size := by rw [← HPL.out, ← hpat.1, List.length_map]
  have hcell : ∀ (i : Nat) (x : TV), tvs[i]? = some x → w2.cell? ⟨g, i * 4, none⟩ = some (.int .i64 x.t.kind) ∧ w2.cell? ⟨g, i * 4 + 1, none⟩ = some (.string x.t.name) ∧ w2.cell? ⟨g, i * 4 + 2, none⟩ = some (.slice x.A x.t.labels.length x.ca) ∧ w2.cell? ⟨g, i * 4 + 3, none⟩ = some (.slice x.B x.t.kids.length x.cb) := by
    intro i x hx
    have hi := (List.getElem?_eq_some_iff.1 hx).1
    have k : ∀ j, j < 4 → w2.cell? ⟨g, i * 4 + j, none⟩ = x.cells[j]? := fun j hj => by
      rw [hown.cellAt (i * 4 + j) (by omega), List.nil_append]
      exact flat_get tvs i j x hx hj
    exact ⟨k 0 (by omega), k 1 (by omega), k 2 (by omega), k 3 (by omega)⟩
  have HC := Lib.hid hcell
  have HP := Lib.hid hpat
  have HB := Lib.hid hb
  have HL := Lib.hid hlen
  have HGE := Lib.hid hge
  rw [Nat.zero_add]
  clear hown hcell hpat hb C hlen hge hlt
  go_wp2_with fail
  go_loopw [16] (fun i wr => ∃ j : Nat, j ≤ T.size ∧ i = .int .i64 j ∧ Hid (∀ (i : Nat) (x : TV), i < j → tvs[i]? = some x → ShapeOk x.t) ∧ Below w2.heap.size w2 wr) (fun i _ => T.size - (intOf i).toNat)
  case atStart => exact ⟨0, Nat.zero_le _, rfl, (fun i x hi => by omega), Below.refl _ _⟩
  case round =>
    obtain ⟨j, hj, rfl, hno, hbel⟩ := hrel
    by_cases hjn : j < T.size
    · obtain ⟨x, hx⟩ : ∃ x, tvs[j]? = some x := ⟨_, List.getElem?_eq_getElem (by have := HL.out; omega)⟩
      obtain ⟨a0, a1, a2, a3⟩ := HC.out j x hx
      have c0 := keepCell hbel a0
      have c1 := keepCell hbel a1
      have c2 := keepCell hbel a2
      have c3 := keepCell hbel a3
      have lb := World.block_lt_of_cell? wr _ c0
      have hmem : x.t ∈ T.parts := by rw [← HP.out.1]; exact List.mem_map_of_mem (List.mem_of_getElem? hx)
      have hxw := HWT.out x.t hmem
      have hBW := bnext HB.out hbel
      have hxat : Ty.At wr lo x.t x.A x.B := (HP.out.2 x (List.mem_of_getElem? hx)).below hBW
      have HXA := Lib.hid hxat
      have HX := Lib.hid hx
      have HBW := Lib.hid hBW
      have HBR := Lib.hid hbel
      have HMEM := Lib.hid hmem
      clear a0 a1 a2 a3 hx hxat hBW hbel hmem
      by_cases hk : IsAng x.t.kind
      · by_cases hok : ShapeOk x.t
        · have CN := Lib.hid (fun W => nodeOf_12 x.t.name x.A x.B x.t.labels.length x.t.kids.length x.ca x.cb x.t.kind hk W)
          have hmt := fun W => method_angle (.agg #[.int .i64 x.t.kind, .string x.t.name, .slice x.A x.t.labels.length x.ca, .slice x.B x.t.kids.length x.cb]) W
          have CS : Hid (∀ W : World, Below wr.heap.size wr W → Calls Tryz.prog 153 #[.agg #[.int .i64 x.t.kind, .string x.t.name, .slice x.A x.t.labels.length x.ca, .slice x.B x.t.kids.length x.cb]] W fun e w' => e = .returned (.bool true) ∧ Below W.heap.size W w') := Lib.hid (fun W hW => (angle_any x.t hxw hk x.A x.B x.ca x.cb lo W (HXA.out.below hW) (HM.out.keep (bnext HBW.out hW))).mono fun _ _ k => k.yes hok)
          have HOK := Lib.hid hok
          clear hok
          go_wp2_with (first
            | (go_at_call 64; (with_reducible refine (CN.out _).mono ?_); rintro e w3 ⟨rfl, hb3⟩; have HB3 := Lib.hid (bnext (below1 wr _) hb3); clear hb3)
            | (go_at_call 153; (with_reducible refine (CS.out _ HB3.out).mono ?_); rintro e w4 ⟨rfl, hb4⟩; have HB4 := Lib.hid (bnext HB3.out hb4); clear hb4))
          go_roundw
          case rel =>
            refine ⟨j + 1, by omega, by go_num, fun i y hi hy => ?_, bnext HBR.out HB4.out⟩
            by_cases e : i = j
            · subst e
              have e2 := HX.out.symm.trans hy
              cases e2
              exact HOK.out
            · exact hno.out i y (by omega) hy
          case measure => simp [intOf]; omega
        · have CN := Lib.hid (fun W => nodeOf_12 x.t.name x.A x.B x.t.labels.length x.t.kids.length x.ca x.cb x.t.kind hk W)
          have hmt := fun W => method_angle (.agg #[.int .i64 x.t.kind, .string x.t.name, .slice x.A x.t.labels.length x.ca, .slice x.B x.t.kids.length x.cb]) W
          have CS : Hid (∀ W : World, Below wr.heap.size wr W → Calls Tryz.prog 153 #[.agg #[.int .i64 x.t.kind, .string x.t.name, .slice x.A x.t.labels.length x.ca, .slice x.B x.t.kids.length x.cb]] W fun e w' => e = .returned (.bool false) ∧ Below W.heap.size W w') := Lib.hid (fun W hW => (angle_any x.t hxw hk x.A x.B x.ca x.cb lo W (HXA.out.below hW) (HM.out.keep (bnext HBW.out hW))).mono fun _ _ k => k.no hok)
          have HOK := Lib.hid hok
          clear hok
          go_wp2_with (first
            | (go_at_call 64; (with_reducible refine (CN.out _).mono ?_); rintro e w3 ⟨rfl, hb3⟩; have HB3 := Lib.hid (bnext (below1 wr _) hb3); clear hb3)
            | (go_at_call 153; (with_reducible refine (CS.out _ HB3.out).mono ?_); rintro e w4 ⟨rfl, hb4⟩; have HB4 := Lib.hid (bnext HB3.out hb4); clear hb4))
          go_ret
          exact ⟨fun h => absurd (HSP.out.mp h.2 x.t HMEM.out) HOK.out, fun _ => ⟨rfl, bnext HB.out (bnext HBR.out HB4.out)⟩⟩
      by_cases hk2 : IsLab x.t.kind
      · by_cases hok : ShapeOk x.t
        · have CN := Lib.hid (fun W => nodeOf_16 x.t.name x.A x.B x.t.labels.length x.t.kids.length x.ca x.cb x.t.kind (by unfold IsLab at hk2; omega) W)
          have hmt := fun W => method_label (.agg #[.int .i64 x.t.kind, .string x.t.name, .slice x.A x.t.labels.length x.ca, .slice x.B x.t.kids.length x.cb]) W
          have CS : Hid (∀ W : World, Below wr.heap.size wr W → Calls Tryz.prog 156 #[.agg #[.int .i64 x.t.kind, .string x.t.name, .slice x.A x.t.labels.length x.ca, .slice x.B x.t.kids.length x.cb]] W fun e w' => e = .returned (.bool true) ∧ Below W.heap.size W w') := Lib.hid (fun W hW => (soundLab_any x.t hxw hk2 x.A x.B x.ca x.cb lo W (HXA.out.below hW) (HM.out.keep (bnext HBW.out hW))).mono fun _ _ k => k.yes hok)
          have HOK := Lib.hid hok
          clear hok
          go_wp2_with (first
            | (go_at_call 64; (with_reducible refine (CN.out _).mono ?_); rintro e w3 ⟨rfl, hb3⟩; have HB3 := Lib.hid (bnext (below1 wr _) hb3); clear hb3)
            | (go_at_call 156; (with_reducible refine (CS.out _ HB3.out).mono ?_); rintro e w4 ⟨rfl, hb4⟩; have HB4 := Lib.hid (bnext HB3.out hb4); clear hb4))
          go_roundw
          case rel =>
            refine ⟨j + 1, by omega, by go_num, fun i y hi hy => ?_, bnext HBR.out HB4.out⟩
            by_cases e : i = j
            · subst e
              have e2 := HX.out.symm.trans hy
              cases e2
              exact HOK.out
            · exact hno.out i y (by omega) hy
          case measure => simp [intOf]; omega
        · have CN := Lib.hid (fun W => nodeOf_16 x.t.name x.A x.B x.t.labels.length x.t.kids.length x.ca x.cb x.t.kind (by unfold IsLab at hk2; omega) W)
          have hmt := fun W => method_label (.agg #[.int .i64 x.t.kind, .string x.t.name, .slice x.A x.t.labels.length x.ca, .slice x.B x.t.kids.length x.cb]) W
          have CS : Hid (∀ W : World, Below wr.heap.size wr W → Calls Tryz.prog 156 #[.agg #[.int .i64 x.t.kind, .string x.t.name, .slice x.A x.t.labels.length x.ca, .slice x.B x.t.kids.length x.cb]] W fun e w' => e = .returned (.bool false) ∧ Below W.heap.size W w') := Lib.hid (fun W hW => (soundLab_any x.t hxw hk2 x.A x.B x.ca x.cb lo W (HXA.out.below hW) (HM.out.keep (bnext HBW.out hW))).mono fun _ _ k => k.no hok)
          have HOK := Lib.hid hok
          clear hok
          go_wp2_with (first
            | (go_at_call 64; (with_reducible refine (CN.out _).mono ?_); rintro e w3 ⟨rfl, hb3⟩; have HB3 := Lib.hid (bnext (below1 wr _) hb3); clear hb3)
            | (go_at_call 156; (with_reducible refine (CS.out _ HB3.out).mono ?_); rintro e w4 ⟨rfl, hb4⟩; have HB4 := Lib.hid (bnext HB3.out hb4); clear hb4))
          go_ret
          exact ⟨fun h => absurd (HSP.out.mp h.2 x.t HMEM.out) HOK.out, fun _ => ⟨rfl, bnext HB.out (bnext HBR.out HB4.out)⟩⟩
      by_cases hk3 : IsRes x.t.kind
      · by_cases hok : ShapeOk x.t
        · have CN := Lib.hid (fun W => nodeOf_20 x.t.name x.A x.B x.t.labels.length x.t.kids.length x.ca x.cb x.t.kind hk3 W)
          have hmt := fun W => method_handle (.agg #[.int .i64 x.t.kind, .string x.t.name, .slice x.A x.t.labels.length x.ca, .slice x.B x.t.kids.length x.cb]) W
          have CS : Hid (∀ W : World, Below wr.heap.size wr W → Calls Tryz.prog 157 #[.agg #[.int .i64 x.t.kind, .string x.t.name, .slice x.A x.t.labels.length x.ca, .slice x.B x.t.kids.length x.cb]] W fun e w' => e = .returned (.bool true) ∧ Below W.heap.size W w') := Lib.hid (fun W hW => (handle_any x.t hxw hk3 x.A x.B x.ca x.cb lo W (HXA.out.below hW) (HM.out.keep (bnext HBW.out hW))).mono fun _ _ k => k.yes hok)
          have HOK := Lib.hid hok
          clear hok
          go_wp2_with (first
            | (go_at_call 64; (with_reducible refine (CN.out _).mono ?_); rintro e w3 ⟨rfl, hb3⟩; have HB3 := Lib.hid (bnext (below1 wr _) hb3); clear hb3)
            | (go_at_call 157; (with_reducible refine (CS.out _ HB3.out).mono ?_); rintro e w4 ⟨rfl, hb4⟩; have HB4 := Lib.hid (bnext HB3.out hb4); clear hb4))
          go_roundw
          case rel =>
            refine ⟨j + 1, by omega, by go_num, fun i y hi hy => ?_, bnext HBR.out HB4.out⟩
            by_cases e : i = j
            · subst e
              have e2 := HX.out.symm.trans hy
              cases e2
              exact HOK.out
            · exact hno.out i y (by omega) hy
          case measure => simp [intOf]; omega
        · have CN := Lib.hid (fun W => nodeOf_20 x.t.name x.A x.B x.t.labels.length x.t.kids.length x.ca x.cb x.t.kind hk3 W)
          have hmt := fun W => method_handle (.agg #[.int .i64 x.t.kind, .string x.t.name, .slice x.A x.t.labels.length x.ca, .slice x.B x.t.kids.length x.cb]) W
          have CS : Hid (∀ W : World, Below wr.heap.size wr W → Calls Tryz.prog 157 #[.agg #[.int .i64 x.t.kind, .string x.t.name, .slice x.A x.t.labels.length x.ca, .slice x.B x.t.kids.length x.cb]] W fun e w' => e = .returned (.bool false) ∧ Below W.heap.size W w') := Lib.hid (fun W hW => (handle_any x.t hxw hk3 x.A x.B x.ca x.cb lo W (HXA.out.below hW) (HM.out.keep (bnext HBW.out hW))).mono fun _ _ k => k.no hok)
          have HOK := Lib.hid hok
          clear hok
          go_wp2_with (first
            | (go_at_call 64; (with_reducible refine (CN.out _).mono ?_); rintro e w3 ⟨rfl, hb3⟩; have HB3 := Lib.hid (bnext (below1 wr _) hb3); clear hb3)
            | (go_at_call 157; (with_reducible refine (CS.out _ HB3.out).mono ?_); rintro e w4 ⟨rfl, hb4⟩; have HB4 := Lib.hid (bnext HB3.out hb4); clear hb4))
          go_ret
          exact ⟨fun h => absurd (HSP.out.mp h.2 x.t HMEM.out) HOK.out, fun _ => ⟨rfl, bnext HB.out (bnext HBR.out HB4.out)⟩⟩
      by_cases hok : ShapeOk x.t
      · have CN := Lib.hid (fun W => nodeOf_else x.t.name x.A x.B x.t.labels.length x.t.kids.length x.ca x.cb x.t.kind (by unfold IsAng at hk; unfold IsLab at hk2; unfold IsRes at hk3; omega) W)
        have hmt := fun W => method_plain (.agg #[.int .i64 x.t.kind, .string x.t.name, .slice x.A x.t.labels.length x.ca, .slice x.B x.t.kids.length x.cb]) W
        have CS : Hid (∀ W : World, Below wr.heap.size wr W → Calls Tryz.prog 158 #[.agg #[.int .i64 x.t.kind, .string x.t.name, .slice x.A x.t.labels.length x.ca, .slice x.B x.t.kids.length x.cb]] W fun e w' => e = .returned (.bool true) ∧ Below W.heap.size W w') := Lib.hid (fun W hW => (plain_any x.t hxw hk hk2 hk3 x.A x.B x.ca x.cb lo W (HXA.out.below hW) (HM.out.keep (bnext HBW.out hW))).mono fun _ _ k => k.yes hok)
        have HOK := Lib.hid hok
        clear hok
        go_wp2_with (first
          | (go_at_call 64; (with_reducible refine (CN.out _).mono ?_); rintro e w3 ⟨rfl, hb3⟩; have HB3 := Lib.hid (bnext (below1 wr _) hb3); clear hb3)
          | (go_at_call 158; (with_reducible refine (CS.out _ HB3.out).mono ?_); rintro e w4 ⟨rfl, hb4⟩; have HB4 := Lib.hid (bnext HB3.out hb4); clear hb4))
        go_roundw
        case rel =>
          refine ⟨j + 1, by omega, by go_num, fun i y hi hy => ?_, bnext HBR.out HB4.out⟩
          by_cases e : i = j
          · subst e
            have e2 := HX.out.symm.trans hy
            cases e2
            exact HOK.out
          · exact hno.out i y (by omega) hy
        case measure => simp [intOf]; omega
      · have CN := Lib.hid (fun W => nodeOf_else x.t.name x.A x.B x.t.labels.length x.t.kids.length x.ca x.cb x.t.kind (by unfold IsAng at hk; unfold IsLab at hk2; unfold IsRes at hk3; omega) W)
        have hmt := fun W => method_plain (.agg #[.int .i64 x.t.kind, .string x.t.name, .slice x.A x.t.labels.length x.ca, .slice x.B x.t.kids.length x.cb]) W
        have CS : Hid (∀ W : World, Below wr.heap.size wr W → Calls Tryz.prog 158 #[.agg #[.int .i64 x.t.kind, .string x.t.name, .slice x.A x.t.labels.length x.ca, .slice x.B x.t.kids.length x.cb]] W fun e w' => e = .returned (.bool false) ∧ Below W.heap.size W w') := Lib.hid (fun W hW => (plain_any x.t hxw hk hk2 hk3 x.A x.B x.ca x.cb lo W (HXA.out.below hW) (HM.out.keep (bnext HBW.out hW))).mono fun _ _ k => k.no hok)
        have HOK := Lib.hid hok
        clear hok
        go_wp2_with (first
          | (go_at_call 64; (with_reducible refine (CN.out _).mono ?_); rintro e w3 ⟨rfl, hb3⟩; have HB3 := Lib.hid (bnext (below1 wr _) hb3); clear hb3)
          | (go_at_call 158; (with_reducible refine (CS.out _ HB3.out).mono ?_); rintro e w4 ⟨rfl, hb4⟩; have HB4 := Lib.hid (bnext HB3.out hb4); clear hb4))
        go_ret
        exact ⟨fun h => absurd (HSP.out.mp h.2 x.t HMEM.out) HOK.out, fun _ => ⟨rfl, bnext HB.out (bnext HBR.out HB4.out)⟩⟩
    · have hj' : j = T.size := by omega
      have HBR := Lib.hid hbel
      clear hbel
      go_wp2_with fail
      go_ret
      have hall : ∀ y ∈ T.parts, ShapeOk y := by
        intro y hy
        rw [← HP.out.1] at hy
        obtain ⟨x, hx, rfl⟩ := List.mem_map.1 hy
        obtain ⟨i, hi⟩ := List.getElem?_of_mem hx
        have hil := (List.getElem?_eq_some_iff.1 hi).1
        exact hno.out i x (by have := HL.out; omega) hi
      refine ⟨fun _ => ⟨g, cap, tvs, rfl, HGE.out, fun i x hx => ?_, ⟨HP.out.1, fun x hx => (HP.out.2 x hx).below (bnext HB.out HBR.out)⟩, bnext HB.out HBR.out⟩, fun h => absurd ⟨HF.out, HSP.out.mpr hall⟩ h⟩
      obtain ⟨a0, a1, a2, a3⟩ := HC.out i x hx
      exact ⟨keepCell HBR.out a0, keepCell HBR.out a1, keepCell HBR.out a2, keepCell HBR.out a3⟩

theorem partsIn_any (T : Ty) (lo : Nat) (hT : T.wt ≤ 1048576) (A B : Option Addr) (ca cb : Nat) (w : World) (hat : Ty.At w lo T A B) (hm : MaxC w) :
    Calls Tryz.prog 41 #[.agg #[.int .i64 T.kind, .string T.name, .slice A T.labels.length ca, .slice B T.kids.length cb]] w (PInPost T lo w) := by
  by_cases hf : T.fits 1
  · exact partsIn_fits T lo hT A B ca cb w hat hm hf
  · exact partsIn_no T lo hT A B ca cb w hat hf

end Go.Proofs.YtifchfecfkdjlaaGreatDoor

namespace Go.Proofs.YtifchfecfkdjlaaGreatDoor
open Go.ChangeShapes Go.WideShapes Go.ChangeAt Go.RowKit Go.Deep

theorem implTypeOk_any (T : Ty) (lo : Nat) (hT : T.wt ≤ 1048576) (A B : Option Addr) (ca cb : Nat) (w : World) (hat : Ty.At w lo T A B) (hm : MaxC w) :
    Calls Tryz.prog 28 #[.agg #[.int .i64 T.kind, .string T.name, .slice A T.labels.length ca, .slice B T.kids.length cb]] w (SaysB T.Ok w) := by
  have C := partsIn_any T lo hT A B ca cb (w.alloc (.cells #[.int .i64 T.kind, .string T.name, .slice A T.labels.length ca, .slice B T.kids.length cb] 30)) (hat.below (below1 _ _)) (hm.keep (below1 _ _))
  clear hat hm hT
  by_cases ho : T.Ok
  · have C' := Lib.hid (C.mono fun _ _ h => h.1 ho)
    have HO := Lib.hid ho
    have hs : T.size ≤ 24 := ho.1.2
    have hp := T.size_pos
    have hp' : (0 : Int) < (T.size : Int) := by omega
    clear C ho
    go_enter Tryz.func28, Tryz.ntmps28
    go_wp2_with fail
    go_at_call 41
    refine C'.out.mono ?_
    rintro e w2 ⟨g, cap, tvs, rfl, _, _, _, hb⟩
    have HB := Lib.hid (bnext (below1 _ _) hb)
    clear hb C'
    go_wp2_with fail
    go_ret
    exact ⟨true, (by first | rfl | exact ret_bool (decide_eq_true (by omega))), iffT HO.out, HB.out⟩
  · have C' := Lib.hid (C.mono fun _ _ h => h.2 ho)
    have HO := Lib.hid ho
    clear C ho
    go_enter Tryz.func28, Tryz.ntmps28
    go_wp2_with fail
    go_at_call 41
    refine C'.out.mono ?_
    rintro e w2 ⟨rfl, hb⟩
    have HB := Lib.hid (bnext (below1 _ _) hb)
    clear hb C'
    go_wp2_with fail
    go_ret
    exact ⟨false, rfl, iffF HO.out, HB.out⟩
end Go.Proofs.YtifchfecfkdjlaaGreatDoor

