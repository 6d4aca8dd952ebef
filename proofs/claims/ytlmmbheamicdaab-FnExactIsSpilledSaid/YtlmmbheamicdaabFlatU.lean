/-
  The walks of the model's FlatOf, FlatOfAll and IsSpilled.
-/
import Derived.Test.YtlmmbheamicdaabFlatT
import Derived.Test.YtlmmbheamicdaabRowOk0
namespace Go.Proofs.Ytlmmbheamicdaab
open Go.ChangeShapes Go.WideShapes Go.ChangeAt Go.RowKit Go.Deep

theorem FlatPost.new (w0 w : World) (h : Below w0.heap.size w0 w) : FlatPost [] w0 (.returned (.slice (some ⟨w.heap.size, 0, none⟩) 0 0)) (w.alloc (.cells #[] 2)) :=
  ⟨_, 0, 0, rfl, ⟨rfl, rfl, Or.inr ⟨w.heap.size, 0, #[], rfl, h.size, by show (w.heap.push _)[w.heap.size]? = _; simp, Nat.le_refl _, by unfold maxLen; omega, rfl, rfl⟩⟩, h.alloc h.size _⟩
theorem FlatPost.from_ {P : List Int} {w0 w w' : World} {e : Ending} (hb : Below w0.heap.size w0 w) (h : FlatPost P w e w') : FlatPost P w0 e w' := by
  obtain ⟨R, n, c, rfl, ho, hb2⟩ := h
  exact ⟨R, n, c, rfl, ho.down hb.size, next6 hb hb2⟩

set_option maxHeartbeats 1000000 in
theorem specFlatOf_any (T : Ty) (hT : T.wt ≤ 1048576) (A B : Option Addr) (ca cb lo : Nat) (w : World) (hat : Ty.At w lo T A B) (P : List Int) (h1 : T.Ok → P = T.flat) (h0 : ¬ T.Ok → P = []) :
    Calls Try.prog 20 #[.agg #[.int .i64 T.kind, .string T.name, .slice A T.labels.length ca, .slice B T.kids.length cb]] w (FlatPost P w) := by
  have CK := fun W h => specTypeOk_any T hT A B ca cb lo W h
  have HA := Lib.hid hat
  clear hat
  by_cases ho : T.Ok
  · have CK' := Lib.hid (fun W h => (CK W h).mono fun _ _ k => k.yes ho)
    have CF := Lib.hid (fun W h => flatS_all T lo ho hT A B ca cb W h)
    rw [h1 ho]
    clear CK h1 h0 ho hT
    generalize T.flat = P at *
    go_enter Try.func20, Try.ntmps20
    go_wp2_with fail
    go_at_call 28
    refine (CK'.out _ (HA.out.below (below1 _ _))).mono ?_
    rintro e w2 ⟨rfl, hb2⟩
    have k0 := keepCell (a := ⟨w.heap.size, 0, none⟩) (v := .int .i64 T.kind) hb2 (by go_simp)
    have k1 := keepCell (a := ⟨w.heap.size, 1, none⟩) (v := .string T.name) hb2 (by go_simp)
    have k2 := keepCell (a := ⟨w.heap.size, 2, none⟩) (v := .slice A T.labels.length ca) hb2 (by go_simp)
    have k3 := keepCell (a := ⟨w.heap.size, 3, none⟩) (v := .slice B T.kids.length cb) hb2 (by go_simp)
    have HB2 := Lib.hid (next6 (below1 _ _) hb2)
    clear hb2
    go_wp2_with fail
    go_at_call 41
    refine (CF.out _ (HA.out.below HB2.out)).mono ?_
    rintro e w3 ⟨R3, n3, c3, rfl, ho3, hb3⟩
    have HP := Lib.hid (FlatPost.from_ (P := P) HB2.out ⟨R3, n3, c3, rfl, ho3, hb3⟩)
    clear ho3 hb3
    go_wp2_with fail
    go_ret
    exact HP.out
  · have CK' := Lib.hid (fun W h => (CK W h).mono fun _ _ k => k.no ho)
    rw [h0 ho]
    clear CK h1 h0 ho hT
    go_enter Try.func20, Try.ntmps20
    go_wp2_with fail
    go_at_call 28
    refine (CK'.out _ (HA.out.below (below1 _ _))).mono ?_
    rintro e w2 ⟨rfl, hb2⟩
    have HB2 := Lib.hid (next6 (below1 _ _) hb2)
    clear hb2
    go_wp2_with fail
    go_ret
    exact FlatPost.new w w2 HB2.out

theorem rowAll_any (ks : List Ty) (hT : (ks.length : Int) + Ty.wts ks ≤ 1048576) (hr : RowOk ks) (B : Option Addr) (cb lo : Nat) (w : World) (h : Ty.RowAt w lo ks B) :
    Calls Try.prog 40 #[.slice B ks.length cb] w (FlatPost (Ty.flats ks) w) := by
  obtain ⟨_, hw⟩ := wt_in hT
  exact l12All_any ks lo (fun i t ht => flatS_all t lo (hr.2 i t ht) (hw i t ht)) (fun i t ht => (hr.2 i t ht).flat) (by have := hr.1; omega) B cb w h
set_option maxHeartbeats 1000000 in
theorem specFlatAll_any (ks : List Ty) (hT : (ks.length : Int) + Ty.wts ks ≤ 1048576) (B : Option Addr) (cb lo : Nat) (w : World) (h : Ty.RowAt w lo ks B) (P : List Int) (h1 : RowOk ks → P = Ty.flats ks) (h0 : ¬ RowOk ks → P = []) :
    Calls Try.prog 25 #[.slice B ks.length cb] w (FlatPost P w) := by
  obtain ⟨hl, hw⟩ := wt_in hT
  have CK := fun W h => l09Ok_any ks hl hw B cb lo W h
  have HA := Lib.hid h
  clear h
  by_cases ho : RowOk ks
  · have CK' := Lib.hid (fun W h => (CK W h).mono fun _ _ k => k.yes ho)
    have CF := Lib.hid (fun W h => rowAll_any ks hT ho B cb lo W h)
    rw [h1 ho]
    clear CK h1 h0 ho hT hl hw
    generalize Ty.flats ks = P at *
    go_enter Try.func25, Try.ntmps25
    go_wp2_with fail
    go_at_call 39
    refine (CK'.out _ HA.out).mono ?_
    rintro e w2 ⟨rfl, hb2⟩
    have HB2 := Lib.hid hb2
    clear hb2
    go_wp2_with fail
    go_at_call 40
    refine (CF.out _ (HA.out.below HB2.out)).mono ?_
    rintro e w3 ⟨R3, n3, c3, rfl, ho3, hb3⟩
    have HP := Lib.hid (FlatPost.from_ (P := P) HB2.out ⟨R3, n3, c3, rfl, ho3, hb3⟩)
    clear ho3 hb3
    go_wp2_with fail
    go_ret
    exact HP.out
  · have CK' := Lib.hid (fun W h => (CK W h).mono fun _ _ k => k.no ho)
    rw [h0 ho]
    clear CK h1 h0 ho hT hl hw
    go_enter Try.func25, Try.ntmps25
    go_wp2_with fail
    go_at_call 39
    refine (CK'.out _ HA.out).mono ?_
    rintro e w2 ⟨rfl, hb2⟩
    have HB2 := Lib.hid hb2
    clear hb2
    go_wp2_with fail
    go_ret
    exact FlatPost.new w w2 HB2.out
set_option maxHeartbeats 1000000 in
theorem specSpilled_any (ks : List Ty) (hT : (ks.length : Int) + Ty.wts ks ≤ 1048576) (B : Option Addr) (cb lo : Nat) (w : World) (h : Ty.RowAt w lo ks B) :
    Calls Try.prog 17 #[.slice B ks.length cb] w (Says6 (RowOk ks ∧ 8 < (Ty.flats ks).length) w) := by
  obtain ⟨hl, hw⟩ := wt_in hT
  have CK := fun W h => l09Ok_any ks hl hw B cb lo W h
  have HA := Lib.hid h
  clear h
  by_cases ho : RowOk ks
  · have CK' := Lib.hid (fun W h => (CK W h).mono fun _ _ k => k.yes ho)
    have CF := Lib.hid (fun W h => rowAll_any ks hT ho B cb lo W h)
    have HO := Lib.hid ho
    clear CK ho hT hl hw
    generalize Ty.flats ks = P at *
    by_cases h8 : 8 < P.length
    · have h8i : (8 : Int) < (P.length : Int) := by omega
      go_enter Try.func17, Try.ntmps17
      go_wp2_with fail
      go_at_call 39
      refine (CK'.out _ HA.out).mono ?_
      rintro e w2 ⟨rfl, hb2⟩
      have HB2 := Lib.hid hb2
      clear hb2
      go_wp2_with fail
      go_at_call 40
      refine (CF.out _ (HA.out.below HB2.out)).mono ?_
      rintro e w3 ⟨R3, n3, c3, rfl, ho3, hb3⟩
      obtain ⟨rfl, _⟩ := ho3.row
      have HB3 := Lib.hid (next6 HB2.out hb3)
      clear ho3 hb3
      go_wp2_with fail
      go_ret
      exact ⟨true, rfl, iff6T ⟨HO.out, h8⟩, HB3.out⟩
    · have h8i : ¬ (8 : Int) < (P.length : Int) := by omega
      have hd8 : decide ((8 : Int) < (P.length : Int)) = false := decide_eq_false h8i
      go_enter Try.func17, Try.ntmps17
      go_wp2_with fail
      go_at_call 39
      refine (CK'.out _ HA.out).mono ?_
      rintro e w2 ⟨rfl, hb2⟩
      have HB2 := Lib.hid hb2
      clear hb2
      go_wp2_with fail
      go_at_call 40
      refine (CF.out _ (HA.out.below HB2.out)).mono ?_
      rintro e w3 ⟨R3, n3, c3, rfl, ho3, hb3⟩
      obtain ⟨rfl, _⟩ := ho3.row
      have HB3 := Lib.hid (next6 HB2.out hb3)
      clear ho3 hb3
      go_wp2_with fail
      go_ret
      exact ⟨false, rfl, iff6F (fun h => h8 h.2), HB3.out⟩
  · have CK' := Lib.hid (fun W h => (CK W h).mono fun _ _ k => k.no ho)
    clear CK hT hl hw
    have HN := Lib.hid ho
    clear ho
    go_enter Try.func17, Try.ntmps17
    go_wp2_with fail
    go_at_call 39
    refine (CK'.out _ HA.out).mono ?_
    rintro e w2 ⟨rfl, hb2⟩
    have HB2 := Lib.hid hb2
    clear hb2
    go_wp2_with fail
    go_ret
    exact ⟨false, rfl, iff6F (fun h => HN.out h.1), HB2.out⟩
end Go.Proofs.Ytlmmbheamicdaab
