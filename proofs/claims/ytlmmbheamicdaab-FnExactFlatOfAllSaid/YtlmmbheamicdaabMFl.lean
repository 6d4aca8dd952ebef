/-
  FlatU, FlatI, FlatO, FlatM: in one text.
-/
import Derived.Test.YtlmmbheamicdaabFlatT
import Derived.Test.YtlmmbheamicdaabMRw
import Derived.Test.YtlmmbheamicdaabMKd
import Derived.Test.YtlmmbheamicdaabTyMDW
import Derived.Test.YtlmmbheamicdaabTyOwnT
import Derived.Test.YtlmmbheamicdaabI6M0
namespace Go.Proofs.Ytlmmbheamicdaab
open Go.ChangeShapes Go.WideShapes Go.ChangeAt Go.RowKit Go.Deep

theorem FlatPost.new (w0 w : World) (h : Below w0.heap.size w0 w) : FlatPost [] w0 (.returned (.slice (some ⟨w.heap.size, 0, none⟩) 0 0)) (w.alloc (.cells #[] 2)) :=
  ⟨_, 0, 0, rfl, ⟨rfl, rfl, Or.inr ⟨w.heap.size, 0, #[], rfl, h.size, by show (w.heap.push _)[w.heap.size]? = _; simp, Nat.le_refl _, by unfold maxLen; omega, rfl, rfl⟩⟩, h.alloc h.size _⟩
theorem FlatPost.from_ {P : List Int} {w0 w w' : World} {e : Ending} (hb : Below w0.heap.size w0 w) (h : FlatPost P w e w') : FlatPost P w0 e w' := by
  obtain ⟨R, n, c, rfl, ho, hb2⟩ := h
  exact ⟨R, n, c, rfl, ho.down hb.size, next6 hb hb2⟩

set_option maxHeartbeats 1000000 in
theorem specFlatOf_any (T : Ty) (hT : T.wt ≤ 1048576) (A B : Option Addr) (ca cb lo : Nat) (w : World) (hat : Ty.At w lo T A B) (P : List Int) (h1 : T.Ok → P = T.flat) (h0 : ¬ T.Ok → P = []) :
    Calls Try.prog 20 #[.agg #[.int .i64 T.kind, .string T.name, .slice A T.labels.length ca, .slice B T.kids.length cb]] w (FlatPost P w) := by
  have CK := fun W h => specTypeOk_any T hT A B ca cb lo W h
  have HA := Lib.hid hat
  clear hat
  by_cases ho : T.Ok
  · have CK' := Lib.hid (fun W h => (CK W h).mono fun _ _ k => k.yes ho)
    have CF := Lib.hid (fun W h => flatS_all T lo ho hT A B ca cb W h)
    rw [h1 ho]
    clear CK h1 h0 ho hT
    generalize T.flat = P at *
    go_enter Try.func20, Try.ntmps20
    go_wp2_with fail
    go_at_call 28
    refine (CK'.out _ (HA.out.below (below1 _ _))).mono ?_
    rintro e w2 ⟨rfl, hb2⟩
    have k0 := keepCell (a := ⟨w.heap.size, 0, none⟩) (v := .int .i64 T.kind) hb2 (by go_simp)
    have k1 := keepCell (a := ⟨w.heap.size, 1, none⟩) (v := .string T.name) hb2 (by go_simp)
    have k2 := keepCell (a := ⟨w.heap.size, 2, none⟩) (v := .slice A T.labels.length ca) hb2 (by go_simp)
    have k3 := keepCell (a := ⟨w.heap.size, 3, none⟩) (v := .slice B T.kids.length cb) hb2 (by go_simp)
    have HB2 := Lib.hid (next6 (below1 _ _) hb2)
    clear hb2
    go_wp2_with fail
    go_at_call 41
    refine (CF.out _ (HA.out.below HB2.out)).mono ?_
    rintro e w3 ⟨R3, n3, c3, rfl, ho3, hb3⟩
    have HP := Lib.hid (FlatPost.from_ (P := P) HB2.out ⟨R3, n3, c3, rfl, ho3, hb3⟩)
    clear ho3 hb3
    go_wp2_with fail
    go_ret
    exact HP.out
  · have CK' := Lib.hid (fun W h => (CK W h).mono fun _ _ k => k.no ho)
    rw [h0 ho]
    clear CK h1 h0 ho hT
    go_enter Try.func20, Try.ntmps20
    go_wp2_with fail
    go_at_call 28
    refine (CK'.out _ (HA.out.below (below1 _ _))).mono ?_
    rintro e w2 ⟨rfl, hb2⟩
    have HB2 := Lib.hid (next6 (below1 _ _) hb2)
    clear hb2
    go_wp2_with fail
    go_ret
    exact FlatPost.new w w2 HB2.out

theorem rowAll_any (ks : List Ty) (hT : (ks.length : Int) + Ty.wts ks ≤ 1048576) (hr : RowOk ks) (B : Option Addr) (cb lo : Nat) (w : World) (h : Ty.RowAt w lo ks B) :
    Calls Try.prog 40 #[.slice B ks.length cb] w (FlatPost (Ty.flats ks) w) := by
  obtain ⟨_, hw⟩ := wt_in hT
  exact l12All_any ks lo (fun i t ht => flatS_all t lo (hr.2 i t ht) (hw i t ht)) (fun i t ht => (hr.2 i t ht).flat) (by have := hr.1; omega) B cb w h
set_option maxHeartbeats 1000000 in
theorem specFlatAll_any (ks : List Ty) (hT : (ks.length : Int) + Ty.wts ks ≤ 1048576) (B : Option Addr) (cb lo : Nat) (w : World) (h : Ty.RowAt w lo ks B) (P : List Int) (h1 : RowOk ks → P = Ty.flats ks) (h0 : ¬ RowOk ks → P = []) :
    Calls Try.prog 25 #[.slice B ks.length cb] w (FlatPost P w) := by
  obtain ⟨hl, hw⟩ := wt_in hT
  have CK := fun W h => l09Ok_any ks hl hw B cb lo W h
  have HA := Lib.hid h
  clear h
  by_cases ho : RowOk ks
  · have CK' := Lib.hid (fun W h => (CK W h).mono fun _ _ k => k.yes ho)
    have CF := Lib.hid (fun W h => rowAll_any ks hT ho B cb lo W h)
    rw [h1 ho]
    clear CK h1 h0 ho hT hl hw
    generalize Ty.flats ks = P at *
    go_enter Try.func25, Try.ntmps25
    go_wp2_with fail
    go_at_call 39
    refine (CK'.out _ HA.out).mono ?_
    rintro e w2 ⟨rfl, hb2⟩
    have HB2 := Lib.hid hb2
    clear hb2
    go_wp2_with fail
    go_at_call 40
    refine (CF.out _ (HA.out.below HB2.out)).mono ?_
    rintro e w3 ⟨R3, n3, c3, rfl, ho3, hb3⟩
    have HP := Lib.hid (FlatPost.from_ (P := P) HB2.out ⟨R3, n3, c3, rfl, ho3, hb3⟩)
    clear ho3 hb3
    go_wp2_with fail
    go_ret
    exact HP.out
  · have CK' := Lib.hid (fun W h => (CK W h).mono fun _ _ k => k.no ho)
    rw [h0 ho]
    clear CK h1 h0 ho hT hl hw
    go_enter Try.func25, Try.ntmps25
    go_wp2_with fail
    go_at_call 39
    refine (CK'.out _ HA.out).mono ?_
    rintro e w2 ⟨rfl, hb2⟩
    have HB2 := Lib.hid hb2
    clear hb2
    go_wp2_with fail
    go_ret
    exact FlatPost.new w w2 HB2.out
set_option maxHeartbeats 1000000 in
theorem specSpilled_any (ks : List Ty) (hT : (ks.length : Int) + Ty.wts ks ≤ 1048576) (B : Option Addr) (cb lo : Nat) (w : World) (h : Ty.RowAt w lo ks B) :
    Calls Try.prog 17 #[.slice B ks.length cb] w (Says6 (RowOk ks ∧ 8 < (Ty.flats ks).length) w) := by
  obtain ⟨hl, hw⟩ := wt_in hT
  have CK := fun W h => l09Ok_any ks hl hw B cb lo W h
  have HA := Lib.hid h
  clear h
  by_cases ho : RowOk ks
  · have CK' := Lib.hid (fun W h => (CK W h).mono fun _ _ k => k.yes ho)
    have CF := Lib.hid (fun W h => rowAll_any ks hT ho B cb lo W h)
    have HO := Lib.hid ho
    clear CK ho hT hl hw
    generalize Ty.flats ks = P at *
    by_cases h8 : 8 < P.length
    · have h8i : (8 : Int) < (P.length : Int) := by omega
      go_enter Try.func17, Try.ntmps17
      go_wp2_with fail
      go_at_call 39
      refine (CK'.out _ HA.out).mono ?_
      rintro e w2 ⟨rfl, hb2⟩
      have HB2 := Lib.hid hb2
      clear hb2
      go_wp2_with fail
      go_at_call 40
      refine (CF.out _ (HA.out.below HB2.out)).mono ?_
      rintro e w3 ⟨R3, n3, c3, rfl, ho3, hb3⟩
      obtain ⟨rfl, _⟩ := ho3.row
      have HB3 := Lib.hid (next6 HB2.out hb3)
      clear ho3 hb3
      go_wp2_with fail
      go_ret
      exact ⟨true, rfl, iff6T ⟨HO.out, h8⟩, HB3.out⟩
    · have h8i : ¬ (8 : Int) < (P.length : Int) := by omega
      have hd8 : decide ((8 : Int) < (P.length : Int)) = false := decide_eq_false h8i
      go_enter Try.func17, Try.ntmps17
      go_wp2_with fail
      go_at_call 39
      refine (CK'.out _ HA.out).mono ?_
      rintro e w2 ⟨rfl, hb2⟩
      have HB2 := Lib.hid hb2
      clear hb2
      go_wp2_with fail
      go_at_call 40
      refine (CF.out _ (HA.out.below HB2.out)).mono ?_
      rintro e w3 ⟨R3, n3, c3, rfl, ho3, hb3⟩
      obtain ⟨rfl, _⟩ := ho3.row
      have HB3 := Lib.hid (next6 HB2.out hb3)
      clear ho3 hb3
      go_wp2_with fail
      go_ret
      exact ⟨false, rfl, iff6F (fun h => h8 h.2), HB3.out⟩
  · have CK' := Lib.hid (fun W h => (CK W h).mono fun _ _ k => k.no ho)
    clear CK hT hl hw
    have HN := Lib.hid ho
    clear ho
    go_enter Try.func17, Try.ntmps17
    go_wp2_with fail
    go_at_call 39
    refine (CK'.out _ HA.out).mono ?_
    rintro e w2 ⟨rfl, hb2⟩
    have HB2 := Lib.hid hb2
    clear hb2
    go_wp2_with fail
    go_ret
    exact ⟨false, rfl, iff6F (fun h => HN.out h.1), HB2.out⟩
end Go.Proofs.Ytlmmbheamicdaab

namespace Go.Proofs.Ytlmmbheamicdaab
open Go.ChangeShapes Go.WideShapes Go.ChangeAt Go.RowKit Go.Deep

set_option maxHeartbeats 1000000 in
theorem implFlatAll_hw (ks : List Ty) (hl : ks.length ≤ 1048576) (hw : ∀ (i : Nat) (t : Ty), ks[i]? = some t → t.wt ≤ 1048576) (B : Option Addr) (cb lo : Nat) (w : World) (h : Ty.RowAt w lo ks B) (hm : MaxC w) (P : List Int) (h1 : RowOk ks → P = Ty.flats ks) (h0 : ¬ RowOk ks → P = []) :
    Calls Try.prog 26 #[.slice B ks.length cb] w (FlatPost P w) := by
  have CK := fun W h hm => rowOk_any ks hl hw B cb lo W h hm
  have HA := Lib.hid h
  have HM := Lib.hid hm
  clear h hm
  by_cases ho : RowOk ks
  · have CK' := Lib.hid (fun W h hm => (CK W h hm).mono fun _ _ k => k.yes ho)
    have CF := Lib.hid (fun W => flatKinds_any B ks.length cb W)
    have CC := Lib.hid (fun Bx W hB (h : Ty.RowAt W lo ks B) => collectKinds_any ks lo (fun i t ht => kindI_all t lo (ho.2 i t ht) (hw i t ht)) (fun i t ht => (ho.2 i t ht).flat) (by have := ho.1; omega) B cb Bx W hB h)
    rw [h1 ho]
    clear CK h1 h0 ho hl hw
    generalize Ty.flats ks = P at *
    go_enter Try.func26, Try.ntmps26
    go_wp2_with fail
    go_at_call 42
    refine (CK'.out _ HA.out HM.out).mono ?_
    rintro e w2 ⟨rfl, hb2⟩
    have HB2 := Lib.hid hb2
    clear hb2
    go_wp2_with fail
    go_at_call 44
    refine (CF.out _).mono ?_
    rintro e w3 ⟨rfl, rfl⟩
    have HB3 := Lib.hid (next6 HB2.out (below1 w2 (.cells #[.slice B ks.length cb] 27)))
    go_wp2_with fail
    go_at_call 43
    refine (CC.out _ _ (by go_simp) (HA.out.below HB3.out)).mono ?_
    rintro e w4 ⟨R4, n4, c4, rfl, ho4, hb4⟩
    have HP := Lib.hid (FlatPost.from_ (P := P) HB3.out ⟨R4, n4, c4, rfl, ho4, hb4⟩)
    clear ho4 hb4
    go_wp2_with fail
    go_ret
    exact HP.out
  · have CK' := Lib.hid (fun W h hm => (CK W h hm).mono fun _ _ k => k.no ho)
    rw [h0 ho]
    clear CK h1 h0 ho hl hw
    go_enter Try.func26, Try.ntmps26
    go_wp2_with fail
    go_at_call 42
    refine (CK'.out _ HA.out HM.out).mono ?_
    rintro e w2 ⟨rfl, hb2⟩
    have HB2 := Lib.hid hb2
    clear hb2
    go_wp2_with fail
    go_ret
    exact ⟨none, 0, 0, rfl, ⟨rfl, World.ownsRow_nil _ _ _ _⟩, HB2.out⟩
theorem implFlatAll_any (ks : List Ty) (hT : (ks.length : Int) + Ty.wts ks ≤ 1048576) (B : Option Addr) (cb lo : Nat) (w : World) (h : Ty.RowAt w lo ks B) (hm : MaxC w) (P : List Int) (h1 : RowOk ks → P = Ty.flats ks) (h0 : ¬ RowOk ks → P = []) :
    Calls Try.prog 26 #[.slice B ks.length cb] w (FlatPost P w) :=
  implFlatAll_hw ks (wt_in hT).1 (wt_in hT).2 B cb lo w h hm P h1 h0
set_option maxHeartbeats 1000000 in
theorem implSpilled_any (ks : List Ty) (hT : (ks.length : Int) + Ty.wts ks ≤ 1048576) (B : Option Addr) (cb lo : Nat) (w : World) (h : Ty.RowAt w lo ks B) (hm : MaxC w) :
    Calls Try.prog 19 #[.slice B ks.length cb] w (Says6 (RowOk ks ∧ 8 < (Ty.flats ks).length) w) := by
  obtain ⟨P, h1, h0⟩ : ∃ P : List Int, (RowOk ks → P = Ty.flats ks) ∧ (¬ RowOk ks → P = []) := by
    by_cases ho : RowOk ks
    · exact ⟨_, fun _ => rfl, fun h => absurd ho h⟩
    · exact ⟨_, fun h => absurd h ho, fun _ => rfl⟩
  have C := Lib.hid (implFlatAll_any ks hT B cb lo w h hm P h1 h0)
  have HI : Hid (8 < P.length ↔ (RowOk ks ∧ 8 < (Ty.flats ks).length)) := Lib.hid (by
    by_cases ho : RowOk ks
    · rw [h1 ho]
      exact ⟨fun k => ⟨ho, k⟩, fun k => k.2⟩
    · rw [h0 ho]
      exact ⟨fun k => absurd k (by decide), fun k => absurd k.1 ho⟩)
  clear h1 h0 h hm hT
  by_cases h8 : 8 < P.length
  · have h8i : (8 : Int) < (P.length : Int) := by omega
    go_enter Try.func19, Try.ntmps19
    go_wp2_with fail
    go_at_call 26
    refine C.out.mono ?_
    rintro e w2 ⟨R2, n2, c2, rfl, ho2, hb2⟩
    obtain ⟨rfl, _⟩ := ho2.row
    have HB2 := Lib.hid hb2
    clear hb2 ho2
    go_wp2_with fail
    go_ret
    exact ⟨true, rfl, iff6T (HI.out.mp h8), HB2.out⟩
  · have h8i : ¬ (8 : Int) < (P.length : Int) := by omega
    have hd8 : decide ((8 : Int) < (P.length : Int)) = false := decide_eq_false h8i
    go_enter Try.func19, Try.ntmps19
    go_wp2_with fail
    go_at_call 26
    refine C.out.mono ?_
    rintro e w2 ⟨R2, n2, c2, rfl, ho2, hb2⟩
    obtain ⟨rfl, _⟩ := ho2.row
    have HB2 := Lib.hid hb2
    clear hb2 ho2
    go_wp2_with fail
    go_ret
    exact ⟨false, rfl, iff6F (fun h => h8 (HI.out.mpr h)), HB2.out⟩
end Go.Proofs.Ytlmmbheamicdaab

namespace Go.Proofs.Ytlmmbheamicdaab
open Go.ChangeShapes Go.WideShapes Go.ChangeAt Go.RowKit Go.Deep

theorem rowOk_one {T : Ty} : RowOk [T] ↔ T.Ok := by
  constructor
  · intro h
    exact h.2 0 T rfl
  · intro h
    refine ⟨by show 1 ≤ 24; omega, fun i t ht => ?_⟩
    cases i with
    | zero =>
      obtain rfl : T = t := by simpa using ht
      exact h
    | succ i => simp at ht
theorem flats_one (T : Ty) : Ty.flats [T] = T.flat := by rw [Ty.flats_cons, Ty.flats_nil, List.append_nil]
theorem wt_one {T : Ty} (h : T.wt ≤ 1048576) {i : Nat} {x : Ty} (hx : [T][i]? = some x) : x.wt ≤ 1048576 := by
  cases i with
  | zero =>
    obtain rfl : T = x := by simpa using hx
    exact h
  | succ i => simp at hx
theorem wts_one (T : Ty) : Ty.wts [T] = T.wt := by
  rw [Ty.wts, Ty.wts]
  omega

set_option maxHeartbeats 1000000 in
theorem implFlatOf_any (T : Ty) (hT : T.wt ≤ 1048576) (A B : Option Addr) (ca cb : Nat) (w : World) (hat : Ty.At w 0 T A B) (hm : MaxC w) (P : List Int) (h1 : T.Ok → P = T.flat) (h0 : ¬ T.Ok → P = []) :
    Calls Try.prog 21 #[.agg #[.int .i64 T.kind, .string T.name, .slice A T.labels.length ca, .slice B T.kids.length cb]] w (FlatPost P w) := by
  have C := Lib.hid (fun R cb W h hm => implFlatAll_hw [T] (by show 1 ≤ 1048576; omega) (fun i x hx => wt_one hT hx) R cb 0 W h hm P (fun ho => by rw [flats_one]; exact h1 (rowOk_one.mp ho)) (fun ho => h0 (fun k => ho (rowOk_one.mpr k))))
  have HA := Lib.hid hat
  have HM := Lib.hid hm
  have HR : Hid (∀ (o : Obj), Ty.RowAt ((w.alloc o).alloc (.cells #[.int .i64 T.kind, .string T.name, .slice A T.labels.length ca, .slice B T.kids.length cb] 30)) 0 [T] (some ⟨w.heap.size + 1, 0, none⟩)) := Lib.hid (fun o _ => ⟨w.heap.size + 1, 0, rfl, Nat.zero_le _, fun i x hx => by
    cases i with
    | succ i => simp at hx
    | zero =>
      obtain rfl : T = x := by simpa using hx
      refine ⟨A, B, ca, cb, ?_, ?_, ?_, ?_, hat.below (below2 _ _ _)⟩ <;> go_simp⟩)
  clear hat hm h1 h0 hT
  go_enter Try.func21, Try.ntmps21
  go_wp2_with fail
  go_at_call 26
  refine (C.out _ _ _ (HR.out _) (HM.out.keep (below2 _ _ _))).mono ?_
  rintro e w2 ⟨R2, n2, c2, rfl, ho2, hb2⟩
  have HP := Lib.hid (FlatPost.from_ (P := P) (below2 _ _ _) ⟨R2, n2, c2, rfl, ho2, hb2⟩)
  clear ho2 hb2
  go_wp2_with fail
  go_ret
  exact HP.out
end Go.Proofs.Ytlmmbheamicdaab

namespace Go.Proofs.Ytlmmbheamicdaab
open Go.ChangeShapes Go.WideShapes Go.ChangeAt Go.RowKit Go.Deep

mutual
theorem Ty.mc_le7 : ∀ T : Ty, (T.mc : Int) ≤ 2 * T.wt
  | .mk k n ls ks => by
    have h1 := Ty.mcs_le7 ks
    have h2 := sumSz_nonneg ls
    rw [Ty.mc, Ty.wt]
    omega
theorem Ty.mcs_le7 : ∀ ks : List Ty, (Ty.mcs ks : Int) ≤ 2 * ks.length + 2 * Ty.wts ks
  | [] => by simp [Ty.mcs, Ty.wts]
  | t :: ts => by
    have h1 := Ty.mc_le7 t
    have h2 := Ty.mcs_le7 ts
    rw [Ty.mcs, Ty.wts]
    simp only [List.length_cons]
    omega
end
theorem kbBelow7 {bs : List Nat} {B : Nat} {w w' : World} (h : Kb bs w w') (hs : ∀ b ∈ bs, B ≤ b) (hB : B ≤ w.heap.size) : Below B w w' := ⟨h.os, h.tape, h.output, h.but.1, fun k hk => h.but.2 k (by omega) (fun hm => by have := hs k hm; omega)⟩
theorem rowsAt7 {w : World} {lo : Nat} {ks : List Ty} {B : Option Addr} {bs : List Nat} (h : Ty.RowsOwn w ks B bs) (hlo : ∀ b ∈ bs, lo ≤ b) : Ty.RowAt w lo ks B := by
  have h2 : Ty.Own w (.mk 0 ⟨#[]⟩ [] ks) none B bs := by
    unfold Ty.Own
    exact ⟨[], bs, by simp, Or.inl ⟨rfl, rfl⟩, h⟩
  exact (Ty.Own.at_ hlo h2).rowAt
theorem kbBut6 {bs : List Nat} {w w' : World} (h : Kb bs w w') : But6 bs w w' := ⟨h.os, h.tape, h.output, h.but.1, h.but.2⟩
theorem flatAns {P : List Int} {w : World} {e : Ending} {w' : World} (h : FlatPost P w e w') : Ans6 P w e w' := by
  obtain ⟨R, n, c, rfl, ⟨hl, ho⟩, hb⟩ := h
  subst hl
  obtain ⟨g, h1, h2, h3⟩ := Own6.of_own ho
  exact ⟨R, c, g, rfl, h1, h2, h3, hb⟩
theorem flats_60 : ∀ ks : List Ty, (∀ (i : Nat) (t : Ty), ks[i]? = some t → t.Ok) → (Ty.flats ks).length ≤ 60 * ks.length
  | [], _ => by rw [Ty.flats_nil]; exact Nat.zero_le _
  | t :: ts, h => by
    have h1 := (h 0 t rfl).flat
    have h2 := flats_60 ts (fun i u hu => h (i + 1) u hu)
    rw [Ty.flats_cons, List.length_append, List.length_cons]
    omega
theorem rowFlat_len {ks : List Ty} {P : List Int} (h1 : RowOk ks → P = Ty.flats ks) (h0 : ¬ RowOk ks → P = []) : P.length ≤ 1048576 := by
  by_cases ho : RowOk ks
  · have h2 := flats_60 ks ho.2
    have h3 := ho.1
    rw [h1 ho]
    omega
  · rw [h0 ho]
    exact Nat.zero_le _
theorem oneFlat_len {T : Ty} {P : List Int} (h1 : T.Ok → P = T.flat) (h0 : ¬ T.Ok → P = []) : P.length ≤ 1048576 := by
  by_cases ho : T.Ok
  · have h2 := ho.flat
    rw [h1 ho]
    omega
  · rw [h0 ho]
    exact Nat.zero_le _
end Go.Proofs.Ytlmmbheamicdaab

