/-
  The walks of the model's l03Resources and ResourcesOf.
-/
import Derived.Test.YtlmmbheamicdaaaResS
namespace Go.Proofs.Ytlmmbheamicdaaa
open Go.ChangeShapes Go.WideShapes Go.ChangeAt Go.RowKit Go.Deep

def ResPost (L : List Tx) (w : World) (e : Ending) (w' : World) : Prop := ∃ (R : Option Addr) (cap : Nat), e = .returned (.slice R L.length cap) ∧ Strs w' 0 (L.map tb) R ∧ Below w.heap.size w w'
def ResTy (T : Ty) : Prop := ∀ (L : List Tx), L.length + T.size ≤ 1000 → ∀ (A B A' : Option Addr) (ca cb ca' lo : Nat) (w : World), Ty.At w lo T A B → Strs w 0 (L.map tb) A' →
  Calls Try.prog 60 #[.agg #[.int .i64 T.kind, .string T.name, .slice A T.labels.length ca, .slice B T.kids.length cb], .slice A' L.length ca'] w (ResPost (putAll L T.names) w)
theorem namess_length (ks : List Ty) : (Ty.namess ks).length ≤ Ty.sizes ks := by
  unfold Ty.namess
  rw [← Ty.partss_length]
  generalize Ty.partss ks = ps
  induction ps with
  | nil => simp
  | cons p ps ih =>
    rw [List.flatMap_cons, List.length_append, List.length_cons]
    have : (nameOf p).length ≤ 1 := by unfold nameOf; split <;> simp
    omega

set_option maxHeartbeats 4000000 in
set_option maxRecDepth 100000 in
theorem resources_any (T : Ty) (hT : T.wt ≤ 1048576) : ResTy T := by
  induction T using Ty.kidInd with
  | h T ih =>
    intro L hL A B A' ca cb ca' lo w hat hst
    obtain ⟨q1, q2, q3, _, _⟩ := Ty.len_le hT
    have IH : Hid (∀ (i : Nat) (t : Ty), T.kids[i]? = some t → ResTy t) := Lib.hid (fun i t ht => ih i t ht (q3 i t ht))
    have HR := Lib.hid hat.rowAt
    have HST := Lib.hid hst
    have HL := Lib.hid hL
    have HSZ := Lib.hid T.size_eq
    have HNE : Hid (T.names = nameOf T ++ Ty.namess T.kids) := Lib.hid T.names_eq
    have hkl : T.kids.length ≤ 1048576 := q2
    clear ih hat hst hL q3 hT q1
    by_cases hn : T.name.size = 0
    · have e0 := name_nil hn
      have HN : Hid (nameOf T = []) := Lib.hid (by unfold nameOf; rw [if_pos hn])
      rw [e0]
      clear e0 hn
      go_enter Try.func60, Try.ntmps60
      go_wp2_with fail
      go_loopw [1, 5] (fun out i wr => ∃ k : Nat, k ≤ T.kids.length ∧ i = .int .i64 k ∧ (∃ (R : Option Addr) (c M : Nat), out = .slice R M c ∧ Hid (M = (putAll L (Ty.namess (T.kids.take k))).length ∧ Strs wr 0 ((putAll L (Ty.namess (T.kids.take k))).map tb) R)) ∧ wr.cell? ⟨w.heap.size, 3, none⟩ = some (.slice B T.kids.length cb) ∧ Hid (Below w.heap.size w wr)) (fun _ i _ => T.kids.length - (intOf i).toNat)
      case atStart => exact ⟨0, Nat.zero_le _, rfl, ⟨A', ca', L.length, rfl, by simp [Ty.namess, Ty.partss, putAll], by simpa [Ty.namess, Ty.partss, putAll] using HST.out.below (below1 _ _)⟩, by go_simp, below1 _ _⟩
      case round =>
        obtain ⟨k, hk, rfl, ⟨R, c, M, rfl, hinv⟩, hx3, HB⟩ := hrel
        by_cases hlt : k < T.kids.length
        · obtain ⟨b, o, t, A1, B1, ca1, cb1, rfl, _, htk, hc⟩ := (HR.out.below HB.out).at_ hlt
          have CS : Hid (∀ W : World, Ty.At W lo t A1 B1 → Strs W 0 ((putAll L (Ty.namess (T.kids.take k))).map tb) R → Calls Try.prog 60 #[.agg #[.int .i64 t.kind, .string t.name, .slice A1 t.labels.length ca1, .slice B1 t.kids.length cb1], .slice R M c] W (ResPost (putAll L (Ty.namess (T.kids.take (k + 1)))) W)) := Lib.hid (fun W h1 h2 => by
            have g1 := Ty.sizes_take htk
            have g2 := Ty.sizes_take_le T.kids (k + 1)
            have g3 := putAll_length L (Ty.namess (T.kids.take k))
            have g4 := namess_length (T.kids.take k)
            have g5 := HSZ.out
            have g6 := HL.out
            have g7 := True.intro
            have h := IH.out k t htk (putAll L (Ty.namess (T.kids.take k))) (by omega) A1 B1 R ca1 cb1 c lo W h1 h2
            rw [← putAll_append, ← Ty.namess_take htk, ← hinv.out.1] at h
            exact h)
          have HA := Lib.hid hc.tree
          obtain ⟨c0, c1, c2, c3, _⟩ := hc
          have hli : (k : Int) < (T.kids.length : Int) := by omega
          clear htk
          go_wp2_with fail
          go_at_call 60
          refine (CS.out _ HA.out hinv.out.2).mono ?_
          rintro e w3 ⟨R3, cap3, rfl, hs3, hb3⟩
          have HS3 := Lib.hid hs3
          have p3 := keepCell hb3 hx3
          have HB3 := Lib.hid (bnext HB.out hb3)
          clear hs3 hb3 CS c0 c1 c2 c3
          go_wp2_with fail
          go_roundw
          case rel => exact ⟨k + 1, by omega, by go_num, ⟨R3, cap3, _, rfl, rfl, HS3.out⟩, p3, HB3.out⟩
          case measure => simp [intOf]; omega
        · have hk' : k = T.kids.length := by omega
          have h9 := hinv.out
          rw [hk', List.take_length] at h9
          have H9 := Lib.hid h9
          have HE : Hid (putAll L T.names = putAll L (Ty.namess T.kids)) := Lib.hid (by rw [HNE.out, HN.out]; rfl)
          clear h9 hinv
          go_wp2_with fail
          go_ret
          rw [HE.out]
          refine ⟨R, c, ?_, H9.out.2, HB.out⟩
          show Ending.returned (.slice R M c) = _
          rw [← H9.out.1]
    · have HN : Hid (nameOf T = [T.name.data.toList]) := Lib.hid (by unfold nameOf; rw [if_neg hn])
      have he := not_empty T.name (by omega)
      have CP := Lib.hid (fun W h => putText_any L T.name.data.toList (by have := HL.out; omega) A' ca' 0 W h)
      rw [tb_of] at CP
      go_enter Try.func60, Try.ntmps60
      go_wp2_with fail
      go_at_call 81
      refine (CP.out _ (HST.out.below (below1 _ _))).mono ?_
      rintro e w2 ⟨R2, cap2, rfl, hown2, hb2⟩
      have HST2 := Lib.hid ((own_strs hown2).1.low (Nat.zero_le _))
      have k3 := keepCell (a := ⟨w.heap.size, 3, none⟩) (v := .slice B T.kids.length cb) hb2 (by go_simp)
      have HB2 := Lib.hid (bnext (below1 _ _) hb2)
      clear hown2 hb2 CP
      go_wp2_with fail
      go_loopw [1, 5] (fun out i wr => ∃ k : Nat, k ≤ T.kids.length ∧ i = .int .i64 k ∧ (∃ (R : Option Addr) (c M : Nat), out = .slice R M c ∧ Hid (M = (putAll (putR L T.name.data.toList) (Ty.namess (T.kids.take k))).length ∧ Strs wr 0 ((putAll (putR L T.name.data.toList) (Ty.namess (T.kids.take k))).map tb) R)) ∧ wr.cell? ⟨w.heap.size, 3, none⟩ = some (.slice B T.kids.length cb) ∧ Hid (Below w.heap.size w wr)) (fun _ i _ => T.kids.length - (intOf i).toNat)
      case atStart => exact ⟨0, Nat.zero_le _, rfl, ⟨R2, cap2, _, rfl, by simp [Ty.namess, Ty.partss, putAll], by simpa [Ty.namess, Ty.partss, putAll] using HST2.out⟩, k3, HB2.out⟩
      case round =>
        clear k3
        obtain ⟨k, hk, rfl, ⟨R, c, M, rfl, hinv⟩, hx3, HB⟩ := hrel
        by_cases hlt : k < T.kids.length
        · obtain ⟨b, o, t, A1, B1, ca1, cb1, rfl, _, htk, hc⟩ := (HR.out.below HB.out).at_ hlt
          have CS : Hid (∀ W : World, Ty.At W lo t A1 B1 → Strs W 0 ((putAll (putR L T.name.data.toList) (Ty.namess (T.kids.take k))).map tb) R → Calls Try.prog 60 #[.agg #[.int .i64 t.kind, .string t.name, .slice A1 t.labels.length ca1, .slice B1 t.kids.length cb1], .slice R M c] W (ResPost (putAll (putR L T.name.data.toList) (Ty.namess (T.kids.take (k + 1)))) W)) := Lib.hid (fun W h1 h2 => by
            have g1 := Ty.sizes_take htk
            have g2 := Ty.sizes_take_le T.kids (k + 1)
            have g3 := putAll_length (putR L T.name.data.toList) (Ty.namess (T.kids.take k))
            have g4 := namess_length (T.kids.take k)
            have g5 := HSZ.out
            have g6 := HL.out
            have g7 := putR_length_le T.name.data.toList L
            have h := IH.out k t htk (putAll (putR L T.name.data.toList) (Ty.namess (T.kids.take k))) (by omega) A1 B1 R ca1 cb1 c lo W h1 h2
            rw [← putAll_append, ← Ty.namess_take htk, ← hinv.out.1] at h
            exact h)
          have HA := Lib.hid hc.tree
          obtain ⟨c0, c1, c2, c3, _⟩ := hc
          have hli : (k : Int) < (T.kids.length : Int) := by omega
          clear htk
          go_wp2_with fail
          go_at_call 60
          refine (CS.out _ HA.out hinv.out.2).mono ?_
          rintro e w3 ⟨R3, cap3, rfl, hs3, hb3⟩
          have HS3 := Lib.hid hs3
          have p3 := keepCell hb3 hx3
          have HB3 := Lib.hid (bnext HB.out hb3)
          clear hs3 hb3 CS c0 c1 c2 c3
          go_wp2_with fail
          go_roundw
          case rel => exact ⟨k + 1, by omega, by go_num, ⟨R3, cap3, _, rfl, rfl, HS3.out⟩, p3, HB3.out⟩
          case measure => simp [intOf]; omega
        · have hk' : k = T.kids.length := by omega
          have h9 := hinv.out
          rw [hk', List.take_length] at h9
          have H9 := Lib.hid h9
          have HE : Hid (putAll L T.names = putAll (putR L T.name.data.toList) (Ty.namess T.kids)) := Lib.hid (by rw [HNE.out, HN.out]; rfl)
          clear h9 hinv
          go_wp2_with fail
          go_ret
          rw [HE.out]
          refine ⟨R, c, ?_, H9.out.2, HB.out⟩
          show Ending.returned (.slice R M c) = _
          rw [← H9.out.1]

/-- The names of a valid type's resources. -/
def resL (T : Ty) : List Tx := putAll [] T.names
theorem specRes_any (T : Ty) (hT : T.wt ≤ 1048576) (A B : Option Addr) (ca cb lo : Nat) (w : World) (hat : Ty.At w lo T A B) :
    Calls Try.prog 25 #[.agg #[.int .i64 T.kind, .string T.name, .slice A T.labels.length ca, .slice B T.kids.length cb]] w fun e w' => (T.Ok → ResPost (resL T) w e w') ∧ (¬ T.Ok → ResPost [] w e w') := by
  have CO := fun W h => l03Ok_any T hT A B ca cb lo W h
  have HA := Lib.hid hat
  by_cases ho : T.Ok
  · have CO' := Lib.hid (fun W h => (CO W h).mono fun _ _ k => k.yes ho)
    have HO := Lib.hid ho
    have CR : Hid (∀ (A' : Option Addr) (W : World), Ty.At W lo T A B → Calls Try.prog 60 #[.agg #[.int .i64 T.kind, .string T.name, .slice A T.labels.length ca, .slice B T.kids.length cb], .slice A' (0 : Nat) (0 : Nat)] W (ResPost (resL T) W)) := Lib.hid (fun A' W h => resources_any T hT [] (by have := ho.1.2; simp; omega) A B A' ca cb 0 lo W h (fun hp => absurd hp (by simp)))
    clear CO ho hat hT
    go_enter Try.func25, Try.ntmps25
    go_wp2_with fail
    go_at_call 51
    refine (CO'.out _ (HA.out.below (below1 _ _))).mono ?_
    rintro e w2 ⟨rfl, hb2⟩
    have k0 := keepCell (a := ⟨w.heap.size, 0, none⟩) (v := .int .i64 T.kind) hb2 (by go_simp)
    have k1 := keepCell (a := ⟨w.heap.size, 1, none⟩) (v := .string T.name) hb2 (by go_simp)
    have k2 := keepCell (a := ⟨w.heap.size, 2, none⟩) (v := .slice A T.labels.length ca) hb2 (by go_simp)
    have k3 := keepCell (a := ⟨w.heap.size, 3, none⟩) (v := .slice B T.kids.length cb) hb2 (by go_simp)
    have HB2 := Lib.hid (bnext (below1 _ _) hb2)
    clear hb2 CO'
    go_wp2_with fail
    go_at_call 60
    refine (CR.out _ _ (HA.out.below (bnext HB2.out (below1 _ _)))).mono ?_
    rintro e w3 ⟨R, cap, rfl, hs, hb3⟩
    have HS := Lib.hid hs
    have HB3 := Lib.hid (bnext (bnext HB2.out (below1 _ _)) hb3)
    clear hs hb3 CR
    go_wp2_with fail
    go_ret
    exact ⟨fun _ => ⟨R, cap, rfl, HS.out, HB3.out⟩, fun h => absurd HO.out h⟩
  · have CO' := Lib.hid (fun W h => (CO W h).mono fun _ _ k => k.no ho)
    have HO := Lib.hid ho
    clear CO ho hat hT
    go_enter Try.func25, Try.ntmps25
    go_wp2_with fail
    go_at_call 51
    refine (CO'.out _ (HA.out.below (below1 _ _))).mono ?_
    rintro e w2 ⟨rfl, hb2⟩
    have HB2 := Lib.hid (bnext (below1 _ _) hb2)
    clear hb2 CO'
    go_wp2_with fail
    go_ret
    exact ⟨fun h => absurd h HO.out, fun _ => ⟨some ⟨w2.heap.size, 0, none⟩, 0, rfl, fun hp => absurd hp (by simp), bnext HB2.out (below1 _ _)⟩⟩
end Go.Proofs.Ytlmmbheamicdaaa
