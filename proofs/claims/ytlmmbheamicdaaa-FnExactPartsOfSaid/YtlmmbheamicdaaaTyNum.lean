/-
  The walks of both PartsOf and of both DeepOf.
-/
import Derived.Test.YtlmmbheamicdaaaTyIn
namespace Go.Proofs.Ytlmmbheamicdaaa
open Go.ChangeShapes Go.WideShapes Go.ChangeAt Go.RowKit Go.Deep

/-- A number where it holds, and 0 where it doesn't. -/
def SaysNum (p : Prop) (n : Nat) (w : World) (e : Ending) (w' : World) : Prop := ∃ v : Int, e = .returned (.int .i64 v) ∧ ((p → v = (n : Int)) ∧ (¬ p → v = 0)) ∧ Below w.heap.size w w'
theorem saysNum_same {p : Prop} {n : Nat} {v u : Int} (h : (p → v = (n : Int)) ∧ (¬ p → v = 0)) (k : (p → u = (n : Int)) ∧ (¬ p → u = 0)) : v = u := by
  by_cases hp : p
  · rw [h.1 hp, k.1 hp]
  · rw [h.2 hp, k.2 hp]
theorem SaysNum.yes {p : Prop} {n : Nat} {w w' : World} {e : Ending} (h : SaysNum p n w e w') (hp : p) : e = .returned (.int .i64 (n : Int)) ∧ Below w.heap.size w w' := by
  obtain ⟨v, rfl, hv, hb⟩ := h
  rw [hv.1 hp]
  exact ⟨rfl, hb⟩
theorem SaysNum.no {p : Prop} {n : Nat} {w w' : World} {e : Ending} (h : SaysNum p n w e w') (hp : ¬ p) : e = .returned (.int .i64 0) ∧ Below w.heap.size w w' := by
  obtain ⟨v, rfl, hv, hb⟩ := h
  rw [hv.2 hp]
  exact ⟨rfl, hb⟩
theorem Ty.Ok.kid {T t : Ty} (h : T.Ok) {i : Nat} (ht : T.kids[i]? = some t) : t.Ok := by
  refine ⟨?_, Ty.sounds_get ((Ty.sound_eq T).mp h.2).2 ht⟩
  have := Ty.fits_kid h.1 ht
  unfold Ty.fits at *
  omega

theorem specParts_any (T : Ty) (hT : T.wt ≤ 1048576) (A B : Option Addr) (ca cb lo : Nat) (w : World) (hat : Ty.At w lo T A B) :
    Calls Try.prog 19 #[.agg #[.int .i64 T.kind, .string T.name, .slice A T.labels.length ca, .slice B T.kids.length cb]] w (SaysNum T.Ok T.size w) := by
  have CO := fun W h => l03Ok_any T hT A B ca cb lo W h
  have CZ := l03Size_any T hT 1 (by omega) (by omega) A B ca cb lo
  have HA := Lib.hid hat
  clear hat hT
  by_cases ho : T.Ok
  · have CO' := Lib.hid (fun W h => (CO W h).mono fun _ _ k => k.yes ho)
    obtain ⟨e1, e2⟩ := sz_yes ho.1
    rw [e1, e2] at CZ
    have CZ' : Hid (∀ W : World, Ty.At W lo T A B → Calls Try.prog 52 #[.agg #[.int .i64 T.kind, .string T.name, .slice A T.labels.length ca, .slice B T.kids.length cb], .int .i64 1] W fun e w' => e = .returned (.tuple #[.int .i64 (T.depth : Int), .int .i64 (T.size : Int)]) ∧ Below W.heap.size W w') := Lib.hid (fun W h => CZ W h)
    have HO := Lib.hid ho
    clear ho CO CZ e1 e2
    generalize T.depth = td at *
    generalize T.size = ts at *
    go_enter Try.func19, Try.ntmps19
    go_wp2_with fail
    go_at_call 51
    refine (CO'.out _ (HA.out.below (below1 _ _))).mono ?_
    rintro e w2 ⟨rfl, hb2⟩
    have k0 := keepCell (a := ⟨w.heap.size, 0, none⟩) (v := .int .i64 T.kind) hb2 (by go_simp)
    have k1 := keepCell (a := ⟨w.heap.size, 1, none⟩) (v := .string T.name) hb2 (by go_simp)
    have k2 := keepCell (a := ⟨w.heap.size, 2, none⟩) (v := .slice A T.labels.length ca) hb2 (by go_simp)
    have k3 := keepCell (a := ⟨w.heap.size, 3, none⟩) (v := .slice B T.kids.length cb) hb2 (by go_simp)
    have HB2 := Lib.hid (bnext (below1 _ _) hb2)
    clear hb2
    go_wp2_with fail
    go_at_call 52
    refine (CZ'.out _ (HA.out.below HB2.out)).mono ?_
    rintro e w3 ⟨rfl, hb3⟩
    have HB3 := Lib.hid (bnext HB2.out hb3)
    clear hb3
    go_wp2_with fail
    go_ret
    exact ⟨_, rfl, ⟨fun _ => rfl, fun h => absurd HO.out h⟩, HB3.out⟩
  · have CO' := Lib.hid (fun W h => (CO W h).mono fun _ _ k => k.no ho)
    have HO := Lib.hid ho
    clear ho CO CZ
    go_enter Try.func19, Try.ntmps19
    go_wp2_with fail
    go_at_call 51
    refine (CO'.out _ (HA.out.below (below1 _ _))).mono ?_
    rintro e w2 ⟨rfl, hb2⟩
    have HB2 := Lib.hid (bnext (below1 _ _) hb2)
    clear hb2
    go_wp2_with fail
    go_ret
    exact ⟨0, rfl, ⟨fun h => absurd h HO.out, fun _ => rfl⟩, HB2.out⟩
theorem specDeep_any (T : Ty) (hT : T.wt ≤ 1048576) (A B : Option Addr) (ca cb lo : Nat) (w : World) (hat : Ty.At w lo T A B) :
    Calls Try.prog 15 #[.agg #[.int .i64 T.kind, .string T.name, .slice A T.labels.length ca, .slice B T.kids.length cb]] w (SaysNum T.Ok T.depth w) := by
  have CO := fun W h => l03Ok_any T hT A B ca cb lo W h
  have CZ := l03Size_any T hT 1 (by omega) (by omega) A B ca cb lo
  have HA := Lib.hid hat
  clear hat hT
  by_cases ho : T.Ok
  · have CO' := Lib.hid (fun W h => (CO W h).mono fun _ _ k => k.yes ho)
    obtain ⟨e1, e2⟩ := sz_yes ho.1
    rw [e1, e2] at CZ
    have CZ' : Hid (∀ W : World, Ty.At W lo T A B → Calls Try.prog 52 #[.agg #[.int .i64 T.kind, .string T.name, .slice A T.labels.length ca, .slice B T.kids.length cb], .int .i64 1] W fun e w' => e = .returned (.tuple #[.int .i64 (T.depth : Int), .int .i64 (T.size : Int)]) ∧ Below W.heap.size W w') := Lib.hid (fun W h => CZ W h)
    have HO := Lib.hid ho
    clear ho CO CZ e1 e2
    generalize T.depth = td at *
    generalize T.size = ts at *
    go_enter Try.func15, Try.ntmps15
    go_wp2_with fail
    go_at_call 51
    refine (CO'.out _ (HA.out.below (below1 _ _))).mono ?_
    rintro e w2 ⟨rfl, hb2⟩
    have k0 := keepCell (a := ⟨w.heap.size, 0, none⟩) (v := .int .i64 T.kind) hb2 (by go_simp)
    have k1 := keepCell (a := ⟨w.heap.size, 1, none⟩) (v := .string T.name) hb2 (by go_simp)
    have k2 := keepCell (a := ⟨w.heap.size, 2, none⟩) (v := .slice A T.labels.length ca) hb2 (by go_simp)
    have k3 := keepCell (a := ⟨w.heap.size, 3, none⟩) (v := .slice B T.kids.length cb) hb2 (by go_simp)
    have HB2 := Lib.hid (bnext (below1 _ _) hb2)
    clear hb2
    go_wp2_with fail
    go_at_call 52
    refine (CZ'.out _ (HA.out.below HB2.out)).mono ?_
    rintro e w3 ⟨rfl, hb3⟩
    have HB3 := Lib.hid (bnext HB2.out hb3)
    clear hb3
    go_wp2_with fail
    go_ret
    exact ⟨_, rfl, ⟨fun _ => rfl, fun h => absurd HO.out h⟩, HB3.out⟩
  · have CO' := Lib.hid (fun W h => (CO W h).mono fun _ _ k => k.no ho)
    have HO := Lib.hid ho
    clear ho CO CZ
    go_enter Try.func15, Try.ntmps15
    go_wp2_with fail
    go_at_call 51
    refine (CO'.out _ (HA.out.below (below1 _ _))).mono ?_
    rintro e w2 ⟨rfl, hb2⟩
    have HB2 := Lib.hid (bnext (below1 _ _) hb2)
    clear hb2
    go_wp2_with fail
    go_ret
    exact ⟨0, rfl, ⟨fun h => absurd h HO.out, fun _ => rfl⟩, HB2.out⟩

theorem implParts_any (T : Ty) (lo : Nat) (hT : T.wt ≤ 1048576) (A B : Option Addr) (ca cb : Nat) (w : World) (hat : Ty.At w lo T A B) (hm : MaxC w) :
    Calls Try.prog 20 #[.agg #[.int .i64 T.kind, .string T.name, .slice A T.labels.length ca, .slice B T.kids.length cb]] w (SaysNum T.Ok T.size w) := by
  have C := partsIn_any T lo hT A B ca cb (w.alloc (.cells #[.int .i64 T.kind, .string T.name, .slice A T.labels.length ca, .slice B T.kids.length cb] 30)) (hat.below (below1 _ _)) (hm.keep (below1 _ _))
  clear hat hm hT
  by_cases ho : T.Ok
  · have C' := Lib.hid (C.mono fun _ _ h => h.1 ho)
    have HO := Lib.hid ho
    have hs : T.size ≤ 24 := ho.1.2
    clear C ho
    go_enter Try.func20, Try.ntmps20
    go_wp2_with fail
    go_at_call 55
    refine C'.out.mono ?_
    rintro e w2 ⟨g, cap, tvs, rfl, _, _, _, hb⟩
    have HB := Lib.hid (bnext (below1 _ _) hb)
    clear hb C'
    go_wp2_with fail
    go_ret
    exact ⟨_, rfl, ⟨fun _ => rfl, fun h => absurd HO.out h⟩, HB.out⟩
  · have C' := Lib.hid (C.mono fun _ _ h => h.2 ho)
    have HO := Lib.hid ho
    clear C ho
    go_enter Try.func20, Try.ntmps20
    go_wp2_with fail
    go_at_call 55
    refine C'.out.mono ?_
    rintro e w2 ⟨rfl, hb⟩
    have HB := Lib.hid (bnext (below1 _ _) hb)
    clear hb C'
    go_wp2_with fail
    go_ret
    exact ⟨0, rfl, ⟨fun h => absurd h HO.out, fun _ => rfl⟩, HB.out⟩
end Go.Proofs.Ytlmmbheamicdaaa
