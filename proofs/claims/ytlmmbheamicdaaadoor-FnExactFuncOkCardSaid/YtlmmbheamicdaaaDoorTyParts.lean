/-
  The walks of the model's l03Parts, l03Ok and TypeOk.
-/
import Derived.Test.YtlmmbheamicdaaaDoorTyShape
namespace Go.Proofs.YtlmmbheamicdaaaDoor
open Go.ChangeShapes Go.WideShapes Go.ChangeAt Go.RowKit Go.Deep

mutual
/-- Every part's own fields are as the table asks. -/
def Ty.Sound : Ty → Prop | .mk k n l ks => ShapeOk (.mk k n l ks) ∧ Ty.Sounds ks
def Ty.Sounds : List Ty → Prop | [] => True | t :: ts => t.Sound ∧ Ty.Sounds ts
end
theorem Ty.sound_eq (T : Ty) : T.Sound ↔ ShapeOk T ∧ Ty.Sounds T.kids := by
  cases T
  rw [Ty.Sound]
  exact Iff.rfl
theorem Ty.sounds_get : ∀ {ks : List Ty}, Ty.Sounds ks → ∀ {i : Nat} {t : Ty}, ks[i]? = some t → t.Sound
  | x :: xs, h, 0, t, ht => by
    unfold Ty.Sounds at h
    simp at ht
    subst ht
    exact h.1
  | x :: xs, h, i + 1, t, ht => by
    unfold Ty.Sounds at h
    exact Ty.sounds_get h.2 (i := i) (by simpa using ht)
theorem Ty.sounds_mk : ∀ {ks : List Ty}, (∀ (i : Nat) (t : Ty), ks[i]? = some t → t.Sound) → Ty.Sounds ks
  | [], _ => by unfold Ty.Sounds; trivial
  | x :: xs, h => by
    unfold Ty.Sounds
    exact ⟨h 0 x rfl, Ty.sounds_mk fun i t ht => h (i + 1) t (by simpa using ht)⟩
/-- What both programs call a valid type. -/
def Ty.Ok (T : Ty) : Prop := T.fits 1 ∧ T.Sound

def PartsTy (T : Ty) : Prop := ∀ (A B : Option Addr) (ca cb lo : Nat) (w : World), Ty.At w lo T A B →
  Calls Tryd.prog 38 #[.agg #[.int .i64 T.kind, .string T.name, .slice A T.labels.length ca, .slice B T.kids.length cb]] w (SaysB T.Sound w)

/-- So many kids are sound. -/
def SoundTo (ks : List Ty) (n : Nat) : Prop := ∀ (i : Nat) (t : Ty), i < n → ks[i]? = some t → t.Sound
theorem SoundTo.step {ks : List Ty} {k : Nat} {t : Ty} (h : SoundTo ks k) (ht : ks[k]? = some t) (hs : t.Sound) : SoundTo ks (k + 1) := fun i u hi hu => by
  by_cases e : i = k
  · subst e
    rw [ht] at hu
    cases hu
    exact hs
  · exact h i u (by omega) hu

theorem l03Parts_any (T : Ty) (hT : T.wt ≤ 1048576) : PartsTy T := by
  induction T using Ty.kidInd with
  | h T ih =>
    intro A B ca cb lo w hat
    obtain ⟨q1, q2, q3, _, _⟩ := Ty.len_le hT
    have IH : Hid (∀ (i : Nat) (t : Ty), T.kids[i]? = some t → PartsTy t) := Lib.hid (fun i t ht => ih i t ht (q3 i t ht))
    have HR := Lib.hid hat.rowAt
    have HE := Lib.hid (Ty.sound_eq T)
    have HA := Lib.hid hat
    have CS : Hid (∀ W : World, Ty.At W lo T A B → Calls Tryd.prog 45 #[.agg #[.int .i64 T.kind, .string T.name, .slice A T.labels.length ca, .slice B T.kids.length cb]] W (SaysB (ShapeOk T) W)) := Lib.hid (fun W h => l03Shape_any T hT A B ca cb lo W h)
    clear ih hat q3 hT
    by_cases hsh : ShapeOk T
    · have C : Hid (∀ W : World, Ty.At W lo T A B → Calls Tryd.prog 45 #[.agg #[.int .i64 T.kind, .string T.name, .slice A T.labels.length ca, .slice B T.kids.length cb]] W fun e w' => e = .returned (.bool true) ∧ Below W.heap.size W w') := Lib.hid (fun W h => (CS.out W h).mono fun _ _ k => k.yes hsh)
      have HSH := Lib.hid hsh
      clear hsh CS
      go_enter Tryd.func38, Tryd.ntmps38
      go_wp2_with (go_at_call 45; (with_reducible refine (C.out _ (HA.out.below (below1 _ _))).mono ?_); rintro e w2 ⟨rfl, hb2⟩; have HB2 := Lib.hid (bnext (below1 _ _) hb2); have hbx := keepCell (a := ⟨w.heap.size, 3, none⟩) (v := .slice B T.kids.length cb) hb2 (by go_simp); clear hb2)
      go_loopw [3] (fun i wr => ∃ k : Nat, k ≤ T.kids.length ∧ i = .int .i64 k ∧ Hid (SoundTo T.kids k) ∧ wr.cell? ⟨w.heap.size, 3, none⟩ = some (.slice B T.kids.length cb) ∧ Below w.heap.size w wr) (fun i _ => T.kids.length - (intOf i).toNat)
      case atStart => exact ⟨0, Nat.zero_le _, rfl, (fun i u hi => by omega), hbx, HB2.out⟩
      case round =>
        obtain ⟨k, hk, rfl, hno, hbox, hbel⟩ := hrel
        clear hbx
        by_cases hlt : k < T.kids.length
        · obtain ⟨b, o, t, A', B', ca', cb', rfl, _, htk, hc⟩ := (HR.out.below hbel).at_ hlt
          have CP := IH.out k t htk A' B' ca' cb' lo wr hc.tree
          obtain ⟨c0, c1, c2, c3, _⟩ := hc
          have HT := Lib.hid htk
          have HB := Lib.hid hbel
          have HX := Lib.hid hbox
          clear htk hbel
          by_cases hs : t.Sound
          · have CP' := Lib.hid (CP.mono fun _ _ k => k.yes hs)
            have HSS := Lib.hid hs
            clear hs CP
            go_wp2_with (go_at_call 38; (with_reducible refine CP'.out.mono ?_); rintro e w3 ⟨rfl, hb3⟩; have HB3 := Lib.hid hb3; clear hb3)
            go_roundw
            case rel => exact ⟨k + 1, by omega, by go_num, hno.out.step HT.out HSS.out, keepCell HB3.out HX.out, bnext HB.out HB3.out⟩
            case measure => simp [intOf]; omega
          · have CP' := Lib.hid (CP.mono fun _ _ k => k.no hs)
            have HSS := Lib.hid hs
            clear hs CP
            go_wp2_with (go_at_call 38; (with_reducible refine CP'.out.mono ?_); rintro e w3 ⟨rfl, hb3⟩; have HB3 := Lib.hid hb3; clear hb3)
            go_ret
            exact ⟨false, rfl, iffF (fun h => HSS.out (Ty.sounds_get (HE.out.mp h).2 HT.out)), bnext HB.out HB3.out⟩
        · have hk' : k = T.kids.length := by omega
          have HB := Lib.hid hbel
          clear hbel
          go_wp2
          go_ret
          exact ⟨true, rfl, iffT (HE.out.mpr ⟨HSH.out, Ty.sounds_mk fun i t ht => hno.out i t (by rw [hk']; exact (List.getElem?_eq_some_iff.1 ht).1) ht⟩), HB.out⟩
    · have C : Hid (∀ W : World, Ty.At W lo T A B → Calls Tryd.prog 45 #[.agg #[.int .i64 T.kind, .string T.name, .slice A T.labels.length ca, .slice B T.kids.length cb]] W fun e w' => e = .returned (.bool false) ∧ Below W.heap.size W w') := Lib.hid (fun W h => (CS.out W h).mono fun _ _ k => k.no hsh)
      have HSH := Lib.hid hsh
      clear hsh CS
      go_enter Tryd.func38, Tryd.ntmps38
      go_wp2_with (go_at_call 45; (with_reducible refine (C.out _ (HA.out.below (below1 _ _))).mono ?_); rintro e w2 ⟨rfl, hb2⟩; have HB2 := Lib.hid (bnext (below1 _ _) hb2); clear hb2)
      go_ret
      exact ⟨false, rfl, iffF (fun h => HSH.out (HE.out.mp h).1), HB2.out⟩

theorem l03Ok_any (T : Ty) (hT : T.wt ≤ 1048576) (A B : Option Addr) (ca cb lo : Nat) (w : World) (hat : Ty.At w lo T A B) :
    Calls Tryd.prog 23 #[.agg #[.int .i64 T.kind, .string T.name, .slice A T.labels.length ca, .slice B T.kids.length cb]] w (SaysB T.Ok w) := by
  have CZ := l03Size_any T hT 1 (by omega) (by omega) A B ca cb lo
  have CP := l03Parts_any T hT A B ca cb lo
  have HA := Lib.hid hat
  clear hat hT
  by_cases hf : T.fits 1
  · obtain ⟨e1, e2⟩ := sz_yes hf
    rw [e1, e2] at CZ
    have g1 : T.depth ≤ 4 := by have := hf.1; omega
    have g2 : T.size ≤ 24 := hf.2
    have HF := Lib.hid hf
    have CZ' : Hid (∀ W : World, Ty.At W lo T A B → Calls Tryd.prog 37 #[.agg #[.int .i64 T.kind, .string T.name, .slice A T.labels.length ca, .slice B T.kids.length cb], .int .i64 1] W fun e w' => e = .returned (.tuple #[.int .i64 (T.depth : Int), .int .i64 (T.size : Int)]) ∧ Below W.heap.size W w') := Lib.hid (fun W h => CZ W h)
    clear CZ e1 e2 hf
    generalize T.depth = td at *
    generalize T.size = ts at *
    by_cases hs : T.Sound
    · have CP' : Hid (∀ W : World, Ty.At W lo T A B → Calls Tryd.prog 38 #[.agg #[.int .i64 T.kind, .string T.name, .slice A T.labels.length ca, .slice B T.kids.length cb]] W fun e w' => e = .returned (.bool true) ∧ Below W.heap.size W w') := Lib.hid (fun W h => (CP W h).mono fun _ _ k => k.yes hs)
      have HS := Lib.hid hs
      clear CP hs
      go_enter Tryd.func23, Tryd.ntmps23
      go_wp2_with (first
        | (go_at_call 37; (with_reducible refine (CZ'.out _ (HA.out.below (below1 _ _))).mono ?_); rintro e w2 ⟨rfl, hb2⟩; obtain ⟨hc2, hf2⟩ := bcell hb2; have HB2 := Lib.hid (bnext (below1 _ _) hb2); clear hb2)
        | (go_at_call 38; (with_reducible refine (CP'.out _ (HA.out.below HB2.out)).mono ?_); rintro e w3 ⟨rfl, hb3⟩; have HB3 := Lib.hid hb3; clear hb3))
      go_ret
      exact ⟨true, rfl, iffT ⟨HF.out, HS.out⟩, bnext HB2.out HB3.out⟩
    · have CP' : Hid (∀ W : World, Ty.At W lo T A B → Calls Tryd.prog 38 #[.agg #[.int .i64 T.kind, .string T.name, .slice A T.labels.length ca, .slice B T.kids.length cb]] W fun e w' => e = .returned (.bool false) ∧ Below W.heap.size W w') := Lib.hid (fun W h => (CP W h).mono fun _ _ k => k.no hs)
      have HS := Lib.hid hs
      clear CP hs
      go_enter Tryd.func23, Tryd.ntmps23
      go_wp2_with (first
        | (go_at_call 37; (with_reducible refine (CZ'.out _ (HA.out.below (below1 _ _))).mono ?_); rintro e w2 ⟨rfl, hb2⟩; obtain ⟨hc2, hf2⟩ := bcell hb2; have HB2 := Lib.hid (bnext (below1 _ _) hb2); clear hb2)
        | (go_at_call 38; (with_reducible refine (CP'.out _ (HA.out.below HB2.out)).mono ?_); rintro e w3 ⟨rfl, hb3⟩; have HB3 := Lib.hid hb3; clear hb3))
      go_ret
      exact ⟨false, rfl, iffF (fun h => HS.out h.2), bnext HB2.out HB3.out⟩
  · obtain ⟨e1, e2⟩ := sz_not hf
    rw [e1, e2] at CZ
    have HF := Lib.hid hf
    have CZ' : Hid (∀ W : World, Ty.At W lo T A B → Calls Tryd.prog 37 #[.agg #[.int .i64 T.kind, .string T.name, .slice A T.labels.length ca, .slice B T.kids.length cb], .int .i64 1] W fun e w' => e = .returned (.tuple #[.int .i64 5, .int .i64 25]) ∧ Below W.heap.size W w') := Lib.hid (fun W h => CZ W h)
    clear CZ e1 e2 hf CP
    go_enter Tryd.func23, Tryd.ntmps23
    go_wp2_with (go_at_call 37; (with_reducible refine (CZ'.out _ (HA.out.below (below1 _ _))).mono ?_); rintro e w2 ⟨rfl, hb2⟩; obtain ⟨hc2, hf2⟩ := bcell hb2; have HB2 := Lib.hid (bnext (below1 _ _) hb2); clear hb2)
    go_ret
    exact ⟨false, rfl, iffF (fun h => HF.out h.1), HB2.out⟩
end Go.Proofs.YtlmmbheamicdaaaDoor
