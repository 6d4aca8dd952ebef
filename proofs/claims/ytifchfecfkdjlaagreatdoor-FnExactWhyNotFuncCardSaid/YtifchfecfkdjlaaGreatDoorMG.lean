/-
  TyParts, WhyU, WhS1, TyAo: in one text.
-/
import Derived.Test.YtifchfecfkdjlaaGreatDoorTyShape
import Derived.Test.YtifchfecfkdjlaaGreatDoorMC
import Derived.Test.YtifchfecfkdjlaaGreatDoorME
import Derived.Test.YtifchfecfkdjlaaGreatDoorTyPl
namespace Go.Proofs.YtifchfecfkdjlaaGreatDoor
open Go.ChangeShapes Go.WideShapes Go.ChangeAt Go.RowKit Go.Deep

mutual
/-- Every part's own fields are as the table asks. -/
def Ty.Sound : Ty → Prop | .mk k n l ks => ShapeOk (.mk k n l ks) ∧ Ty.Sounds ks
def Ty.Sounds : List Ty → Prop | [] => True | t :: ts => t.Sound ∧ Ty.Sounds ts
end
theorem Ty.sound_eq (T : Ty) : T.Sound ↔ ShapeOk T ∧ Ty.Sounds T.kids := by
  cases T
  rw [Ty.Sound]
  exact Iff.rfl
theorem Ty.sounds_get : ∀ {ks : List Ty}, Ty.Sounds ks → ∀ {i : Nat} {t : Ty}, ks[i]? = some t → t.Sound
  | x :: xs, h, 0, t, ht => by
    unfold Ty.Sounds at h
    simp at ht
    subst ht
    exact h.1
  | x :: xs, h, i + 1, t, ht => by
    unfold Ty.Sounds at h
    exact Ty.sounds_get h.2 (i := i) (by simpa using ht)
theorem Ty.sounds_mk : ∀ {ks : List Ty}, (∀ (i : Nat) (t : Ty), ks[i]? = some t → t.Sound) → Ty.Sounds ks
  | [], _ => by unfold Ty.Sounds; trivial
  | x :: xs, h => by
    unfold Ty.Sounds
    exact ⟨h 0 x rfl, Ty.sounds_mk fun i t ht => h (i + 1) t (by simpa using ht)⟩
/-- What both programs call a valid type. -/
def Ty.Ok (T : Ty) : Prop := T.fits 1 ∧ T.Sound

def PartsTy (T : Ty) : Prop := ∀ (A B : Option Addr) (ca cb lo : Nat) (w : World), Ty.At w lo T A B →
  Calls Tryz.prog 62 #[.agg #[.int .i64 T.kind, .string T.name, .slice A T.labels.length ca, .slice B T.kids.length cb]] w (SaysB T.Sound w)

/-- So many kids are sound. -/
def SoundTo (ks : List Ty) (n : Nat) : Prop := ∀ (i : Nat) (t : Ty), i < n → ks[i]? = some t → t.Sound
theorem SoundTo.step {ks : List Ty} {k : Nat} {t : Ty} (h : SoundTo ks k) (ht : ks[k]? = some t) (hs : t.Sound) : SoundTo ks (k + 1) := fun i u hi hu => by
  by_cases e : i = k
  · subst e
    rw [ht] at hu
    cases hu
    exact hs
  · exact h i u (by omega) hu

theorem l03Parts_any (T : Ty) (hT : T.wt ≤ 1048576) : PartsTy T := by
  induction T using Ty.kidInd with
  | h T ih =>
    intro A B ca cb lo w hat
    obtain ⟨q1, q2, q3, _, _⟩ := Ty.len_le hT
    have IH : Hid (∀ (i : Nat) (t : Ty), T.kids[i]? = some t → PartsTy t) := Lib.hid (fun i t ht => ih i t ht (q3 i t ht))
    have HR := Lib.hid hat.rowAt
    have HE := Lib.hid (Ty.sound_eq T)
    have HA := Lib.hid hat
    have CS : Hid (∀ W : World, Ty.At W lo T A B → Calls Tryz.prog 85 #[.agg #[.int .i64 T.kind, .string T.name, .slice A T.labels.length ca, .slice B T.kids.length cb]] W (SaysB (ShapeOk T) W)) := Lib.hid (fun W h => l03Shape_any T hT A B ca cb lo W h)
    clear ih hat q3 hT
    by_cases hsh : ShapeOk T
    · have C : Hid (∀ W : World, Ty.At W lo T A B → Calls Tryz.prog 85 #[.agg #[.int .i64 T.kind, .string T.name, .slice A T.labels.length ca, .slice B T.kids.length cb]] W fun e w' => e = .returned (.bool true) ∧ Below W.heap.size W w') := Lib.hid (fun W h => (CS.out W h).mono fun _ _ k => k.yes hsh)
      have HSH := Lib.hid hsh
      clear hsh CS
      go_enter Tryz.func62, Tryz.ntmps62
      go_wp2_with (go_at_call 85; (with_reducible refine (C.out _ (HA.out.below (below1 _ _))).mono ?_); rintro e w2 ⟨rfl, hb2⟩; have HB2 := Lib.hid (bnext (below1 _ _) hb2); have hbx := keepCell (a := ⟨w.heap.size, 3, none⟩) (v := .slice B T.kids.length cb) hb2 (by go_simp); clear hb2)
      go_loopw [3] (fun i wr => ∃ k : Nat, k ≤ T.kids.length ∧ i = .int .i64 k ∧ Hid (SoundTo T.kids k) ∧ wr.cell? ⟨w.heap.size, 3, none⟩ = some (.slice B T.kids.length cb) ∧ Below w.heap.size w wr) (fun i _ => T.kids.length - (intOf i).toNat)
      case atStart => exact ⟨0, Nat.zero_le _, rfl, (fun i u hi => by omega), hbx, HB2.out⟩
      case round =>
        obtain ⟨k, hk, rfl, hno, hbox, hbel⟩ := hrel
        clear hbx
        by_cases hlt : k < T.kids.length
        · obtain ⟨b, o, t, A', B', ca', cb', rfl, _, htk, hc⟩ := (HR.out.below hbel).at_ hlt
          have CP := IH.out k t htk A' B' ca' cb' lo wr hc.tree
          obtain ⟨c0, c1, c2, c3, _⟩ := hc
          have HT := Lib.hid htk
          have HB := Lib.hid hbel
          have HX := Lib.hid hbox
          clear htk hbel
          by_cases hs : t.Sound
          · have CP' := Lib.hid (CP.mono fun _ _ k => k.yes hs)
            have HSS := Lib.hid hs
            clear hs CP
            go_wp2_with (go_at_call 62; (with_reducible refine CP'.out.mono ?_); rintro e w3 ⟨rfl, hb3⟩; have HB3 := Lib.hid hb3; clear hb3)
            go_roundw
            case rel => exact ⟨k + 1, by omega, by go_num, hno.out.step HT.out HSS.out, keepCell HB3.out HX.out, bnext HB.out HB3.out⟩
            case measure => simp [intOf]; omega
          · have CP' := Lib.hid (CP.mono fun _ _ k => k.no hs)
            have HSS := Lib.hid hs
            clear hs CP
            go_wp2_with (go_at_call 62; (with_reducible refine CP'.out.mono ?_); rintro e w3 ⟨rfl, hb3⟩; have HB3 := Lib.hid hb3; clear hb3)
            go_ret
            exact ⟨false, rfl, iffF (fun h => HSS.out (Ty.sounds_get (HE.out.mp h).2 HT.out)), bnext HB.out HB3.out⟩
        · have hk' : k = T.kids.length := by omega
          have HB := Lib.hid hbel
          clear hbel
          go_wp2
          go_ret
          exact ⟨true, rfl, iffT (HE.out.mpr ⟨HSH.out, Ty.sounds_mk fun i t ht => hno.out i t (by rw [hk']; exact (List.getElem?_eq_some_iff.1 ht).1) ht⟩), HB.out⟩
    · have C : Hid (∀ W : World, Ty.At W lo T A B → Calls Tryz.prog 85 #[.agg #[.int .i64 T.kind, .string T.name, .slice A T.labels.length ca, .slice B T.kids.length cb]] W fun e w' => e = .returned (.bool false) ∧ Below W.heap.size W w') := Lib.hid (fun W h => (CS.out W h).mono fun _ _ k => k.no hsh)
      have HSH := Lib.hid hsh
      clear hsh CS
      go_enter Tryz.func62, Tryz.ntmps62
      go_wp2_with (go_at_call 85; (with_reducible refine (C.out _ (HA.out.below (below1 _ _))).mono ?_); rintro e w2 ⟨rfl, hb2⟩; have HB2 := Lib.hid (bnext (below1 _ _) hb2); clear hb2)
      go_ret
      exact ⟨false, rfl, iffF (fun h => HSH.out (HE.out.mp h).1), HB2.out⟩

theorem l03Ok_any (T : Ty) (hT : T.wt ≤ 1048576) (A B : Option Addr) (ca cb lo : Nat) (w : World) (hat : Ty.At w lo T A B) :
    Calls Tryz.prog 40 #[.agg #[.int .i64 T.kind, .string T.name, .slice A T.labels.length ca, .slice B T.kids.length cb]] w (SaysB T.Ok w) := by
  have CZ := l03Size_any T hT 1 (by omega) (by omega) A B ca cb lo
  have CP := l03Parts_any T hT A B ca cb lo
  have HA := Lib.hid hat
  clear hat hT
  by_cases hf : T.fits 1
  · obtain ⟨e1, e2⟩ := sz_yes hf
    rw [e1, e2] at CZ
    have g1 : T.depth ≤ 4 := by have := hf.1; omega
    have g2 : T.size ≤ 24 := hf.2
    have HF := Lib.hid hf
    have CZ' : Hid (∀ W : World, Ty.At W lo T A B → Calls Tryz.prog 61 #[.agg #[.int .i64 T.kind, .string T.name, .slice A T.labels.length ca, .slice B T.kids.length cb], .int .i64 1] W fun e w' => e = .returned (.tuple #[.int .i64 (T.depth : Int), .int .i64 (T.size : Int)]) ∧ Below W.heap.size W w') := Lib.hid (fun W h => CZ W h)
    clear CZ e1 e2 hf
    generalize T.depth = td at *
    generalize T.size = ts at *
    by_cases hs : T.Sound
    · have CP' : Hid (∀ W : World, Ty.At W lo T A B → Calls Tryz.prog 62 #[.agg #[.int .i64 T.kind, .string T.name, .slice A T.labels.length ca, .slice B T.kids.length cb]] W fun e w' => e = .returned (.bool true) ∧ Below W.heap.size W w') := Lib.hid (fun W h => (CP W h).mono fun _ _ k => k.yes hs)
      have HS := Lib.hid hs
      clear CP hs
      go_enter Tryz.func40, Tryz.ntmps40
      go_wp2_with (first
        | (go_at_call 61; (with_reducible refine (CZ'.out _ (HA.out.below (below1 _ _))).mono ?_); rintro e w2 ⟨rfl, hb2⟩; obtain ⟨hc2, hf2⟩ := bcell hb2; have HB2 := Lib.hid (bnext (below1 _ _) hb2); clear hb2)
        | (go_at_call 62; (with_reducible refine (CP'.out _ (HA.out.below HB2.out)).mono ?_); rintro e w3 ⟨rfl, hb3⟩; have HB3 := Lib.hid hb3; clear hb3))
      go_ret
      exact ⟨true, rfl, iffT ⟨HF.out, HS.out⟩, bnext HB2.out HB3.out⟩
    · have CP' : Hid (∀ W : World, Ty.At W lo T A B → Calls Tryz.prog 62 #[.agg #[.int .i64 T.kind, .string T.name, .slice A T.labels.length ca, .slice B T.kids.length cb]] W fun e w' => e = .returned (.bool false) ∧ Below W.heap.size W w') := Lib.hid (fun W h => (CP W h).mono fun _ _ k => k.no hs)
      have HS := Lib.hid hs
      clear CP hs
      go_enter Tryz.func40, Tryz.ntmps40
      go_wp2_with (first
        | (go_at_call 61; (with_reducible refine (CZ'.out _ (HA.out.below (below1 _ _))).mono ?_); rintro e w2 ⟨rfl, hb2⟩; obtain ⟨hc2, hf2⟩ := bcell hb2; have HB2 := Lib.hid (bnext (below1 _ _) hb2); clear hb2)
        | (go_at_call 62; (with_reducible refine (CP'.out _ (HA.out.below HB2.out)).mono ?_); rintro e w3 ⟨rfl, hb3⟩; have HB3 := Lib.hid hb3; clear hb3))
      go_ret
      exact ⟨false, rfl, iffF (fun h => HS.out h.2), bnext HB2.out HB3.out⟩
  · obtain ⟨e1, e2⟩ := sz_not hf
    rw [e1, e2] at CZ
    have HF := Lib.hid hf
    have CZ' : Hid (∀ W : World, Ty.At W lo T A B → Calls Tryz.prog 61 #[.agg #[.int .i64 T.kind, .string T.name, .slice A T.labels.length ca, .slice B T.kids.length cb], .int .i64 1] W fun e w' => e = .returned (.tuple #[.int .i64 5, .int .i64 25]) ∧ Below W.heap.size W w') := Lib.hid (fun W h => CZ W h)
    clear CZ e1 e2 hf CP
    go_enter Tryz.func40, Tryz.ntmps40
    go_wp2_with (go_at_call 61; (with_reducible refine (CZ'.out _ (HA.out.below (below1 _ _))).mono ?_); rintro e w2 ⟨rfl, hb2⟩; obtain ⟨hc2, hf2⟩ := bcell hb2; have HB2 := Lib.hid (bnext (below1 _ _) hb2); clear hb2)
    go_ret
    exact ⟨false, rfl, iffF (fun h => HF.out h.1), HB2.out⟩
end Go.Proofs.YtifchfecfkdjlaaGreatDoor

namespace Go.Proofs.YtifchfecfkdjlaaGreatDoor
open Go.ChangeShapes Go.WideShapes Go.ChangeAt Go.RowKit Go.Deep

def rk : Option (Int × ByteArray) → Int | none => 0 | some x => x.1
def ra : Option (Int × ByteArray) → ByteArray | none => ⟨#[]⟩ | some x => x.2
def RsnPost (r : Option (Int × ByteArray)) (w : World) (e : Ending) (w' : World) : Prop := e = .returned (.agg #[.int .i64 (rk r), .string (ra r)]) ∧ Below w.heap.size w w'

theorem Ty.Pl.on {w w' : World} {T : Ty} {A B : Option Addr} (h : Ty.Pl w 0 T A B) (hb : Below w.heap.size w w') : Ty.Pl w' 0 T A B := h.keep (Kp.below hb).1
theorem RsnPost.none_ {w w' : World} {e : Ending} (h : RsnPost none w e w') : e = .returned (.agg #[.int .i64 0, .string ⟨#[]⟩]) ∧ Below w.heap.size w w' := h
theorem RsnPost.some_ {k : Int} {p : ByteArray} {w w' : World} {e : Ending} (h : RsnPost (some (k, p)) w e w') : e = .returned (.agg #[.int .i64 k, .string p]) ∧ Below w.heap.size w w' := h

theorem under_none (s : ByteArray) (w : World) : Calls Tryz.prog 60 #[.agg #[.int .i64 0, .string ⟨#[]⟩], .string s] w (RsnPost none w) := by
  go_enter Tryz.func60, Tryz.ntmps60
  go_wp2_with fail
  exact bodyPost_ret (v := .agg #[.int .i64 0, .string ⟨#[]⟩]) (by simp [results, Tryz.results60, go_sem]) rfl ⟨rfl, by (first | (with_reducible exact (below2 _ _ _)) | ((with_reducible refine Below.setCell ((below2 _ _ _)) ?_ _) <;> (first | exact Nat.le_refl _ | exact Nat.le_add_right _ _ | (dsimp only; omega) | (simp; omega))) | ((with_reducible refine Below.setCell (Below.setCell ((below2 _ _ _)) ?_ _) ?_ _) <;> (first | exact Nat.le_refl _ | exact Nat.le_add_right _ _ | (dsimp only; omega) | (simp; omega))) | ((with_reducible refine Below.setCell (Below.setCell (Below.setCell ((below2 _ _ _)) ?_ _) ?_ _) ?_ _) <;> (first | exact Nat.le_refl _ | exact Nat.le_add_right _ _ | (dsimp only; omega) | (simp; omega))))⟩
theorem under_some (k : Int) (p s : ByteArray) (hk : 1 ≤ k ∧ k ≤ 11) (hp : p.size ≤ 100000000) (hs : s.size ≤ 100000000) (w : World) : Calls Tryz.prog 60 #[.agg #[.int .i64 k, .string p], .string s] w (RsnPost (some (k, s ++ p)) w) := by
  have e1 : (k == 0) = false := by rw [beq_eq_false_iff_ne]; omega
  have e2 : (k != 0) = true := by rw [bne_iff_ne]; omega
  have hsz : ¬ 9223372036854775807 < s.size + p.size := by omega
  clear hk hp hs
  go_enter Tryz.func60, Tryz.ntmps60
  go_wp2_with fail
  refine bodyPost_ret (v := .agg #[.int .i64 k, .string (s ++ p)]) (by simp [results, Tryz.results60, go_sem]) rfl ⟨rfl, ?_⟩
  (first | (with_reducible exact below2 _ _ _) | ((with_reducible refine Below.setCell (below2 _ _ _) ?_ _) <;> (first | exact Nat.le_refl _ | exact Nat.le_add_right _ _ | (dsimp only; omega) | (simp; omega))) | ((with_reducible refine Below.setCell (Below.setCell (below2 _ _ _) ?_ _) ?_ _) <;> (first | exact Nat.le_refl _ | exact Nat.le_add_right _ _ | (dsimp only; omega) | (simp; omega))) | ((with_reducible refine Below.setCell (Below.setCell (Below.setCell (below2 _ _ _) ?_ _) ?_ _) ?_ _) <;> (first | exact Nat.le_refl _ | exact Nat.le_add_right _ _ | (dsimp only; omega) | (simp; omega))))
theorem under_any (r : Option (Int × ByteArray)) (hr : RsnOk 100000000 r) (s : ByteArray) (hs : s.size ≤ 100000000) (w : World) :
    Calls Tryz.prog 60 #[.agg #[.int .i64 (rk r), .string (ra r)], .string s] w (RsnPost (preR s r) w) := by
  cases r with
  | none => exact under_none s w
  | some x =>
    obtain ⟨k, p⟩ := x
    obtain ⟨h1, h2⟩ := hr k p rfl
    exact under_some k p s h1 h2 hs w

/-- A type in order, not deeper than n. -/
def Gd (n : Nat) (T : Ty) : Prop := T.wt ≤ 1048576 ∧ T.Sound ∧ T.depth ≤ n ∧ T.size ≤ 24
theorem Gd.kid {n : Nat} {T t : Ty} (h : Gd (n + 1) T) {i : Nat} (ht : T.kids[i]? = some t) : Gd n t := by
  obtain ⟨h1, h2, h3, h4⟩ := h
  have g1 := Ty.depths_get ht
  have g2 := T.depth_eq
  have g3 := Ty.size_kid ht
  exact ⟨(Ty.len_le h1).2.2.1 i t ht, Ty.sounds_get ((Ty.sound_eq T).1 h2).2 ht, by omega, by omega⟩
theorem Gd.shape {n : Nat} {T : Ty} (h : Gd n T) : ShapeOk T := ((Ty.sound_eq T).1 h.2.1).1
theorem Gd.kids {n : Nat} {T : Ty} (h : Gd n T) : T.kids.length ≤ 24 := by
  have h2 := T.size_eq
  have h3 := Ty.length_le T.kids
  have := h.2.2.2
  omega
theorem ShapeOk.one {T : Ty} (h : ShapeOk T) (hk : T.kind = 12 ∨ T.kind = 13 ∨ T.kind = 22 ∨ T.kind = 23) : T.kids.length = 1 := by
  have h1 := h.2
  unfold BodyOk at h1
  rcases hk with e | e | e | e
  · rw [if_pos (Or.inl e)] at h1; exact h1.1
  · rw [if_pos (Or.inr e)] at h1; exact h1.1
  · rw [if_neg (by omega), if_pos (Or.inl e)] at h1; exact h1.1
  · rw [if_neg (by omega), if_pos (Or.inr e)] at h1; exact h1.1
theorem ShapeOk.two {T : Ty} (h : ShapeOk T) (hk : T.kind = 14) : T.kids.length = 2 := by
  have h1 := h.2
  unfold BodyOk at h1
  rw [if_neg (by omega), if_neg (by omega), if_pos hk] at h1
  exact h1
theorem ShapeOk.six {T : Ty} (h : ShapeOk T) (hk : T.kind = 15) : T.kids.length ≤ 6 := by
  have h1 := h.2
  unfold BodyOk at h1
  rw [if_neg (by omega), if_neg (by omega), if_neg (by omega), if_pos hk] at h1
  exact h1.1.2
theorem ShapeOk.lab {T : Ty} (h : ShapeOk T) (hk : T.kind = 16 ∨ T.kind = 17) : T.kids.length = T.labels.length := by
  have h1 := h.2
  unfold BodyOk at h1
  rcases hk with e | e
  · rw [if_neg (by omega), if_neg (by omega), if_neg (by omega), if_neg (by omega), if_pos e] at h1; exact h1.1
  · rw [if_neg (by omega), if_neg (by omega), if_neg (by omega), if_neg (by omega), if_neg (by omega), if_pos e] at h1; exact h1
theorem ShapeOk.apart {T : Ty} (h : ShapeOk T) (hk : 16 ≤ T.kind ∧ T.kind ≤ 19) : Apart T.labels := (h.1.2.2.1 hk).2.2.apart

/-- typeReason at types not deeper than n. -/
def TyR (n : Nat) : Prop := ∀ (a b : Ty), Gd n a → Gd n b → ∀ (A B A' B' : Option Addr) (ca cb ca' cb' : Nat) (w : World), Ty.Pl w 0 a A B → Ty.Pl w 0 b A' B' → RTable w →
  Calls Tryz.prog 32 #[.agg #[.int .i64 a.kind, .string a.name, .slice A a.labels.length ca, .slice B a.kids.length cb], .agg #[.int .i64 b.kind, .string b.name, .slice A' b.labels.length ca', .slice B' b.kids.length cb']] w (RsnPost (Ty.why n a b) w)
theorem Ty.why_small {n : Nat} (hn : n ≤ 4) {a b : Ty} (ha : Gd n a) (hb : Gd n b) : RsnOk 5000000 (Ty.why n a b) := (Ty.why_ok n a b ha.1 hb.1 (by have := hb.2.2.2; omega)).mono (by omega)
end Go.Proofs.YtifchfecfkdjlaaGreatDoor

namespace Go.Proofs.YtifchfecfkdjlaaGreatDoor
open Go.ChangeShapes Go.WideShapes Go.ChangeAt Go.RowKit Go.Deep

def rp (pt : ByteArray) : Option (Int × ByteArray) → ByteArray | none => ⟨#[]⟩ | some x => pt ++ x.2
/-- What the model's l08Why answers, a path going ahead. -/
def RsnS (r : Option (Int × ByteArray)) (pt : ByteArray) (w : World) (e : Ending) (w' : World) : Prop := e = .returned (.tuple #[.agg #[.int .i64 (rk r), .string (rp pt r)], .bool r.isSome]) ∧ Below w.heap.size w w'

theorem number_any (k : Int) (w : World) : Calls Tryz.prog 42 #[.int .i64 k] w fun e w' => e = .returned (.bool (numK k)) ∧ w = w' := by
  have C : Hid (∀ W : World, Calls Tryz.prog 65 #[.int .i64 k, .int .i64 3, .int .i64 9] W fun e w' => e = .returned (.bool (numK k)) ∧ W = w') := Lib.hid (fun W => In_any k 3 9 W)
  generalize numK k = v at *
  go_enter Tryz.func42, Tryz.ntmps42
  go_wp2_with (go_at_call 65; (with_reducible refine (C.out _).mono ?_); rintro e w2 ⟨rfl, rfl⟩)
  go_ret
  exact ⟨rfl, rfl⟩

theorem no_any (k : Int) (pt : ByteArray) (w : World) : Calls Tryz.prog 44 #[.int .i64 k, .string pt] w fun e w' => e = .returned (.tuple #[.agg #[.int .i64 k, .string pt], .bool true]) ∧ Below w.heap.size w w' := by
  go_enter Tryz.func44, Tryz.ntmps44
  go_wp2_with fail
  exact bodyPost_ret (v := .tuple #[.agg #[.int .i64 k, .string pt], .bool true]) (by simp [results, Tryz.results44, go_sem]) rfl ⟨rfl, by (first | (with_reducible exact (below1 _ _)) | ((with_reducible refine Below.setCell ((below1 _ _)) ?_ _) <;> (first | exact Nat.le_refl _ | exact Nat.le_add_right _ _ | (dsimp only; omega) | (simp; omega))) | ((with_reducible refine Below.setCell (Below.setCell ((below1 _ _)) ?_ _) ?_ _) <;> (first | exact Nat.le_refl _ | exact Nat.le_add_right _ _ | (dsimp only; omega) | (simp; omega))) | ((with_reducible refine Below.setCell (Below.setCell (Below.setCell ((below1 _ _)) ?_ _) ?_ _) ?_ _) <;> (first | exact Nat.le_refl _ | exact Nat.le_add_right _ _ | (dsimp only; omega) | (simp; omega))))⟩

theorem within_any (a b : Int) (w : World) : Calls Tryz.prog 43 #[.int .i64 a, .int .i64 b] w fun e w' => e = .returned (.bool (numIn a b)) ∧ Below w.heap.size w w' := by
  have CA := Lib.hid (fun W => nr_spec a W)
  have CB := Lib.hid (fun W => nr_spec b W)
  unfold numIn
  obtain ⟨y1, y2, y3, y4⟩ := nrV_bd a
  obtain ⟨y5, y6, y7, y8⟩ := nrV_bd b
  generalize (nrV a).1 = la at *
  generalize (nrV a).2.1 = ha at *
  generalize (nrV b).1 = lb at *
  generalize (nrV b).2.1 = hb at *
  by_cases h1 : lb ≤ la
  · have h1x : decide (lb ≤ la) = true := by simpa using h1
    by_cases h2 : ha ≤ hb
    · have h2x : decide (ha ≤ hb) = true := by simpa using h2
      rw [h1x, h2x]
      go_enter Tryz.func43, Tryz.ntmps43
      go_wp2_with fail
      go_at_call 66
      refine (CA.out _).mono ?_
      rintro e w1 ⟨rfl, hb1⟩
      go_wp2_with fail
      go_at_call 66
      refine (CB.out _).mono ?_
      rintro e w2 ⟨rfl, hb2⟩
      go_wp2_with fail
      go_ret
      exact ⟨rfl, bchain hb1 hb2 hb1.size⟩
    · have h2x : decide (ha ≤ hb) = false := by simpa using h2
      rw [h1x, h2x]
      go_enter Tryz.func43, Tryz.ntmps43
      go_wp2_with fail
      go_at_call 66
      refine (CA.out _).mono ?_
      rintro e w1 ⟨rfl, hb1⟩
      go_wp2_with fail
      go_at_call 66
      refine (CB.out _).mono ?_
      rintro e w2 ⟨rfl, hb2⟩
      go_wp2_with fail
      go_ret
      exact ⟨rfl, bchain hb1 hb2 hb1.size⟩
  · have h1x : decide (lb ≤ la) = false := by simpa using h1
    rw [h1x]
    go_enter Tryz.func43, Tryz.ntmps43
    go_wp2_with fail
    go_at_call 66
    refine (CA.out _).mono ?_
    rintro e w1 ⟨rfl, hb1⟩
    go_wp2_with fail
    go_at_call 66
    refine (CB.out _).mono ?_
    rintro e w2 ⟨rfl, hb2⟩
    go_wp2_with fail
    go_ret
    exact ⟨rfl, bchain hb1 hb2 hb1.size⟩

def plI : Option Nat → Int | none => -1 | some i => i
theorem label_any (ls : List ByteArray) (s : ByteArray) (hl : ls.length ≤ 1048576) (A : Option Addr) (ca lo : Nat) (w : World) (h : Strs w lo ls A) :
    Calls Tryz.prog 48 #[.slice A ls.length ca, .string s] w fun e w' => e = .returned (.int .i64 (plI (place s ls))) ∧ w = w' := by
  have H := Lib.hid h
  obtain ⟨R, hR⟩ : ∃ R, plI (place s ls) = R := ⟨_, rfl⟩
  rw [hR]
  have HR := Lib.hid hR
  clear h hR
  go_enter Tryz.func48, Tryz.ntmps48
  go_wp2_with fail
  go_loop [5] (fun i => ∃ k : Nat, k ≤ ls.length ∧ i = .int .i64 k ∧ Hid (∀ j : Nat, j < k → ls[j]? ≠ some s)) (fun i => ls.length - (intOf i).toNat)
  case atStart => exact ⟨0, Nat.zero_le _, rfl, fun j hj => by omega⟩
  case round =>
    obtain ⟨k, hk, rfl, hno⟩ := hrel
    by_cases hlt : k < ls.length
    · obtain ⟨b, o, t, rfl, _, htk, hc⟩ := H.out.at_ hlt
      have HT := Lib.hid htk
      clear htk
      by_cases e : t = s
      · have e2 : (t.toList == s.toList) = true := by rw [e, beq_iff_eq]
        have HE := Lib.hid e
        clear e
        go_wp2_with fail
        go_ret
        refine ⟨ret_int ?_, rfl⟩
        have h1 := HT.out
        rw [HE.out] at h1
        rw [← HR.out, place_at h1 hno.out]
        rfl
      · have e2 := text_ne e
        have HE := Lib.hid e
        clear e
        go_wp2_with fail
        go_round
        case rel =>
          exact ⟨k + 1, by omega, by go_num, fun j hj h9 => by
            by_cases e3 : j = k
            · subst e3
              rw [HT.out] at h9
              exact HE.out (Option.some.inj h9)
            · exact hno.out j (by omega) h9⟩
        case measure => simp [intOf]; omega
    · have hk' : k = ls.length := by omega
      have h9 := hno.out
      rw [hk'] at h9
      have HN := Lib.hid (place_no h9)
      clear h9 hk'
      go_wp2_with fail
      go_ret
      exact ⟨ret_int (by rw [← HR.out, HN.out]; rfl), rfl⟩

/-- l08Why at types not deeper than n. -/
def SpTy (n : Nat) : Prop := ∀ (a b : Ty), Gd n a → Gd n b → ∀ (A B A' B' : Option Addr) (ca cb ca' cb' : Nat) (lo lo' : Nat) (pt : ByteArray), pt.size + n * 1048577 ≤ 100000000 → ∀ (w : World), Ty.At w lo a A B → Ty.At w lo' b A' B' →
  Calls Tryz.prog 31 #[.agg #[.int .i64 a.kind, .string a.name, .slice A a.labels.length ca, .slice B a.kids.length cb], .agg #[.int .i64 b.kind, .string b.name, .slice A' b.labels.length ca', .slice B' b.kids.length cb'], .string pt] w (RsnS (Ty.why n a b) pt w)
theorem rp_pre (pt s : ByteArray) (r : Option (Int × ByteArray)) : rp pt (preR s r) = rp (pt ++ s) r := by
  cases r with
  | none => rfl
  | some x =>
    obtain ⟨k, p⟩ := x
    show pt ++ (s ++ p) = pt ++ s ++ p
    rw [ByteArray.append_assoc]
theorem rk_pre (s : ByteArray) (r : Option (Int × ByteArray)) : rk (preR s r) = rk r := by
  cases r <;> rfl
theorem some_pre (s : ByteArray) (r : Option (Int × ByteArray)) : (preR s r).isSome = r.isSome := by
  cases r <;> rfl
end Go.Proofs.YtifchfecfkdjlaaGreatDoor

namespace Go.Proofs.YtifchfecfkdjlaaGreatDoor
open Go.ChangeShapes Go.WideShapes Go.ChangeAt Go.RowKit Go.Deep

/-- A tree lies in memory; if lo is not nought, in plain blocks. -/
def Ty.Ao (w : World) (lo : Nat) (T : Ty) (A B : Option Addr) : Prop := Ty.At w lo T A B ∧ (0 < lo → Ty.Pl w lo T A B)
theorem Ty.Ao.keep {w w' : World} {lo : Nat} (hk : KeptFrom lo w w') {T : Ty} {A B : Option Addr} (h : Ty.Ao w lo T A B) : Ty.Ao w' lo T A B := ⟨Ty.At.keep hk h.1, fun h0 => Ty.Pl.keep hk (h.2 h0)⟩
theorem Ty.Ao.low {w : World} {lo lo' : Nat} (hl : lo' ≤ lo) {T : Ty} {A B : Option Addr} (h : Ty.Ao w lo T A B) : Ty.Ao w lo' T A B := ⟨Ty.At.low hl h.1, fun h0 => Ty.Pl.low hl (h.2 (by omega))⟩
theorem Ty.Ao.below {w w' : World} {lo : Nat} {T : Ty} {A B : Option Addr} (h : Ty.Ao w lo T A B) (hb : Below w.heap.size w w') : Ty.Ao w' lo T A B := h.keep (KeptFrom.below hb lo)
theorem Ty.Ao.of_at {w : World} {T : Ty} {A B : Option Addr} (h : Ty.At w 0 T A B) : Ty.Ao w 0 T A B := ⟨h, fun h0 => absurd h0 (by omega)⟩
theorem Ty.Ao.pl {w : World} {lo : Nat} {T : Ty} {A B : Option Addr} (h : Ty.Ao w lo T A B) (h0 : 0 < lo) : Ty.Pl w 0 T A B := Ty.Pl.low (Nat.zero_le _) (h.2 h0)

def ToTyAo (T : Ty) (w : World) (e : Ending) (w' : World) : Prop := ∃ A B : Option Addr, e = .returned (.agg #[.int .i64 T.kind, .string T.name, .slice A T.labels.length T.labels.length, .slice B T.kids.length T.kids.length]) ∧ Ty.Ao w' w.heap.size T A B ∧ Below w.heap.size w w'
theorem toType_ao (T : Ty) (hT : T.wt ≤ 1048576) (A B : Option Addr) (ca cb lo : Nat) (w : World) (h : Ty.At w lo T A B) :
    Calls Tryz.prog 9 #[.agg #[.int .i64 T.kind, .string T.name, .slice A T.labels.length ca, .slice B T.kids.length cb]] w (ToTyAo T w) := by
  refine (toType_own T hT A B ca cb lo w h).mono fun e w' h => ?_
  obtain ⟨A', B', bs, rfl, ho, _, hbs, hb⟩ := h
  exact ⟨A', B', rfl, ⟨ho.at_ fun b hb => (hbs b hb).1, fun _ => ho.pl fun b hb => (hbs b hb).1⟩, hb⟩
theorem toType_ax (T : Ty) (hT : T.wt ≤ 1048576) (A B : Option Addr) (ca cb lo : Nat) (w : World) (h : Ty.Ao w lo T A B) :
    Calls Tryz.prog 9 #[.agg #[.int .i64 T.kind, .string T.name, .slice A T.labels.length ca, .slice B T.kids.length cb]] w fun e w' => ∃ (A' B' : Option Addr) (c' d' : Nat), e = .returned (.agg #[.int .i64 T.kind, .string T.name, .slice A' T.labels.length c', .slice B' T.kids.length d']) ∧ Ty.Ao w' w.heap.size T A' B' ∧ Below w.heap.size w w' :=
  (toType_ao T hT A B ca cb lo w h.1).mono fun _ _ ⟨A', B', h1, h2, h3⟩ => ⟨A', B', _, _, h1, h2, h3⟩
end Go.Proofs.YtifchfecfkdjlaaGreatDoor

