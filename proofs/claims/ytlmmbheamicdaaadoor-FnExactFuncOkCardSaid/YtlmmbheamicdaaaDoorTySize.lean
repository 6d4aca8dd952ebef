/-
  The walk of the model's l03Size.
-/
import Derived.Test.YtlmmbheamicdaaaDoorTySpec
namespace Go.Proofs.YtlmmbheamicdaaaDoor
open Go.ChangeShapes Go.WideShapes Go.ChangeAt Go.RowKit Go.Deep

theorem Max_any (a b : Int) (w : World) :
    Calls Tryd.prog 44 #[.int .i64 a, .int .i64 b] w fun e w' => e = .returned (.int .i64 (max a b)) ∧ w = w' := by
  by_cases h : b < a
  · have e : max a b = a := by omega
    rw [e]
    go_enter Tryd.func44, Tryd.ntmps44
    go_wp2
    go_ret
    exact ⟨rfl, rfl⟩
  · have e : max a b = b := by omega
    have h' : a ≤ b := by omega
    rw [e]
    go_enter Tryd.func44, Tryd.ntmps44
    go_wp2
    go_ret
    exact ⟨rfl, rfl⟩

/-- What l03Size gives. -/
def szA (T : Ty) (d : Nat) : Int := if T.fits d then T.depth else 5
def szB (T : Ty) (d : Nat) : Int := if T.fits d then T.size else 25
def SizeTy (T : Ty) : Prop := ∀ d : Nat, 1 ≤ d → d ≤ 5 → ∀ (A B : Option Addr) (ca cb lo : Nat) (w : World), Ty.At w lo T A B →
  Calls Tryd.prog 37 #[.agg #[.int .i64 T.kind, .string T.name, .slice A T.labels.length ca, .slice B T.kids.length cb], .int .i64 d] w fun e w' => e = .returned (.tuple #[.int .i64 (szA T d), .int .i64 (szB T d)]) ∧ Below w.heap.size w w'
theorem sz_not {T : Ty} {d : Nat} (h : ¬ T.fits d) : szA T d = 5 ∧ szB T d = 25 := ⟨if_neg h, if_neg h⟩
theorem sz_yes {T : Ty} {d : Nat} (h : T.fits d) : szA T d = T.depth ∧ szB T d = T.size := ⟨if_pos h, if_pos h⟩

set_option maxHeartbeats 1000000 in
theorem l03Size_any (T : Ty) (hT : T.wt ≤ 1048576) : SizeTy T := by
  induction T using Ty.kidInd with
  | h T ih =>
    intro d hd1 hd5 A B ca cb lo w hat
    obtain ⟨q1, q2, q3, _, _⟩ := Ty.len_le hT
    have hp := T.depth_pos
    have hse := T.size_eq
    have hle := Ty.length_le T.kids
    by_cases hd : d = 5
    · subst hd
      obtain ⟨e1, e2⟩ := sz_not (T := T) (d := 5) (fun h => by unfold Ty.fits at h; omega)
      rw [e1, e2]
      clear ih hat q3 hT hp hse hle
      go_enter Tryd.func37, Tryd.ntmps37
      go_wp2
      go_ret2
      exact ⟨rfl, below1 _ _⟩
    by_cases hn : 24 < T.kids.length
    · obtain ⟨e1, e2⟩ := sz_not (T := T) (d := d) (fun h => by unfold Ty.fits at h; omega)
      rw [e1, e2]
      have hn' : (24 : Int) < (T.kids.length : Int) := by omega
      have hd' : ¬ 4 < d := by omega
      clear ih hat q3 hT hp hse hle hd
      go_enter Tryd.func37, Tryd.ntmps37
      go_wp2
      go_ret2
      exact ⟨rfl, below1 _ _⟩
    have hd4 : d ≤ 4 := by omega
    have IH : Hid (∀ (i : Nat) (t : Ty), T.kids[i]? = some t → SizeTy t) := Lib.hid (fun i t ht => ih i t ht (q3 i t ht))
    have HR := Lib.hid hat.rowAt
    have HSE := Lib.hid hse
    have HDE := Lib.hid T.depth_eq
    have hn' : ¬ (24 : Int) < (T.kids.length : Int) := by omega
    have hd' : ¬ 4 < d := by omega
    obtain ⟨a, ha⟩ : ∃ a, szA T d = a := ⟨_, rfl⟩
    obtain ⟨b, hb⟩ : ∃ b, szB T d = b := ⟨_, rfl⟩
    rw [ha, hb]
    have HA := Lib.hid ha
    have HB0 := Lib.hid hb
    clear ih hat q3 hT hp hse hle ha hb
    go_enter Tryd.func37, Tryd.ntmps37
    go_wp2
    go_loopw [6, 7, 8] (fun m p i wr => ∃ k : Nat, k ≤ T.kids.length ∧ i = .int .i64 k ∧ (∃ M P : Nat, m = .int .i64 M ∧ p = .int .i64 P ∧ M ≤ 4 ∧ 1 ≤ P ∧ P ≤ 24 ∧ Hid (M = Ty.depths (T.kids.take k) ∧ P = 1 + Ty.sizes (T.kids.take k) ∧ ((k = 0 ∧ M = 0) ∨ d + 1 + M ≤ 5))) ∧ wr.cell? ⟨w.heap.size, 3, none⟩ = some (.slice B T.kids.length cb) ∧ Below w.heap.size w wr) (fun _ _ i _ => T.kids.length - (intOf i).toNat)
    case atStart => exact ⟨0, Nat.zero_le _, rfl, ⟨0, 1, rfl, rfl, by omega, by omega, by omega, by simp [Hid, Ty.depths, Ty.sizes]⟩, by go_simp, below1 _ _⟩
    case round =>
      obtain ⟨k, hk, rfl, ⟨M, P, rfl, rfl, hM, hP1, hP, hinv⟩, hbox, hbel⟩ := hrel
      by_cases hlt : k < T.kids.length
      · obtain ⟨b1, o, t, A', B', ca', cb', rfl, _, htk, hc⟩ := (HR.out.below hbel).at_ hlt
        have C := Lib.hid (IH.out k t htk (d + 1) (by omega) (by omega) A' B' ca' cb' lo wr hc.tree)
        have HD := Lib.hid (Ty.depths_take htk)
        have HS := Lib.hid (Ty.sizes_take htk)
        have HT := Lib.hid htk
        obtain ⟨c0, c1, c2, c3, _⟩ := hc
        have HB := Lib.hid hbel
        have HX := Lib.hid hbox
        have hstl := Ty.sizes_take_le T.kids (k + 1)
        clear htk hbel
        have hcast : ((d + 1 : Nat) : Int) = (d : Int) + 1 := by omega
        rw [hcast] at C
        clear hcast
        by_cases hf : t.fits (d + 1)
        · obtain ⟨e1, e2⟩ := sz_yes hf
          rw [e1, e2] at C
          have hf1 : d + 1 + t.depth ≤ 5 := hf.1
          have hf2 : t.size ≤ 24 := hf.2
          have CM := Lib.hid (fun W => Max_any (M : Int) (t.depth : Int) W)
          have HF := Lib.hid hf
          have hmx : max (M : Int) (t.depth : Int) = ((max M t.depth : Nat) : Int) := by omega
          rw [hmx] at CM
          have hmb : max M t.depth ≤ 4 := by omega
          have HMX : Hid (max M t.depth = Ty.depths (T.kids.take (k + 1)) ∧ P + t.size = 1 + Ty.sizes (T.kids.take (k + 1)) ∧ d + 1 + max M t.depth ≤ 5) := Lib.hid (by
            obtain ⟨i1, i2, i3⟩ := hinv.out
            have := HD.out
            have := HS.out
            omega)
          clear hf e1 e2 hmx
          generalize max M t.depth = M' at *
          generalize t.depth = td at *
          generalize t.size = ts at *
          by_cases h24 : 24 < P + ts
          · have h24' : (24 : Int) < (P : Int) + (ts : Int) := by omega
            go_wp2_with (first
              | (go_at_call 37; (with_reducible refine C.out.mono ?_); rintro e w2 ⟨rfl, hb2⟩; have HB2 := Lib.hid hb2; clear hb2)
              | (go_at_call 44; (with_reducible refine (CM.out _).mono ?_); rintro e w3 ⟨rfl, rfl⟩))
            go_ret2
            obtain ⟨m1, m2, m3⟩ := HMX.out
            obtain ⟨n1, n2⟩ := sz_not (T := T) (d := d) (fun h => by have h4 := h.2; have := HSE.out; omega)
            rw [← HA.out, ← HB0.out, n1, n2]
            exact ⟨rfl, bnext HB.out HB2.out⟩
          · have h24' : (P : Int) + (ts : Int) ≤ 24 := by omega
            clear h24
            go_wp2_with (first
              | (go_at_call 37; (with_reducible refine C.out.mono ?_); rintro e w2 ⟨rfl, hb2⟩; have HB2 := Lib.hid hb2; clear hb2)
              | (go_at_call 44; (with_reducible refine (CM.out _).mono ?_); rintro e w3 ⟨rfl, rfl⟩))
            go_roundw
            case rel => exact ⟨k + 1, by omega, by go_num, ⟨M', P + ts, rfl, by go_num, by omega, by omega, by omega, ⟨HMX.out.1, HMX.out.2.1, Or.inr HMX.out.2.2⟩⟩, keepCell HB2.out HX.out, bnext HB.out HB2.out⟩
            case measure => simp [intOf]; omega
        · obtain ⟨e1, e2⟩ := sz_not hf
          rw [e1, e2] at C
          have CM := Lib.hid (fun W => Max_any (M : Int) 5 W)
          have hmx : max (M : Int) 5 = 5 := by omega
          rw [hmx] at CM
          have HF := Lib.hid hf
          clear hf e1 e2 hmx
          go_wp2_with (first
            | (go_at_call 37; (with_reducible refine C.out.mono ?_); rintro e w2 ⟨rfl, hb2⟩; have HB2 := Lib.hid hb2; clear hb2)
            | (go_at_call 44; (with_reducible refine (CM.out _).mono ?_); rintro e w3 ⟨rfl, rfl⟩))
          go_ret2
          obtain ⟨n1, n2⟩ := sz_not (T := T) (d := d) (fun h => HF.out (Ty.fits_kid h HT.out))
          rw [← HA.out, ← HB0.out, n1, n2]
          exact ⟨rfl, bnext HB.out HB2.out⟩
      · have hk' : k = T.kids.length := by omega
        have HB := Lib.hid hbel
        clear hbel
        go_wp2
        go_ret2
        obtain ⟨i1, i2, i3⟩ := hinv.out
        rw [hk', List.take_length] at i1 i2
        have hfit : T.fits d := by
          refine Ty.fits_of hd4 ?_ (by omega)
          rcases i3 with i3 | i3
          · left
            exact List.eq_nil_of_length_eq_zero (by omega)
          · right
            omega
        obtain ⟨n1, n2⟩ := sz_yes hfit
        have g1 := HSE.out
        have g2 := HDE.out
        rw [← HA.out, ← HB0.out, n1, n2]
        refine ⟨?_, HB.out⟩
        have k1 : (M : Int) + 1 = (T.depth : Int) := by omega
        have k2 : (P : Int) = (T.size : Int) := by omega
        rw [k1, k2]
        rfl
end Go.Proofs.YtlmmbheamicdaaaDoor
