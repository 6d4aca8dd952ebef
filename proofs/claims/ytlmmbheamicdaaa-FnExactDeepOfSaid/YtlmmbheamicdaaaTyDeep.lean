/-
  The walk of the program's DeepOf.
-/
import Derived.Test.YtlmmbheamicdaaaTyNum
namespace Go.Proofs.Ytlmmbheamicdaaa
open Go.ChangeShapes Go.WideShapes Go.ChangeAt Go.RowKit Go.Deep

def DeepTy (T : Ty) (lo : Nat) : Prop := ∀ (A B : Option Addr) (ca cb : Nat) (w : World), Ty.At w lo T A B → MaxC w →
  Calls Try.prog 17 #[.agg #[.int .i64 T.kind, .string T.name, .slice A T.labels.length ca, .slice B T.kids.length cb]] w (SaysNum T.Ok T.depth w)

set_option maxHeartbeats 1000000 in
theorem implDeep_all (T : Ty) (lo : Nat) (hT : T.wt ≤ 1048576) : DeepTy T lo := by
  induction T using Ty.kidInd with
  | h T ih =>
    intro A B ca cb w hat hm
    obtain ⟨q1, q2, q3, _, _⟩ := Ty.len_le hT
    have IH : Hid (∀ (i : Nat) (t : Ty), T.kids[i]? = some t → DeepTy t lo) := Lib.hid (fun i t ht => ih i t ht (q3 i t ht))
    have CO := fun W h hm => implTypeOk_any T lo hT A B ca cb W h hm
    have HR := Lib.hid hat.rowAt
    have HA := Lib.hid hat
    have HM := Lib.hid hm
    have HD := Lib.hid T.depth_eq
    clear ih hat hm q3 hT
    by_cases ho : T.Ok
    · have CO' := Lib.hid (fun W h hm => (CO W h hm).mono fun _ _ k => k.yes ho)
      have HO := Lib.hid ho
      have hd4 : T.depth ≤ 4 := by have := ho.1.1; omega
      obtain ⟨V, hV⟩ : ∃ V, T.depth = V := ⟨_, rfl⟩
      rw [hV] at hd4 HD
      rw [hV]
      have hd3 : Ty.depths T.kids ≤ 3 := by have := HD.out; omega
      have HD3 := Lib.hid hd3
      clear ho CO hV hd3
      go_enter Try.func17, Try.ntmps17
      go_wp2_with fail
      go_at_call 54
      refine (CO'.out _ (HA.out.below (below1 _ _)) (HM.out.keep (below1 _ _))).mono ?_
      rintro e w2 ⟨rfl, hb2⟩
      have k3 := keepCell (a := ⟨w.heap.size, 3, none⟩) (v := .slice B T.kids.length cb) hb2 (by go_simp)
      have HB2 := Lib.hid (bnext (below1 _ _) hb2)
      clear hb2 CO'
      go_wp2_with fail
      go_loopw [3, 12] (fun m i wr => ∃ k : Nat, k ≤ T.kids.length ∧ i = .int .i64 k ∧ (∃ D : Nat, m = .int .i64 D ∧ D ≤ 3 ∧ Hid (D = Ty.depths (T.kids.take k))) ∧ Below w.heap.size w wr) (fun _ i _ => T.kids.length - (intOf i).toNat)
      case atStart => exact ⟨0, Nat.zero_le _, rfl, ⟨0, rfl, by omega, by simp [Hid, Ty.depths]⟩, HB2.out⟩
      case round =>
        obtain ⟨k, hk, rfl, ⟨D, rfl, hD, hinv⟩, hbel⟩ := hrel
        by_cases hlt : k < T.kids.length
        · obtain ⟨b, o, t, A', B', ca', cb', rfl, _, htk, hc⟩ := (HR.out.below hbel).at_ hlt
          have C := Lib.hid (fun W h hm => (IH.out k t htk A' B' ca' cb' W h hm).mono fun _ _ j => j.yes (HO.out.kid htk))
          have HDT := Lib.hid (Ty.depths_take htk)
          have HTR := Lib.hid hc.tree
          obtain ⟨c0, c1, c2, c3, _⟩ := hc
          have lb : b < wr.heap.size := World.block_lt_of_cell? wr _ c0
          have HB := Lib.hid hbel
          have hle : t.depth ≤ 3 := by
            have h1 := Ty.depths_get htk
            have h2 := HD3.out
            omega
          clear htk hbel
          generalize t.depth = td at *
          go_wp2_with fail
          go_at_call 17
          refine (C.out _ (HTR.out.below (below1 _ _)) (HM.out.keep (bnext HB.out (below1 _ _)))).mono ?_
          rintro e w3 ⟨rfl, hb3⟩
          have HB3 := Lib.hid (bnext (bnext HB.out (below1 _ _)) hb3)
          clear hb3
          go_wp2_with fail
          go_roundw
          case rel => exact ⟨k + 1, by omega, by go_num, ⟨max D td, by first | go_num | (simp; omega), by omega, by have h1 := hinv.out; have h2 := HDT.out; simp only [Hid]; omega⟩, HB3.out⟩
          case measure => simp [intOf]; omega
        · have hk' : k = T.kids.length := by omega
          have HB := Lib.hid hbel
          clear hbel
          go_wp2
          go_ret
          refine ⟨_, rfl, ⟨fun _ => ?_, fun h => absurd HO.out h⟩, HB.out⟩
          have h1 := hinv.out
          have h2 := HD.out
          rw [hk', List.take_length] at h1
          omega
    · have CO' := Lib.hid (fun W h hm => (CO W h hm).mono fun _ _ k => k.no ho)
      have HO := Lib.hid ho
      clear ho CO
      go_enter Try.func17, Try.ntmps17
      go_wp2_with fail
      go_at_call 54
      refine (CO'.out _ (HA.out.below (below1 _ _)) (HM.out.keep (below1 _ _))).mono ?_
      rintro e w2 ⟨rfl, hb2⟩
      have HB2 := Lib.hid (bnext (below1 _ _) hb2)
      clear hb2
      go_wp2_with fail
      go_ret
      exact ⟨0, rfl, ⟨fun h => absurd h HO.out, fun _ => rfl⟩, HB2.out⟩
theorem implDeep_any (T : Ty) (lo : Nat) (hT : T.wt ≤ 1048576) (A B : Option Addr) (ca cb : Nat) (w : World) (hat : Ty.At w lo T A B) (hm : MaxC w) :
    Calls Try.prog 17 #[.agg #[.int .i64 T.kind, .string T.name, .slice A T.labels.length ca, .slice B T.kids.length cb]] w (SaysNum T.Ok T.depth w) := implDeep_all T lo hT A B ca cb w hat hm
end Go.Proofs.Ytlmmbheamicdaaa
