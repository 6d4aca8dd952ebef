/-
  All sections' bytes, as the program writes them.
-/
import Derived.Test.YtbjcldekapipaaaSecO
namespace Go.Proofs.Ytbjcldekapipaaa
open Go.ChangeShapes Go.WideShapes Go.ChangeAt Go.RowKit Go.Deep

theorem secV_id {x : Sc} (hv : secV x = true) : 0 ≤ x.id ∧ x.id ≤ 4 := by
  unfold secV at hv
  by_cases h0 : x.id = 0
  · omega
  · rw [if_neg h0, Bool.and_eq_true, decide_eq_true_iff] at hv
    omega

set_option maxHeartbeats 2000000 in
/-- The program's answer. -/
theorem implSectionBytes_any (xs : List Sc) (hl : xs.length ≤ 1048576) (hw : ∀ (i : Nat) (x : Sc), xs[i]? = some x → x.wt ≤ 1048576) (R : Option Addr) (c lo : Nat) (w : World) (h : Scs w lo xs R) :
    Calls Try.prog 14 #[.slice R xs.length c] w fun e w' => e = .returned (.string (secA xs)) ∧ Below w.heap.size w w' := by
  by_cases h20 : xs.length ≤ 20
  · have h20i : (xs.length : Int) ≤ 20 := by omega
    have CC0 := contSc_any xs hl R c lo w h
    by_cases hb : BadS xs xs.length
    · rw [secA_bad hb]
      have CC := Lib.hid (CC0.mono (R' := fun e w' => e = .returned (.bool true) ∧ Below w.heap.size w w') (by
        rintro e w1 ⟨v, rfl, hv, h1⟩
        rw [hv.mpr hb]
        exact ⟨rfl, h1⟩))
      clear hb h hw CC0
      go_enter Try.func14, Try.ntmps14
      go_wp2_with (go_at_call 38; (with_reducible refine CC.out.mono ?_); rintro e w1 ⟨rfl, h1⟩; have HB1 := Lib.hid h1; clear h1)
      go_ret
      exact ⟨rfl, HB1.out⟩
    · have CC := Lib.hid (CC0.mono (R' := fun e w' => e = .returned (.bool false) ∧ Below w.heap.size w w') (by
        rintro e w1 ⟨v, rfl, hv, h1⟩
        have : v = false := by
          cases v with
          | false => rfl
          | true => exact absurd (hv.mp rfl) hb
        rw [this]
        exact ⟨rfl, h1⟩))
      have HN := Lib.hid hb
      have H := Lib.hid h
      have HW := Lib.hid hw
      clear hb h hw CC0
      go_enter Try.func14, Try.ntmps14
      go_wp2_with (go_at_call 38; (with_reducible refine CC.out.mono ?_); rintro e w1 ⟨rfl, h1⟩; have HB1 := Lib.hid h1; clear h1)
      go_loopw [3, 16] (fun s i wr => ∃ k : Nat, k ≤ xs.length ∧ s = .string (secTo xs k) ∧ i = .int .i64 k ∧ (secTo xs k).size ≤ 30000 ∧ Below w.heap.size w wr) (fun _ i _ => xs.length - (intOf i).toNat)
      case atStart => exact ⟨0, Nat.zero_le _, by rw [secTo_zero]; rfl, rfl, by rw [secTo_zero]; decide, HB1.out⟩
      case round =>
        obtain ⟨k, hk, rfl, rfl, hsz, hbel⟩ := hrel
        by_cases hlt : k < xs.length
        · obtain ⟨b, o, x, rfl, _, hxk, hc⟩ := (Scs.below H.out hbel).at_ hlt
          have hvx : secV x = true := by
            cases hv : secV x with
            | true => rfl
            | false => exact absurd ⟨k, x, hlt, hxk, hv⟩ HN.out
          obtain ⟨hna, hby, _⟩ := Sc.parts_le (HW.out k x hxk)
          have CO := (fun W => isOwn_any x W)
          have hid := secV_id hvx
          have CF : ∀ W, Calls Try.prog 42 #[.int .i64 x.id, .int .i64 1] W fun e w' => e = .returned (.string (strOfNums (fixl x.id 1))) ∧ Below W.heap.size W w' := fun W => implPutFix_any x.id 1 W (by omega) (by omega) (by omega)
          have hF := fixl1_size x.id
          have HS := Lib.hid (secTo_step hxk)
          obtain ⟨c0_, c1_, c2_, _⟩ := hc
          have z0 := fun O => keepCell (below1 wr O) c0_
          have z1 := fun O => keepCell (below1 wr O) c1_
          have z2 := fun O => keepCell (below1 wr O) c2_
          have HB := Lib.hid hbel
          have hbs := hbel.size
          clear hxk hbel hid
          by_cases h0 : x.id = 0
          · skip
            have q : (x.id == 0) = true := by rw [h0]; rfl
            rw [q] at CO
            have hn := secV_name hvx h0
            have hpn := putB_size x.name (by omega)
            have CN := Lib.hid (fun W => implPutB_any x.name (by omega) W)
            have hsum : (putB x.name ++ x.bytes).size = (putB x.name).size + x.bytes.size := ByteArray.size_append
            have CB := (fun W => implPutB_any (putB x.name ++ x.bytes) (by omega) W)
            have hpb := putB_size (putB x.name ++ x.bytes) (by omega)
            have HB0 : secB x = strOfNums (fixl x.id 1) ++ putB (putB x.name ++ x.bytes) := by
              unfold secB secC
              rw [if_pos h0]
            rw [HB0] at HS
            clear HB0 q hvx h0
            generalize hA : putB (putB x.name ++ x.bytes) = A at *
            clear hA
            generalize putB x.name = N at *
            generalize strOfNums (fixl x.id 1) = F at *
            have CB := Lib.hid CB
            have hz1 : ¬ (9223372036854775807 < N.size + x.bytes.size) := by omega
            have CO := Lib.hid CO
            have CF := Lib.hid CF
            generalize hT : secTo xs k = T at *
            have hFA : (F ++ A).size = F.size + A.size := ByteArray.size_append
            have hTFA : (T ++ (F ++ A)).size = T.size + (F.size + A.size) := by rw [ByteArray.size_append, hFA]
            have hz2 : ¬ (9223372036854775807 < F.size + A.size) := by omega
            have hz3 : ¬ (9223372036854775807 < T.size + (F.size + A.size)) := by omega
            by_cases hq : T.size + (F.size + A.size) ≤ 30000
            · have hqi : ¬ (30000 < (T.size : Int) + ((F.size : Int) + (A.size : Int))) := by omega
              have HZ : Hid ((secTo xs (k + 1)).size ≤ 30000) := Lib.hid (by rw [← HS.out, hTFA]; exact hq)
              clear hFA hTFA hq hF
              go_wp2_with (first
              | (go_at_call 40; (with_reducible refine (CO.out _).mono ?_); rintro e w3 ⟨rfl, h3⟩; have HB3 := Lib.hid (bnext (HB.out.alloc hbs _) h3); have b0 := keepCell (a := ⟨wr.heap.size, 0, none⟩) (v := .int .i64 x.id) h3 (by go_simp); have b1 := keepCell (a := ⟨wr.heap.size, 1, none⟩) (v := .string x.name) h3 (by go_simp); clear h3)
              | (go_at_call 41; (with_reducible refine (CN.out _).mono ?_); rintro e w4 ⟨rfl, h4⟩; have HB4 := Lib.hid (bnext HB3.out h4); replace b0 := keepCell h4 b0; clear h4)
              | (go_at_call 42; (with_reducible refine (CF.out _).mono ?_); rintro e w5 ⟨rfl, h5⟩; have HB5 := Lib.hid (bnext HB4.out h5); clear h5)
              | (go_at_call 41; (with_reducible refine (CB.out _).mono ?_); rintro e w6 ⟨rfl, h6⟩; have HB6 := Lib.hid (bnext HB5.out h6); clear h6))
              go_roundw
              case rel => exact ⟨k + 1, by omega, by rw [HS.out], by go_num, HZ.out, HB6.out⟩
              case measure => simp [intOf]; omega
            · have hqi : (30000 < (T.size : Int) + ((F.size : Int) + (A.size : Int))) := by omega
              have HG := Lib.hid (secA_great (xs := xs) (k := k + 1) (by omega) (by rw [← HS.out, hTFA]; omega))
              clear hFA hTFA hq hF
              go_wp2_with (first
              | (go_at_call 40; (with_reducible refine (CO.out _).mono ?_); rintro e w3 ⟨rfl, h3⟩; have HB3 := Lib.hid (bnext (HB.out.alloc hbs _) h3); have b0 := keepCell (a := ⟨wr.heap.size, 0, none⟩) (v := .int .i64 x.id) h3 (by go_simp); have b1 := keepCell (a := ⟨wr.heap.size, 1, none⟩) (v := .string x.name) h3 (by go_simp); clear h3)
              | (go_at_call 41; (with_reducible refine (CN.out _).mono ?_); rintro e w4 ⟨rfl, h4⟩; have HB4 := Lib.hid (bnext HB3.out h4); replace b0 := keepCell h4 b0; clear h4)
              | (go_at_call 42; (with_reducible refine (CF.out _).mono ?_); rintro e w5 ⟨rfl, h5⟩; have HB5 := Lib.hid (bnext HB4.out h5); clear h5)
              | (go_at_call 41; (with_reducible refine (CB.out _).mono ?_); rintro e w6 ⟨rfl, h6⟩; have HB6 := Lib.hid (bnext HB5.out h6); clear h6))
              go_ret
              exact ⟨by rw [HG.out]; rfl, HB6.out⟩
          · skip
            have q : (x.id == 0) = false := beq_eq_false_iff_ne.mpr h0
            rw [q] at CO
            have CB := (fun W => implPutB_any x.bytes (by omega) W)
            have hpb := putB_size x.bytes (by omega)
            have HB0 : secB x = strOfNums (fixl x.id 1) ++ putB x.bytes := by
              unfold secB secC
              rw [if_neg h0]
            rw [HB0] at HS
            clear HB0 q hvx h0
            generalize putB x.bytes = A at *
            generalize strOfNums (fixl x.id 1) = F at *
            have CB := Lib.hid CB
            have CO := Lib.hid CO
            have CF := Lib.hid CF
            generalize hT : secTo xs k = T at *
            have hFA : (F ++ A).size = F.size + A.size := ByteArray.size_append
            have hTFA : (T ++ (F ++ A)).size = T.size + (F.size + A.size) := by rw [ByteArray.size_append, hFA]
            have hz2 : ¬ (9223372036854775807 < F.size + A.size) := by omega
            have hz3 : ¬ (9223372036854775807 < T.size + (F.size + A.size)) := by omega
            by_cases hq : T.size + (F.size + A.size) ≤ 30000
            · have hqi : ¬ (30000 < (T.size : Int) + ((F.size : Int) + (A.size : Int))) := by omega
              have HZ : Hid ((secTo xs (k + 1)).size ≤ 30000) := Lib.hid (by rw [← HS.out, hTFA]; exact hq)
              clear hFA hTFA hq hF
              go_wp2_with (first
              | (go_at_call 40; (with_reducible refine (CO.out _).mono ?_); rintro e w3 ⟨rfl, h3⟩; have HB3 := Lib.hid (bnext (HB.out.alloc hbs _) h3); have b0 := keepCell (a := ⟨wr.heap.size, 0, none⟩) (v := .int .i64 x.id) h3 (by go_simp); clear h3)
              | (go_at_call 42; (with_reducible refine (CF.out _).mono ?_); rintro e w5 ⟨rfl, h5⟩; have HB5 := Lib.hid (bnext HB3.out h5); clear h5)
              | (go_at_call 41; (with_reducible refine (CB.out _).mono ?_); rintro e w6 ⟨rfl, h6⟩; have HB6 := Lib.hid (bnext HB5.out h6); clear h6))
              go_roundw
              case rel => exact ⟨k + 1, by omega, by rw [HS.out], by go_num, HZ.out, HB6.out⟩
              case measure => simp [intOf]; omega
            · have hqi : (30000 < (T.size : Int) + ((F.size : Int) + (A.size : Int))) := by omega
              have HG := Lib.hid (secA_great (xs := xs) (k := k + 1) (by omega) (by rw [← HS.out, hTFA]; omega))
              clear hFA hTFA hq hF
              go_wp2_with (first
              | (go_at_call 40; (with_reducible refine (CO.out _).mono ?_); rintro e w3 ⟨rfl, h3⟩; have HB3 := Lib.hid (bnext (HB.out.alloc hbs _) h3); have b0 := keepCell (a := ⟨wr.heap.size, 0, none⟩) (v := .int .i64 x.id) h3 (by go_simp); clear h3)
              | (go_at_call 42; (with_reducible refine (CF.out _).mono ?_); rintro e w5 ⟨rfl, h5⟩; have HB5 := Lib.hid (bnext HB3.out h5); clear h5)
              | (go_at_call 41; (with_reducible refine (CB.out _).mono ?_); rintro e w6 ⟨rfl, h6⟩; have HB6 := Lib.hid (bnext HB5.out h6); clear h6))
              go_ret
              exact ⟨by rw [HG.out]; rfl, HB6.out⟩
        · obtain rfl : k = xs.length := by omega
          have HB := Lib.hid hbel
          have HG := Lib.hid (secA_good h20 HN.out hsz)
          clear hbel
          go_wp2
          go_ret
          exact ⟨by rw [HG.out]; rfl, HB.out⟩
  · rw [show secA xs = ⟨#[]⟩ from secA_long h20]
    have h20i : ¬ (xs.length : Int) ≤ 20 := by omega
    clear h h20 hw
    go_enter Try.func14, Try.ntmps14
    go_wp2_with fail
    go_ret
    exact ⟨rfl, Below.refl _ _⟩
end Go.Proofs.Ytbjcldekapipaaa
