/-
  The walk of the law on encodings. Both lists of bytes are whatever the row allows.
-/
import Derived.Test.YthdnklhaagofhaaLebDraw
import Derived.Test.YthdnklhaagofhaaLebFacts
import Derived.Deep.RegionHeld3
namespace Go.Proofs.Ythdnklhaagofhaa
open Go.ChangeShapes Go.WideShapes Go.ChangeAt Go.RowKit

theorem nextB {W a b : World} (h : Below W.heap.size W a) (k : Below a.heap.size a b) : Below W.heap.size W b := bchain h k h.size
theorem nextQ {W a : World} (h : Below W.heap.size W a) (n : Nat) : Below W.heap.size W (a.drewN n) := ⟨h.os, h.tape, h.output, h.size, h.block⟩

set_option maxRecDepth 100000 in
set_option maxHeartbeats 4000000 in
theorem fnLebLaw (R0 : Option Addr) (m0 c0 : Nat) (R1 : Option Addr) (m1 c1 : Nat) (W : World) (h0 : CodeOk W (.slice R0 m0 c0)) (h1 : CodeOk W (.slice R1 m1 c1)) :
    Calls Try.prog 3 #[.slice R0 m0 c0, .slice R1 m1 c1] W fun e W' => e = .returned (.bool true) ∧ Below W.heap.size W W' := by
  obtain ⟨v, CL⟩ := long_any R0 m0 c0 R1 m1 c1
  have H1 := Lib.hid h1
  have CD := Lib.hid (drawSleb_any _ W h0)
  clear h0 h1
  cases v with
  | true =>
    go_enter Try.func3, Try.ntmps3
    go_wp2_with fail
    go_at_call 10
    refine (CL.out _).mono ?_
    rintro e w0 ⟨rfl, rfl⟩
    go_wp2_with fail
    go_ret
    exact ⟨rfl, Below.refl _ _⟩
  | false =>
    go_enter Try.func3, Try.ntmps3
    go_wp2_with fail
    go_at_call 10
    refine (CL.out _).mono ?_
    rintro e w0 ⟨rfl, rfl⟩
    go_wp2_with fail
    go_at_call 11
    refine CD.out.mono ?_
    rintro e w1 ⟨⟨n, rfl, n0, n1⟩, hb1⟩
    clear CD CL
    have HB := Lib.hid hb1
    clear hb1
    obtain ⟨S, hS⟩ : ∃ S, strOfNums (lebS n) = S := ⟨_, rfl⟩
    obtain ⟨Z, hZ⟩ : ∃ Z : ByteArray, Z = ⟨#[128, 122]⟩ := ⟨_, rfl⟩
    have hZ2 : Z.size = 2 := by rw [hZ]; rfl
    have hSz : (lebS n).length = S.size := by rw [← hS, strOfNums_size]
    have hS10 : ¬ (10 : Int) < (S.size : Int) := by
      have := lebS_length 9 n (by omega) (by omega)
      omega
    have C1 := Lib.hid (fun W => implPutSleb_any n W n0 n1)
    have C2 := Lib.hid (fun W => getSleb_back n n0 n1 Z (by omega) W)
    have CF1 := Lib.hid (fun W => implPutFix_any n 8 W (by omega) n0 n1)
    have CF2 := Lib.hid (fun W => getFix_back n n0 n1 W)
    obtain ⟨F, hF⟩ : ∃ F, strOfNums (fixl n 8) = F := ⟨_, rfl⟩
    rw [hS] at C1 C2
    rw [hSz] at C2
    rw [hF] at CF1 CF2
    rw [hZ] at C2
    clear hS hF
    by_cases hn : 0 ≤ n
    · obtain ⟨k, rfl⟩ := Int.eq_ofNat_of_zero_le hn
      obtain ⟨U, hU⟩ : ∃ U, strOfNums (lebU k) = U := ⟨_, rfl⟩
      have hUz : (lebU k).length = U.size := by rw [← hU, strOfNums_size]
      have hUS2 := lebU_le_lebS k
      have hUS : ¬ (S.size : Int) < (U.size : Int) := by omega
      have hUm : ¬ 9223372036854775807 < U.size + 2 := by omega
      have C3 := fun W => implPutLeb_any k W (by omega)
      have C4 := fun W => getLeb_back k (by omega) Z (by omega) W
      rw [hU] at C3 C4
      rw [hUz, hZ] at C4
      have C3 := Lib.hid C3
      have C4 := Lib.hid C4
      clear hUS2 hU hUz hZ hZ2
      have hSm : ¬ 9223372036854775807 < S.size + 2 := by omega
      go_wp2_with fail
      go_at_call 12
      refine (C1.out _).mono ?_
      rintro e w2 ⟨rfl, hb⟩
      have HBw2 := Lib.hid (nextB HB.out hb)
      clear hb
      go_wp2_with fail
      go_at_call 13
      refine (C2.out _).mono ?_
      rintro e w3 ⟨rfl, hb⟩
      have HBw3 := Lib.hid (nextB HBw2.out hb)
      clear hb
      go_wp2_with fail
      go_at_call 14
      refine (C3.out _).mono ?_
      rintro e w4 ⟨rfl, hb⟩
      have HBw4 := Lib.hid (nextB HBw3.out hb)
      clear hb
      go_wp2_with fail
      go_at_call 15
      refine (C4.out _).mono ?_
      rintro e w5 ⟨rfl, hb⟩
      have HBw5 := Lib.hid (nextB HBw4.out hb)
      clear hb
      go_wp2_with fail
      go_at_call 16
      refine (drawGetLeb_any _ _ (H1.out.keep HBw5.out)).mono ?_
      rintro e u1 ⟨⟨T, rfl, hT⟩, hb⟩
      have HBu1 := Lib.hid (nextB HBw5.out hb)
      clear hb
      obtain ⟨x, y, ok, hf, CG⟩ := getLeb_fine T (by omega)
      have CG := Lib.hid CG
      cases ok with
      | false =>
        clear hf
        go_wp2_with fail
        go_at_call 15
        refine (CG.out _).mono ?_
        rintro e u2 ⟨rfl, hb⟩
        have HBu2 := Lib.hid (nextB HBu1.out hb)
        clear hb
        go_wp2_with fail
        go_quiet (fail)
        go_wp2_with fail
        go_at_call 17
        refine (drawHex_any _ _ (H1.out.keep (nextQ HBu2.out _))).mono ?_
        rintro e v1 ⟨⟨P, rfl, hP⟩, hb⟩
        have HBv1 := Lib.hid (nextB (nextQ HBu2.out _) hb)
        clear hb
        have K1 := Lib.hid (fun W => implPutBytes_any P W (by omega))
        have K2 := Lib.hid (fun W => getBytes_back P (by omega) ⟨#[122]⟩ (by decide) W)
        have K3 := Lib.hid (fun W => implPutHex_any P W (by omega))
        have K4 := Lib.hid (fun W => getHex_back P (by omega) W)
        have hq : (strOfNums (lebU P.size) ++ P).size ≤ 2000 := by
          rw [ByteArray.size_append, strOfNums_size]
          have := lebU_length 9 P.size (by omega)
          omega
        obtain ⟨X, hX⟩ : ∃ X, strOfNums (hexl P.data.toList) = X := ⟨_, rfl⟩
        obtain ⟨Y, hY⟩ : ∃ Y, strOfNums (lebU P.size) ++ P = Y := ⟨_, rfl⟩
        rw [hY] at K1 K2 hq
        rw [hX] at K3 K4
        have hq2 : ¬ 9223372036854775807 < Y.size + 1 := by omega
        clear hX hY
        go_wp2_with fail
        go_at_call 19
        refine (K1.out _).mono ?_
        rintro e v2 ⟨rfl, hb⟩
        have HBv2 := Lib.hid (nextB HBv1.out hb)
        clear hb
        go_wp2_with fail
        go_at_call 18
        refine (K2.out _).mono ?_
        rintro e v3 ⟨rfl, hb⟩
        have HBv3 := Lib.hid (nextB HBv2.out hb)
        clear hb
        go_wp2_with fail
        go_at_call 21
        refine (K3.out _).mono ?_
        rintro e v4 ⟨rfl, hb⟩
        have HBv4 := Lib.hid (nextB HBv3.out hb)
        clear hb
        go_wp2_with fail
        go_at_call 20
        refine (K4.out _).mono ?_
        rintro e v5 ⟨rfl, hb⟩
        have HBv5 := Lib.hid (nextB HBv4.out hb)
        clear hb
        go_wp2_with fail
        go_at_call 19
        refine (K1.out _).mono ?_
        rintro e v6 ⟨rfl, hb⟩
        have HBv6 := Lib.hid (nextB HBv5.out hb)
        clear hb
        go_wp2_with fail
        go_at_call 23
        refine (CF1.out _).mono ?_
        rintro e v7 ⟨rfl, hb⟩
        have HBv7 := Lib.hid (nextB HBv6.out hb)
        clear hb
        go_wp2_with fail
        go_at_call 22
        refine (CF2.out _).mono ?_
        rintro e v8 ⟨rfl, hb⟩
        have HBv8 := Lib.hid (nextB HBv7.out hb)
        clear hb
        go_wp2_with fail
        go_ret
        exact ⟨rfl, HBv8.out⟩
      | true =>
        obtain ⟨y1, y2, y3, y4, y5⟩ := hf rfl
        have C5 := fun W => implPutLeb_any x W y4
        have hcut := fun W => cutHead8 T y y2 W
        rw [y5, take_str] at C5
        obtain ⟨E, hE⟩ : ∃ E, T.extract 0 y = E := ⟨_, rfl⟩
        rw [hE] at C5 hcut
        have C5 := Lib.hid C5
        have g1 : ¬ (y : Int) < 1 := by omega
        have g2 : ¬ (T.size : Int) < (y : Int) := by omega
        clear hf y5 hE
        go_wp2_with fail
        go_at_call 15
        refine (CG.out _).mono ?_
        rintro e u2 ⟨rfl, hb⟩
        have HBu2 := Lib.hid (nextB HBu1.out hb)
        clear hb
        go_wp2_with fail
        have g3 : decide ((y : Int) < 1) = false := decide_eq_false (by omega)
        have g4 : decide (T.size < y) = false := decide_eq_false (by omega)
        go_region_held3 (fun _ => True) (trivial)
          (first
            | (go_at_call 14; refine (C5.out _).mono ?_; rintro e u3 ⟨rfl, hb⟩; have HBu3 := Lib.hid (nextB HBu2.out.drew hb); clear hb))
        all_goals
          go_wp2_with fail
          go_at_call 17
          refine (drawHex_any _ _ (H1.out.keep HBu3.out)).mono ?_
          rintro e v1 ⟨⟨P, rfl, hP⟩, hb⟩
          have HBv1 := Lib.hid (nextB HBu3.out hb)
          clear hb
          have K1 := Lib.hid (fun W => implPutBytes_any P W (by omega))
          have K2 := Lib.hid (fun W => getBytes_back P (by omega) ⟨#[122]⟩ (by decide) W)
          have K3 := Lib.hid (fun W => implPutHex_any P W (by omega))
          have K4 := Lib.hid (fun W => getHex_back P (by omega) W)
          have hq : (strOfNums (lebU P.size) ++ P).size ≤ 2000 := by
            rw [ByteArray.size_append, strOfNums_size]
            have := lebU_length 9 P.size (by omega)
            omega
          obtain ⟨X, hX⟩ : ∃ X, strOfNums (hexl P.data.toList) = X := ⟨_, rfl⟩
          obtain ⟨Y, hY⟩ : ∃ Y, strOfNums (lebU P.size) ++ P = Y := ⟨_, rfl⟩
          rw [hY] at K1 K2 hq
          rw [hX] at K3 K4
          have hq2 : ¬ 9223372036854775807 < Y.size + 1 := by omega
          clear hX hY
          go_wp2_with fail
          go_at_call 19
          refine (K1.out _).mono ?_
          rintro e v2 ⟨rfl, hb⟩
          have HBv2 := Lib.hid (nextB HBv1.out hb)
          clear hb
          go_wp2_with fail
          go_at_call 18
          refine (K2.out _).mono ?_
          rintro e v3 ⟨rfl, hb⟩
          have HBv3 := Lib.hid (nextB HBv2.out hb)
          clear hb
          go_wp2_with fail
          go_at_call 21
          refine (K3.out _).mono ?_
          rintro e v4 ⟨rfl, hb⟩
          have HBv4 := Lib.hid (nextB HBv3.out hb)
          clear hb
          go_wp2_with fail
          go_at_call 20
          refine (K4.out _).mono ?_
          rintro e v5 ⟨rfl, hb⟩
          have HBv5 := Lib.hid (nextB HBv4.out hb)
          clear hb
          go_wp2_with fail
          go_at_call 19
          refine (K1.out _).mono ?_
          rintro e v6 ⟨rfl, hb⟩
          have HBv6 := Lib.hid (nextB HBv5.out hb)
          clear hb
          go_wp2_with fail
          go_at_call 23
          refine (CF1.out _).mono ?_
          rintro e v7 ⟨rfl, hb⟩
          have HBv7 := Lib.hid (nextB HBv6.out hb)
          clear hb
          go_wp2_with fail
          go_at_call 22
          refine (CF2.out _).mono ?_
          rintro e v8 ⟨rfl, hb⟩
          have HBv8 := Lib.hid (nextB HBv7.out hb)
          clear hb
          go_wp2_with fail
          go_ret
          exact ⟨rfl, HBv8.out⟩
    · clear hZ hZ2
      have hSm : ¬ 9223372036854775807 < S.size + 2 := by omega
      go_wp2_with fail
      go_at_call 12
      refine (C1.out _).mono ?_
      rintro e w2 ⟨rfl, hb⟩
      have HBw2 := Lib.hid (nextB HB.out hb)
      clear hb
      go_wp2_with fail
      go_at_call 13
      refine (C2.out _).mono ?_
      rintro e w3 ⟨rfl, hb⟩
      have HBw3 := Lib.hid (nextB HBw2.out hb)
      clear hb
      go_wp2_with fail
      go_at_call 16
      refine (drawGetLeb_any _ _ (H1.out.keep HBw3.out)).mono ?_
      rintro e u1 ⟨⟨T, rfl, hT⟩, hb⟩
      have HBu1 := Lib.hid (nextB HBw3.out hb)
      clear hb
      obtain ⟨x, y, ok, hf, CG⟩ := getLeb_fine T (by omega)
      have CG := Lib.hid CG
      cases ok with
      | false =>
        clear hf
        go_wp2_with fail
        go_at_call 15
        refine (CG.out _).mono ?_
        rintro e u2 ⟨rfl, hb⟩
        have HBu2 := Lib.hid (nextB HBu1.out hb)
        clear hb
        go_wp2_with fail
        go_quiet (fail)
        go_wp2_with fail
        go_at_call 17
        refine (drawHex_any _ _ (H1.out.keep (nextQ HBu2.out _))).mono ?_
        rintro e v1 ⟨⟨P, rfl, hP⟩, hb⟩
        have HBv1 := Lib.hid (nextB (nextQ HBu2.out _) hb)
        clear hb
        have K1 := Lib.hid (fun W => implPutBytes_any P W (by omega))
        have K2 := Lib.hid (fun W => getBytes_back P (by omega) ⟨#[122]⟩ (by decide) W)
        have K3 := Lib.hid (fun W => implPutHex_any P W (by omega))
        have K4 := Lib.hid (fun W => getHex_back P (by omega) W)
        have hq : (strOfNums (lebU P.size) ++ P).size ≤ 2000 := by
          rw [ByteArray.size_append, strOfNums_size]
          have := lebU_length 9 P.size (by omega)
          omega
        obtain ⟨X, hX⟩ : ∃ X, strOfNums (hexl P.data.toList) = X := ⟨_, rfl⟩
        obtain ⟨Y, hY⟩ : ∃ Y, strOfNums (lebU P.size) ++ P = Y := ⟨_, rfl⟩
        rw [hY] at K1 K2 hq
        rw [hX] at K3 K4
        have hq2 : ¬ 9223372036854775807 < Y.size + 1 := by omega
        clear hX hY
        go_wp2_with fail
        go_at_call 19
        refine (K1.out _).mono ?_
        rintro e v2 ⟨rfl, hb⟩
        have HBv2 := Lib.hid (nextB HBv1.out hb)
        clear hb
        go_wp2_with fail
        go_at_call 18
        refine (K2.out _).mono ?_
        rintro e v3 ⟨rfl, hb⟩
        have HBv3 := Lib.hid (nextB HBv2.out hb)
        clear hb
        go_wp2_with fail
        go_at_call 21
        refine (K3.out _).mono ?_
        rintro e v4 ⟨rfl, hb⟩
        have HBv4 := Lib.hid (nextB HBv3.out hb)
        clear hb
        go_wp2_with fail
        go_at_call 20
        refine (K4.out _).mono ?_
        rintro e v5 ⟨rfl, hb⟩
        have HBv5 := Lib.hid (nextB HBv4.out hb)
        clear hb
        go_wp2_with fail
        go_at_call 19
        refine (K1.out _).mono ?_
        rintro e v6 ⟨rfl, hb⟩
        have HBv6 := Lib.hid (nextB HBv5.out hb)
        clear hb
        go_wp2_with fail
        go_at_call 23
        refine (CF1.out _).mono ?_
        rintro e v7 ⟨rfl, hb⟩
        have HBv7 := Lib.hid (nextB HBv6.out hb)
        clear hb
        go_wp2_with fail
        go_at_call 22
        refine (CF2.out _).mono ?_
        rintro e v8 ⟨rfl, hb⟩
        have HBv8 := Lib.hid (nextB HBv7.out hb)
        clear hb
        go_wp2_with fail
        go_ret
        exact ⟨rfl, HBv8.out⟩
      | true =>
        obtain ⟨y1, y2, y3, y4, y5⟩ := hf rfl
        have C5 := fun W => implPutLeb_any x W y4
        have hcut := fun W => cutHead8 T y y2 W
        rw [y5, take_str] at C5
        obtain ⟨E, hE⟩ : ∃ E, T.extract 0 y = E := ⟨_, rfl⟩
        rw [hE] at C5 hcut
        have C5 := Lib.hid C5
        have g1 : ¬ (y : Int) < 1 := by omega
        have g2 : ¬ (T.size : Int) < (y : Int) := by omega
        clear hf y5 hE
        go_wp2_with fail
        go_at_call 15
        refine (CG.out _).mono ?_
        rintro e u2 ⟨rfl, hb⟩
        have HBu2 := Lib.hid (nextB HBu1.out hb)
        clear hb
        go_wp2_with fail
        have g3 : decide ((y : Int) < 1) = false := decide_eq_false (by omega)
        have g4 : decide (T.size < y) = false := decide_eq_false (by omega)
        go_region_held3 (fun _ => True) (trivial)
          (first
            | (go_at_call 14; refine (C5.out _).mono ?_; rintro e u3 ⟨rfl, hb⟩; have HBu3 := Lib.hid (nextB HBu2.out.drew hb); clear hb))
        all_goals
          go_wp2_with fail
          go_at_call 17
          refine (drawHex_any _ _ (H1.out.keep HBu3.out)).mono ?_
          rintro e v1 ⟨⟨P, rfl, hP⟩, hb⟩
          have HBv1 := Lib.hid (nextB HBu3.out hb)
          clear hb
          have K1 := Lib.hid (fun W => implPutBytes_any P W (by omega))
          have K2 := Lib.hid (fun W => getBytes_back P (by omega) ⟨#[122]⟩ (by decide) W)
          have K3 := Lib.hid (fun W => implPutHex_any P W (by omega))
          have K4 := Lib.hid (fun W => getHex_back P (by omega) W)
          have hq : (strOfNums (lebU P.size) ++ P).size ≤ 2000 := by
            rw [ByteArray.size_append, strOfNums_size]
            have := lebU_length 9 P.size (by omega)
            omega
          obtain ⟨X, hX⟩ : ∃ X, strOfNums (hexl P.data.toList) = X := ⟨_, rfl⟩
          obtain ⟨Y, hY⟩ : ∃ Y, strOfNums (lebU P.size) ++ P = Y := ⟨_, rfl⟩
          rw [hY] at K1 K2 hq
          rw [hX] at K3 K4
          have hq2 : ¬ 9223372036854775807 < Y.size + 1 := by omega
          clear hX hY
          go_wp2_with fail
          go_at_call 19
          refine (K1.out _).mono ?_
          rintro e v2 ⟨rfl, hb⟩
          have HBv2 := Lib.hid (nextB HBv1.out hb)
          clear hb
          go_wp2_with fail
          go_at_call 18
          refine (K2.out _).mono ?_
          rintro e v3 ⟨rfl, hb⟩
          have HBv3 := Lib.hid (nextB HBv2.out hb)
          clear hb
          go_wp2_with fail
          go_at_call 21
          refine (K3.out _).mono ?_
          rintro e v4 ⟨rfl, hb⟩
          have HBv4 := Lib.hid (nextB HBv3.out hb)
          clear hb
          go_wp2_with fail
          go_at_call 20
          refine (K4.out _).mono ?_
          rintro e v5 ⟨rfl, hb⟩
          have HBv5 := Lib.hid (nextB HBv4.out hb)
          clear hb
          go_wp2_with fail
          go_at_call 19
          refine (K1.out _).mono ?_
          rintro e v6 ⟨rfl, hb⟩
          have HBv6 := Lib.hid (nextB HBv5.out hb)
          clear hb
          go_wp2_with fail
          go_at_call 23
          refine (CF1.out _).mono ?_
          rintro e v7 ⟨rfl, hb⟩
          have HBv7 := Lib.hid (nextB HBv6.out hb)
          clear hb
          go_wp2_with fail
          go_at_call 22
          refine (CF2.out _).mono ?_
          rintro e v8 ⟨rfl, hb⟩
          have HBv8 := Lib.hid (nextB HBv7.out hb)
          clear hb
          go_wp2_with fail
          go_ret
          exact ⟨rfl, HBv8.out⟩
end Go.Proofs.Ythdnklhaagofhaa
