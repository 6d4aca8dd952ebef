/-
  The walk of the law on transcoding. Both lists of bytes are whatever the row allows.
-/
import Derived.Test.YthdnklhaagofhaaDoorTranDraw
import Derived.Test.YthdnklhaagofhaaDoorTranBack
import Derived.Test.YthdnklhaagofhaaDoorTextOf
import Derived.Test.YthdnklhaagofhaaDoorPtsI
import Derived.Test.YthdnklhaagofhaaDoorUnitSize
namespace Go.Proofs.YthdnklhaagofhaaDoor
open Go.ChangeShapes Go.WideShapes Go.ChangeAt Go.RowKit Go.Deep
set_option maxRecDepth 100000

theorem nextB {W a b : World} (h : Below W.heap.size W a) (k : Below a.heap.size a b) : Below W.heap.size W b := bchain h k h.size

set_option maxHeartbeats 4000000 in
theorem fnTranscodeLaw (R0 : Option Addr) (m0 c0 : Nat) (R1 : Option Addr) (m1 c1 : Nat) (W : World) (h0 : CodeOk W (.slice R0 m0 c0)) (h1 : CodeOk W (.slice R1 m1 c1)) (hT : Tabs W) :
    Calls Tryd.prog 5 #[.slice R0 m0 c0, .slice R1 m1 c1] W fun e W' => e = .returned (.bool true) ∧ Below W.heap.size W W' := by
  obtain ⟨v, CL⟩ := long_any R0 m0 c0 R1 m1 c1
  have H1 := Lib.hid h1
  have HT := Lib.hid hT
  have CD := Lib.hid (drawTran_any _ W h0)
  clear h0 h1 hT
  cases v with
  | true =>
    go_enter Tryd.func5, Tryd.ntmps5
    go_wp2_with fail
    go_at_call 7
    refine (CL.out _).mono ?_
    rintro e w0 ⟨rfl, rfl⟩
    go_wp2_with fail
    go_ret
    exact ⟨rfl, Below.refl _ _⟩
  | false =>
    go_enter Tryd.func5, Tryd.ntmps5
    go_wp2_with fail
    go_at_call 7
    refine (CL.out _).mono ?_
    rintro e w0 ⟨rfl, rfl⟩
    go_wp2_with fail
    go_at_call 23
    refine CD.out.mono ?_
    rintro e w1 ⟨⟨p, q, T, rfl, hTz⟩, hb1⟩
    clear CD CL
    have HB := Lib.hid hb1
    clear hb1
    have CT := fun W hT => implTran_any p q T W hT
    obtain ⟨V, hv⟩ : ∃ V, tranA p q T = V := ⟨_, rfl⟩
    rw [hv] at CT
    obtain ⟨X, k⟩ := V
    have CT := Lib.hid CT
    by_cases hk : k = 0
    · subst hk
      obtain ⟨S, b1, b2, b3⟩ := tran_back hv
      have CT2 := fun W hT => implTran_any q p X W hT
      have CD1 := fun W hT => implDec_any q X W hT
      have CD2 := fun W hT => implDec_any p T W hT
      rw [b1] at CT2
      rw [b2] at CD1
      rw [b3] at CD2
      have CT2 := Lib.hid CT2
      have CD1 := Lib.hid CD1
      have CD2 := Lib.hid CD2
      clear hv b1 b2 b3
      go_wp2_with fail
      go_at_call 24
      refine (CT.out _ (HT.out.keep HB.out)).mono ?_
      rintro e w2 ⟨rfl, hb⟩
      have HBw2 := Lib.hid (nextB HB.out hb)
      clear hb
      go_wp2_with fail
      go_at_call 24
      refine (CT2.out _ (HT.out.keep HBw2.out)).mono ?_
      rintro e w3 ⟨rfl, hb⟩
      have HBw3 := Lib.hid (nextB HBw2.out hb)
      clear hb
      go_wp2_with fail
      go_at_call 25
      refine (CD1.out _ (HT.out.keep HBw3.out)).mono ?_
      rintro e w4 ⟨rfl, hb⟩
      have HBw4 := Lib.hid (nextB HBw3.out hb)
      clear hb
      go_wp2_with fail
      go_at_call 25
      refine (CD2.out _ (HT.out.keep HBw4.out)).mono ?_
      rintro e w5 ⟨rfl, hb⟩
      have HBw5 := Lib.hid (nextB HBw4.out hb)
      clear hb
      go_wp2_with fail
      go_at_call 26
      refine (drawEnc_any _ _ (H1.out.keep HBw5.out)).mono ?_
      rintro e x1 ⟨⟨enc, s, rfl, hsz⟩, hb⟩
      have HBx1 := Lib.hid (nextB HBw5.out hb)
      clear hb
      have CC := fun W hT => implEnc_any enc s (by omega) W hT
      obtain ⟨V, hv2⟩ : ∃ V, encA enc s = V := ⟨_, rfl⟩
      rw [hv2] at CC
      obtain ⟨b, j⟩ := V
      have CC := Lib.hid CC
      by_cases hj : j = 0
      · subst hj
        obtain ⟨he, hok, hd, hev⟩ := enc_back hv2
        have CE := fun W hT => implDec_any enc b W hT
        rw [hd] at CE
        have CE := Lib.hid CE
        have CP := Lib.hid (fun W hT => implPts_any s W (by omega) hT)
        have HOK : Hid ((decide (s.size ≤ 24) && Lib.validD s.data.toList) = true) := Lib.hid (by simp only [Bool.and_eq_true, decide_eq_true_eq]; exact hok)
        have HXP := Lib.hid (txOk_pts hok)
        have HBK := Lib.hid (back_pts hok)
        have hpl := ptsOf_len s
        have CX := Lib.hid (fun (R : Option Addr) (c : Nat) W h hT => implTextOf_any (ptsOf s) (by omega) R c W h hT)
        clear hok hd hpl
        go_wp2_with fail
        go_at_call 27
        refine (CC.out _ (HT.out.keep HBx1.out)).mono ?_
        rintro e x2 ⟨rfl, hb⟩
        have HBx2 := Lib.hid (nextB HBx1.out hb)
        clear hb
        rcases he with rfl | rfl | rfl
        · have CN := Lib.hid (fun W hT => implUnits_any 1 s (by omega) W hT)
          have hu : unitsA 1 s = ((b.size : Int), 0) := by
            unfold unitsA
            rw [hv2]
            rfl
          rw [hu] at CN
          have hbs := encA_size 1 s
          rw [hv2] at hbs
          have hbs : b.size ≤ 96 := hbs
          clear hu hev hv2 hsz
          go_wp2_with fail
          go_at_call 25
          refine (CE.out _ (HT.out.keep HBx2.out)).mono ?_
          rintro e x3 ⟨rfl, hb⟩
          have HBx3 := Lib.hid (nextB HBx2.out hb)
          clear hb
          go_wp2_with fail
          go_at_call 28
          refine (CN.out _ (HT.out.keep HBx3.out)).mono ?_
          rintro e x4 ⟨rfl, hb⟩
          have HBx4 := Lib.hid (nextB HBx3.out hb)
          clear hb
          go_wp2_with fail
          go_at_call 29
          refine (CP.out _ (HT.out.keep HBx4.out)).mono ?_
          rintro e x5 hpp
          obtain ⟨RP, cP, gP, rfl, _, _, hop, hb⟩ := hpp.1 HOK.out
          have HBx5 := Lib.hid (nextB HBx4.out hb)
          have HOP := Lib.hid (Own6.row (P := ptsOf s) hop)
          clear hb hop hpp
          go_wp2_with fail
          go_at_call 30
          refine (CX.out RP cP _ HOP.out (HT.out.keep HBx5.out)).mono ?_
          rintro e x6 hxx
          obtain ⟨rfl, hb⟩ : e = .returned (.tuple #[.string s, .bool true]) ∧ Below x5.heap.size x5 x6 := ⟨by rw [hxx.1 HXP.out, HBK.out], hxx.2.2⟩
          have HBx6 := Lib.hid (nextB HBx5.out hb)
          clear hb hxx
          go_wp2_with fail
          go_at_call 31
          refine (implUnit_1 _).mono ?_
          rintro e x7 ⟨rfl, hb⟩
          have HBx7 := Lib.hid (nextB HBx6.out hb)
          clear hb
          go_wp2_with fail
          go_ret
          exact ⟨rfl, HBx7.out⟩
        · have CN := Lib.hid (fun W hT => implUnits_any 2 s (by omega) W hT)
          have hu : unitsA 2 s = (((b.size : Int) / 2), 0) := by
            unfold unitsA
            rw [hv2]
            rfl
          rw [hu] at CN
          obtain ⟨N, hN⟩ : ∃ N : Int, (b.size : Int) / 2 = N := ⟨_, rfl⟩
          have hbz := hev rfl
          have hbs := encA_size 2 s
          rw [hv2] at hbs
          have hbs : b.size ≤ 96 := hbs
          have hNb : N * 2 = (b.size : Int) := by omega
          have hN0 : 0 ≤ N ∧ N ≤ 100 := by omega
          rw [hN] at CN
          clear hN hbz hbs
          clear hu hev hv2 hsz
          go_wp2_with fail
          go_at_call 25
          refine (CE.out _ (HT.out.keep HBx2.out)).mono ?_
          rintro e x3 ⟨rfl, hb⟩
          have HBx3 := Lib.hid (nextB HBx2.out hb)
          clear hb
          go_wp2_with fail
          go_at_call 28
          refine (CN.out _ (HT.out.keep HBx3.out)).mono ?_
          rintro e x4 ⟨rfl, hb⟩
          have HBx4 := Lib.hid (nextB HBx3.out hb)
          clear hb
          go_wp2_with fail
          go_at_call 29
          refine (CP.out _ (HT.out.keep HBx4.out)).mono ?_
          rintro e x5 hpp
          obtain ⟨RP, cP, gP, rfl, _, _, hop, hb⟩ := hpp.1 HOK.out
          have HBx5 := Lib.hid (nextB HBx4.out hb)
          have HOP := Lib.hid (Own6.row (P := ptsOf s) hop)
          clear hb hop hpp
          go_wp2_with fail
          go_at_call 30
          refine (CX.out RP cP _ HOP.out (HT.out.keep HBx5.out)).mono ?_
          rintro e x6 hxx
          obtain ⟨rfl, hb⟩ : e = .returned (.tuple #[.string s, .bool true]) ∧ Below x5.heap.size x5 x6 := ⟨by rw [hxx.1 HXP.out, HBK.out], hxx.2.2⟩
          have HBx6 := Lib.hid (nextB HBx5.out hb)
          clear hb hxx
          go_wp2_with fail
          go_at_call 31
          refine (implUnit_2 _).mono ?_
          rintro e x7 ⟨rfl, hb⟩
          have HBx7 := Lib.hid (nextB HBx6.out hb)
          clear hb
          go_wp2_with fail
          go_ret
          exact ⟨rfl, HBx7.out⟩
        · have CN := Lib.hid (fun W hT => implUnits_any 3 s (by omega) W hT)
          have hu : unitsA 3 s = ((b.size : Int), 0) := by
            unfold unitsA
            rw [hv2]
            rfl
          rw [hu] at CN
          have hbs := encA_size 3 s
          rw [hv2] at hbs
          have hbs : b.size ≤ 96 := hbs
          clear hu hev hv2 hsz
          go_wp2_with fail
          go_at_call 25
          refine (CE.out _ (HT.out.keep HBx2.out)).mono ?_
          rintro e x3 ⟨rfl, hb⟩
          have HBx3 := Lib.hid (nextB HBx2.out hb)
          clear hb
          go_wp2_with fail
          go_at_call 28
          refine (CN.out _ (HT.out.keep HBx3.out)).mono ?_
          rintro e x4 ⟨rfl, hb⟩
          have HBx4 := Lib.hid (nextB HBx3.out hb)
          clear hb
          go_wp2_with fail
          go_at_call 29
          refine (CP.out _ (HT.out.keep HBx4.out)).mono ?_
          rintro e x5 hpp
          obtain ⟨RP, cP, gP, rfl, _, _, hop, hb⟩ := hpp.1 HOK.out
          have HBx5 := Lib.hid (nextB HBx4.out hb)
          have HOP := Lib.hid (Own6.row (P := ptsOf s) hop)
          clear hb hop hpp
          go_wp2_with fail
          go_at_call 30
          refine (CX.out RP cP _ HOP.out (HT.out.keep HBx5.out)).mono ?_
          rintro e x6 hxx
          obtain ⟨rfl, hb⟩ : e = .returned (.tuple #[.string s, .bool true]) ∧ Below x5.heap.size x5 x6 := ⟨by rw [hxx.1 HXP.out, HBK.out], hxx.2.2⟩
          have HBx6 := Lib.hid (nextB HBx5.out hb)
          clear hb hxx
          go_wp2_with fail
          go_at_call 31
          refine (implUnit_3 _).mono ?_
          rintro e x7 ⟨rfl, hb⟩
          have HBx7 := Lib.hid (nextB HBx6.out hb)
          clear hb
          go_wp2_with fail
          go_ret
          exact ⟨rfl, HBx7.out⟩
      · have hj2 : (j == 0) = false := beq_eq_false_iff_ne.mpr hj
        clear hv2
        go_wp2_with fail
        go_at_call 27
        refine (CC.out _ (HT.out.keep HBx1.out)).mono ?_
        rintro e x2 ⟨rfl, hb⟩
        have HBx2 := Lib.hid (nextB HBx1.out hb)
        clear hb
        go_wp2_with fail
        go_ret
        exact ⟨rfl, HBx2.out⟩
    · have hk2 : (k == 0) = false := beq_eq_false_iff_ne.mpr hk
      clear hv
      go_wp2_with fail
      go_at_call 24
      refine (CT.out _ (HT.out.keep HB.out)).mono ?_
      rintro e w2 ⟨rfl, hb⟩
      have HBw2 := Lib.hid (nextB HB.out hb)
      clear hb
      go_wp2_with fail
      go_at_call 26
      refine (drawEnc_any _ _ (H1.out.keep HBw2.out)).mono ?_
      rintro e x1 ⟨⟨enc, s, rfl, hsz⟩, hb⟩
      have HBx1 := Lib.hid (nextB HBw2.out hb)
      clear hb
      have CC := fun W hT => implEnc_any enc s (by omega) W hT
      obtain ⟨V, hv2⟩ : ∃ V, encA enc s = V := ⟨_, rfl⟩
      rw [hv2] at CC
      obtain ⟨b, j⟩ := V
      have CC := Lib.hid CC
      by_cases hj : j = 0
      · subst hj
        obtain ⟨he, hok, hd, hev⟩ := enc_back hv2
        have CE := fun W hT => implDec_any enc b W hT
        rw [hd] at CE
        have CE := Lib.hid CE
        have CP := Lib.hid (fun W hT => implPts_any s W (by omega) hT)
        have HOK : Hid ((decide (s.size ≤ 24) && Lib.validD s.data.toList) = true) := Lib.hid (by simp only [Bool.and_eq_true, decide_eq_true_eq]; exact hok)
        have HXP := Lib.hid (txOk_pts hok)
        have HBK := Lib.hid (back_pts hok)
        have hpl := ptsOf_len s
        have CX := Lib.hid (fun (R : Option Addr) (c : Nat) W h hT => implTextOf_any (ptsOf s) (by omega) R c W h hT)
        clear hok hd hpl
        go_wp2_with fail
        go_at_call 27
        refine (CC.out _ (HT.out.keep HBx1.out)).mono ?_
        rintro e x2 ⟨rfl, hb⟩
        have HBx2 := Lib.hid (nextB HBx1.out hb)
        clear hb
        rcases he with rfl | rfl | rfl
        · have CN := Lib.hid (fun W hT => implUnits_any 1 s (by omega) W hT)
          have hu : unitsA 1 s = ((b.size : Int), 0) := by
            unfold unitsA
            rw [hv2]
            rfl
          rw [hu] at CN
          have hbs := encA_size 1 s
          rw [hv2] at hbs
          have hbs : b.size ≤ 96 := hbs
          clear hu hev hv2 hsz
          go_wp2_with fail
          go_at_call 25
          refine (CE.out _ (HT.out.keep HBx2.out)).mono ?_
          rintro e x3 ⟨rfl, hb⟩
          have HBx3 := Lib.hid (nextB HBx2.out hb)
          clear hb
          go_wp2_with fail
          go_at_call 28
          refine (CN.out _ (HT.out.keep HBx3.out)).mono ?_
          rintro e x4 ⟨rfl, hb⟩
          have HBx4 := Lib.hid (nextB HBx3.out hb)
          clear hb
          go_wp2_with fail
          go_at_call 29
          refine (CP.out _ (HT.out.keep HBx4.out)).mono ?_
          rintro e x5 hpp
          obtain ⟨RP, cP, gP, rfl, _, _, hop, hb⟩ := hpp.1 HOK.out
          have HBx5 := Lib.hid (nextB HBx4.out hb)
          have HOP := Lib.hid (Own6.row (P := ptsOf s) hop)
          clear hb hop hpp
          go_wp2_with fail
          go_at_call 30
          refine (CX.out RP cP _ HOP.out (HT.out.keep HBx5.out)).mono ?_
          rintro e x6 hxx
          obtain ⟨rfl, hb⟩ : e = .returned (.tuple #[.string s, .bool true]) ∧ Below x5.heap.size x5 x6 := ⟨by rw [hxx.1 HXP.out, HBK.out], hxx.2.2⟩
          have HBx6 := Lib.hid (nextB HBx5.out hb)
          clear hb hxx
          go_wp2_with fail
          go_at_call 31
          refine (implUnit_1 _).mono ?_
          rintro e x7 ⟨rfl, hb⟩
          have HBx7 := Lib.hid (nextB HBx6.out hb)
          clear hb
          go_wp2_with fail
          go_ret
          exact ⟨rfl, HBx7.out⟩
        · have CN := Lib.hid (fun W hT => implUnits_any 2 s (by omega) W hT)
          have hu : unitsA 2 s = (((b.size : Int) / 2), 0) := by
            unfold unitsA
            rw [hv2]
            rfl
          rw [hu] at CN
          obtain ⟨N, hN⟩ : ∃ N : Int, (b.size : Int) / 2 = N := ⟨_, rfl⟩
          have hbz := hev rfl
          have hbs := encA_size 2 s
          rw [hv2] at hbs
          have hbs : b.size ≤ 96 := hbs
          have hNb : N * 2 = (b.size : Int) := by omega
          have hN0 : 0 ≤ N ∧ N ≤ 100 := by omega
          rw [hN] at CN
          clear hN hbz hbs
          clear hu hev hv2 hsz
          go_wp2_with fail
          go_at_call 25
          refine (CE.out _ (HT.out.keep HBx2.out)).mono ?_
          rintro e x3 ⟨rfl, hb⟩
          have HBx3 := Lib.hid (nextB HBx2.out hb)
          clear hb
          go_wp2_with fail
          go_at_call 28
          refine (CN.out _ (HT.out.keep HBx3.out)).mono ?_
          rintro e x4 ⟨rfl, hb⟩
          have HBx4 := Lib.hid (nextB HBx3.out hb)
          clear hb
          go_wp2_with fail
          go_at_call 29
          refine (CP.out _ (HT.out.keep HBx4.out)).mono ?_
          rintro e x5 hpp
          obtain ⟨RP, cP, gP, rfl, _, _, hop, hb⟩ := hpp.1 HOK.out
          have HBx5 := Lib.hid (nextB HBx4.out hb)
          have HOP := Lib.hid (Own6.row (P := ptsOf s) hop)
          clear hb hop hpp
          go_wp2_with fail
          go_at_call 30
          refine (CX.out RP cP _ HOP.out (HT.out.keep HBx5.out)).mono ?_
          rintro e x6 hxx
          obtain ⟨rfl, hb⟩ : e = .returned (.tuple #[.string s, .bool true]) ∧ Below x5.heap.size x5 x6 := ⟨by rw [hxx.1 HXP.out, HBK.out], hxx.2.2⟩
          have HBx6 := Lib.hid (nextB HBx5.out hb)
          clear hb hxx
          go_wp2_with fail
          go_at_call 31
          refine (implUnit_2 _).mono ?_
          rintro e x7 ⟨rfl, hb⟩
          have HBx7 := Lib.hid (nextB HBx6.out hb)
          clear hb
          go_wp2_with fail
          go_ret
          exact ⟨rfl, HBx7.out⟩
        · have CN := Lib.hid (fun W hT => implUnits_any 3 s (by omega) W hT)
          have hu : unitsA 3 s = ((b.size : Int), 0) := by
            unfold unitsA
            rw [hv2]
            rfl
          rw [hu] at CN
          have hbs := encA_size 3 s
          rw [hv2] at hbs
          have hbs : b.size ≤ 96 := hbs
          clear hu hev hv2 hsz
          go_wp2_with fail
          go_at_call 25
          refine (CE.out _ (HT.out.keep HBx2.out)).mono ?_
          rintro e x3 ⟨rfl, hb⟩
          have HBx3 := Lib.hid (nextB HBx2.out hb)
          clear hb
          go_wp2_with fail
          go_at_call 28
          refine (CN.out _ (HT.out.keep HBx3.out)).mono ?_
          rintro e x4 ⟨rfl, hb⟩
          have HBx4 := Lib.hid (nextB HBx3.out hb)
          clear hb
          go_wp2_with fail
          go_at_call 29
          refine (CP.out _ (HT.out.keep HBx4.out)).mono ?_
          rintro e x5 hpp
          obtain ⟨RP, cP, gP, rfl, _, _, hop, hb⟩ := hpp.1 HOK.out
          have HBx5 := Lib.hid (nextB HBx4.out hb)
          have HOP := Lib.hid (Own6.row (P := ptsOf s) hop)
          clear hb hop hpp
          go_wp2_with fail
          go_at_call 30
          refine (CX.out RP cP _ HOP.out (HT.out.keep HBx5.out)).mono ?_
          rintro e x6 hxx
          obtain ⟨rfl, hb⟩ : e = .returned (.tuple #[.string s, .bool true]) ∧ Below x5.heap.size x5 x6 := ⟨by rw [hxx.1 HXP.out, HBK.out], hxx.2.2⟩
          have HBx6 := Lib.hid (nextB HBx5.out hb)
          clear hb hxx
          go_wp2_with fail
          go_at_call 31
          refine (implUnit_3 _).mono ?_
          rintro e x7 ⟨rfl, hb⟩
          have HBx7 := Lib.hid (nextB HBx6.out hb)
          clear hb
          go_wp2_with fail
          go_ret
          exact ⟨rfl, HBx7.out⟩
      · have hj2 : (j == 0) = false := beq_eq_false_iff_ne.mpr hj
        clear hv2
        go_wp2_with fail
        go_at_call 27
        refine (CC.out _ (HT.out.keep HBx1.out)).mono ?_
        rintro e x2 ⟨rfl, hb⟩
        have HBx2 := Lib.hid (nextB HBx1.out hb)
        clear hb
        go_wp2_with fail
        go_ret
        exact ⟨rfl, HBx2.out⟩
end Go.Proofs.YthdnklhaagofhaaDoor
