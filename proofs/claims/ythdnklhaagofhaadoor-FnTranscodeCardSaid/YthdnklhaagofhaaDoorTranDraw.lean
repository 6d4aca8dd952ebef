/-
  What the law on transcoding draws: an encoding, some bytes, some text.
-/
import Derived.Test.YthdnklhaagofhaaDoorSrcBend
import Derived.Test.YthdnklhaagofhaaDoorLong
import Derived.Test.YthdnklhaagofhaaDoorEncS
import Derived.Test.YthdnklhaagofhaaDoorUnitsOfLaw
namespace Go.Proofs.YthdnklhaagofhaaDoor
open Go.ChangeShapes Go.WideShapes Go.ChangeAt Go.RowKit Go.Deep

set_option maxRecDepth 100000 in
theorem l04Word_any (B n : Nat) (hn : n ≤ 800000) (sv : Value) (W : World) (h : SrcAt W B n sv) :
    Calls Tryd.prog 64 #[.pointer (some ⟨B, 0, none⟩)] W (SomeText B n 2 24 sv W) := by
  have HH := Lib.hid h
  clear h
  go_enter Tryd.func64, Tryd.ntmps64
  go_wp2_with fail
  go_at_call 56
  refine Calls.mono (text_lit B n (by omega) sv 24 _ _ _ _ ?hk ?h1 ?h2 ?hok W HH.out) ?_
  case hk => rfl
  case h1 => decide
  case h2 => decide
  case hok => kernel_rfl
  rintro e W1 ⟨t, n', rfl, ht, hn', hs, hk⟩
  go_wp2_with fail
  go_ret
  exact ⟨t, n', rfl, ht, hn', hs, hk⟩
set_option maxRecDepth 100000 in
theorem l11Enc_any (B n : Nat) (hn : n ≤ 800000) (sv : Value) (W : World) (h : SrcAt W B n sv) :
    Calls Tryd.prog 59 #[.pointer (some ⟨B, 0, none⟩)] W (SomeNum B n 2 0 4 sv W) := by
  have HH := Lib.hid h
  clear h
  go_enter Tryd.func59, Tryd.ntmps59
  go_wp2_with fail
  go_at_call 93
  refine Calls.mono (among_lit B n (by omega) sv 0 4 _ _ _ _ ?hk ?h1 ?h2 ?hok W HH.out) ?_
  case hk => rfl
  case h1 => decide
  case h2 => decide
  case hok => kernel_rfl
  rintro e W1 ⟨t, n', rfl, ht, hn', hs, hk⟩
  go_wp2_with fail
  go_ret
  exact ⟨t, n', rfl, ht, hn', hs, hk⟩
set_option maxRecDepth 100000 in
set_option maxHeartbeats 4000000 in
theorem l11Bytes_any (B n : Nat) (hn : n ≤ 600000) (sv : Value) (enc : Int) (W : World) (h : SrcAt W B n sv) :
    Calls Tryd.prog 60 #[.pointer (some ⟨B, 0, none⟩), .int .i64 enc] W (SomeText B n 1020 1300 sv W) := by
  have CW := Lib.hid (l04Word_any B n (by omega) sv W h)
  clear h
  go_enter Tryd.func60, Tryd.ntmps60
  go_wp2_with fail
  go_at_call 64
  refine CW.out.mono ?_
  rintro e W1 ⟨s, n1, rfl, hs, hn1, hs1, hk1⟩
  have HS1 := Lib.hid hs1
  have HK1 := Lib.hid hk1
  have hz := encA_size enc s
  clear hs1 hk1 CW
  go_wp2_with fail
  go_at_call 94
  refine (specEnc_any enc s W1).mono ?_
  rintro e W2 ⟨rfl, hb2⟩
  have HS2 := Lib.hid (HS1.out.below hb2)
  have HK2 := Lib.hid (HK1.out.below hb2 (Nat.le_of_lt HS1.out.lt))
  obtain ⟨T, hT⟩ : ∃ T, (encA enc s).1 = T := ⟨_, rfl⟩
  obtain ⟨k, hk⟩ : ∃ k, (encA enc s).2 = k := ⟨_, rfl⟩
  rw [hT] at hz
  rw [hT, hk]
  clear hT hk hb2
  by_cases hk : k = 0
  · subst hk
    have CO := Lib.hid (one_any B n1 (by omega) sv 5 (by omega) W2 HS2.out)
    clear HS1 HK1 HS2
    go_wp2_with fail
    go_at_call 63
    refine CO.out.mono ?_
    rintro e W3 ⟨r, n3, rfl, hn3, hs3, ho3⟩
    have HS3 := Lib.hid hs3
    have HK3 := Lib.hid (HK2.out.trans ho3.keep)
    clear CO hs3 ho3 HK2
    cases r with
    | true =>
      have HS0 := HS3
      have HK0 := HK3
      clear HS3 HK3 hz
      go_wp2_with fail
      go_at_call 56
      refine Calls.mono (text_lit B n3 (by omega) sv 24 _ _ _ _ ?hk ?h1 ?h2 ?hok W3 HS0.out) ?_
      case hk => rfl
      case h1 => decide
      case h2 => decide
      case hok => kernel_rfl
      rintro e WL ⟨U, nl, rfl, hu, hnl, hsl, hkl⟩
      have HS := Lib.hid hsl
      have HK := Lib.hid (HK0.out.trans hkl)
      have hz : U.size ≤ 96 := by omega
      clear hsl hkl HS0 HK0
      have CP := Lib.hid (pick_any B nl (by omega) sv 8 (by omega) WL HS.out)
      clear HS
      go_wp2_with fail
      go_at_call 92
      refine CP.out.mono ?_
      rintro e WP ⟨r, np, rfl, r0, r1, hnp, hsp, hop⟩
      have HKP := Lib.hid (HK.out.trans hop.keep)
      have HSP := Lib.hid hsp
      clear CP hsp hop HK
      by_cases h0 : r = 0
      · subst h0
        have CB := Lib.hid (bend_any B np (by omega) sv U 96 hz (by omega) WP HSP.out)
        clear HSP
        go_wp2_with fail
        go_at_call 95
        refine CB.out.mono ?_
        rintro e WB ⟨u, nb, rfl, hu, hnb, hsb, hkb⟩
        have HKB := Lib.hid (HKP.out.trans hkb)
        have HSB := Lib.hid hsb
        clear CB hsb hkb HKP
        go_wp2_with fail
        go_ret
        exact ⟨u, nb, rfl, by omega, by omega, HSB.out, HKB.out⟩
      · by_cases h1 : r = 1
        · subst h1
          have hm1 : ¬ 9223372036854775807 < U.size + U.size := by omega
          have hm2 : ¬ 9223372036854775807 < U.size + U.size + U.size := by omega
          have hm3 : (U ++ U).size = U.size + U.size := ByteArray.size_append
          go_wp2_with fail
          go_ret
          exact ⟨_, np, rfl, by rw [ByteArray.size_append, ByteArray.size_append]; omega, by omega, HSP.out, HKP.out⟩
        · have h2 : (r == 0) = false := beq_eq_false_iff_ne.mpr h0
          have h3 : (r == 1) = false := beq_eq_false_iff_ne.mpr h1
          go_wp2_with fail
          go_ret
          exact ⟨_, np, rfl, by omega, by omega, HSP.out, HKP.out⟩
    | false =>
      have HS := HS3
      have HK := HK3
      clear HS3 HK3
      have CP := Lib.hid (pick_any B n3 (by omega) sv 8 (by omega) W3 HS.out)
      clear HS
      go_wp2_with fail
      go_at_call 92
      refine CP.out.mono ?_
      rintro e WP ⟨r, np, rfl, r0, r1, hnp, hsp, hop⟩
      have HKP := Lib.hid (HK.out.trans hop.keep)
      have HSP := Lib.hid hsp
      clear CP hsp hop HK
      by_cases h0 : r = 0
      · subst h0
        have CB := Lib.hid (bend_any B np (by omega) sv T 96 hz (by omega) WP HSP.out)
        clear HSP
        go_wp2_with fail
        go_at_call 95
        refine CB.out.mono ?_
        rintro e WB ⟨u, nb, rfl, hu, hnb, hsb, hkb⟩
        have HKB := Lib.hid (HKP.out.trans hkb)
        have HSB := Lib.hid hsb
        clear CB hsb hkb HKP
        go_wp2_with fail
        go_ret
        exact ⟨u, nb, rfl, by omega, by omega, HSB.out, HKB.out⟩
      · by_cases h1 : r = 1
        · subst h1
          have hm1 : ¬ 9223372036854775807 < T.size + T.size := by omega
          have hm2 : ¬ 9223372036854775807 < T.size + T.size + T.size := by omega
          have hm3 : (T ++ T).size = T.size + T.size := ByteArray.size_append
          go_wp2_with fail
          go_ret
          exact ⟨_, np, rfl, by rw [ByteArray.size_append, ByteArray.size_append]; omega, by omega, HSP.out, HKP.out⟩
        · have h2 : (r == 0) = false := beq_eq_false_iff_ne.mpr h0
          have h3 : (r == 1) = false := beq_eq_false_iff_ne.mpr h1
          go_wp2_with fail
          go_ret
          exact ⟨_, np, rfl, by omega, by omega, HSP.out, HKP.out⟩
  · have hk2 : (k == 0) = false := beq_eq_false_iff_ne.mpr hk
    have HS0 := HS2
    have HK0 := HK2
    clear HS1 HK1 HS2 HK2 hz
    go_wp2_with fail
    go_at_call 56
    refine Calls.mono (text_lit B n1 (by omega) sv 24 _ _ _ _ ?hk ?h1 ?h2 ?hok W2 HS0.out) ?_
    case hk => rfl
    case h1 => decide
    case h2 => decide
    case hok => kernel_rfl
    rintro e WL ⟨U, nl, rfl, hu, hnl, hsl, hkl⟩
    have HS := Lib.hid hsl
    have HK := Lib.hid (HK0.out.trans hkl)
    have hz : U.size ≤ 96 := by omega
    clear hsl hkl HS0 HK0
    have CP := Lib.hid (pick_any B nl (by omega) sv 8 (by omega) WL HS.out)
    clear HS
    go_wp2_with fail
    go_at_call 92
    refine CP.out.mono ?_
    rintro e WP ⟨r, np, rfl, r0, r1, hnp, hsp, hop⟩
    have HKP := Lib.hid (HK.out.trans hop.keep)
    have HSP := Lib.hid hsp
    clear CP hsp hop HK
    by_cases h0 : r = 0
    · subst h0
      have CB := Lib.hid (bend_any B np (by omega) sv U 96 hz (by omega) WP HSP.out)
      clear HSP
      go_wp2_with fail
      go_at_call 95
      refine CB.out.mono ?_
      rintro e WB ⟨u, nb, rfl, hu, hnb, hsb, hkb⟩
      have HKB := Lib.hid (HKP.out.trans hkb)
      have HSB := Lib.hid hsb
      clear CB hsb hkb HKP
      go_wp2_with fail
      go_ret
      exact ⟨u, nb, rfl, by omega, by omega, HSB.out, HKB.out⟩
    · by_cases h1 : r = 1
      · subst h1
        have hm1 : ¬ 9223372036854775807 < U.size + U.size := by omega
        have hm2 : ¬ 9223372036854775807 < U.size + U.size + U.size := by omega
        have hm3 : (U ++ U).size = U.size + U.size := ByteArray.size_append
        go_wp2_with fail
        go_ret
        exact ⟨_, np, rfl, by rw [ByteArray.size_append, ByteArray.size_append]; omega, by omega, HSP.out, HKP.out⟩
      · have h2 : (r == 0) = false := beq_eq_false_iff_ne.mpr h0
        have h3 : (r == 1) = false := beq_eq_false_iff_ne.mpr h1
        go_wp2_with fail
        go_ret
        exact ⟨_, np, rfl, by omega, by omega, HSP.out, HKP.out⟩
/-- What is drawn for a transcoding. -/
def DrawsTran (W : World) (e : Ending) (W' : World) : Prop := (∃ (p q : Int) (t : ByteArray), e = .returned (.tuple #[.int .i64 p, .int .i64 q, .string t]) ∧ t.size ≤ 1300) ∧ Below W.heap.size W W'
/-- What is drawn for an encoding. -/
def DrawsEnc (W : World) (e : Ending) (W' : World) : Prop := (∃ (p : Int) (t : ByteArray), e = .returned (.tuple #[.int .i64 p, .string t]) ∧ t.size ≤ 1300) ∧ Below W.heap.size W W'
set_option maxRecDepth 100000 in
set_option maxHeartbeats 1000000 in
theorem drawTran_any (sv : Value) (W : World) (h : CodeOk W sv) :
    Calls Tryd.prog 23 #[sv] W (DrawsTran W) := by
  have CF := Lib.hid (from_any sv W h)
  clear h
  go_enter Tryd.func23, Tryd.ntmps23
  go_wp2_with fail
  go_at_call 53
  refine CF.out.mono ?_
  rintro e W1 ⟨rfl, hs, hb⟩
  have CE := Lib.hid (l11Enc_any W.heap.size 0 (by omega) sv W1 hs)
  have HB1 := Lib.hid hb
  clear CF hs hb
  go_wp2_with fail
  go_at_call 59
  refine CE.out.mono ?_
  rintro e W2 ⟨p, n2, rfl, _, hn2, hs2, hk2⟩
  have CE2 := Lib.hid (l11Enc_any W.heap.size n2 (by omega) sv W2 hs2)
  have HK2 := Lib.hid hk2
  clear CE hs2 hk2
  go_wp2_with fail
  go_at_call 59
  refine CE2.out.mono ?_
  rintro e W3 ⟨q, n3, rfl, _, hn3, hs3, hk3⟩
  have HK3 := Lib.hid (HK2.out.trans hk3)
  have CB := Lib.hid (l11Bytes_any W.heap.size n3 (by omega) sv p W3 hs3)
  clear CE2 hs3 hk3 HK2
  go_wp2_with fail
  go_at_call 60
  refine CB.out.mono ?_
  rintro e W4 ⟨t, n4, rfl, ht, hn4, hs4, hk4⟩
  have HB4 := Lib.hid (KeepB.below0 HB1.out (HK3.out.trans hk4) (Nat.le_refl _))
  clear CB hs4 hk4 HK3
  go_wp2_with fail
  go_ret3
  exact ⟨⟨p, q, t, rfl, ht⟩, HB4.out⟩
set_option maxRecDepth 100000 in
set_option maxHeartbeats 1000000 in
theorem drawEnc_any (sv : Value) (W : World) (h : CodeOk W sv) :
    Calls Tryd.prog 26 #[sv] W (DrawsEnc W) := by
  have CF := Lib.hid (from_any sv W h)
  clear h
  go_enter Tryd.func26, Tryd.ntmps26
  go_wp2_with fail
  go_at_call 53
  refine CF.out.mono ?_
  rintro e W1 ⟨rfl, hs, hb⟩
  have CE := Lib.hid (l11Enc_any W.heap.size 0 (by omega) sv W1 hs)
  have HB1 := Lib.hid hb
  clear CF hs hb
  go_wp2_with fail
  go_at_call 59
  refine CE.out.mono ?_
  rintro e W2 ⟨p, n2, rfl, _, hn2, hs2, hk2⟩
  have CO := Lib.hid (one_any W.heap.size n2 (by omega) sv 5 (by omega) W2 hs2)
  have HK2 := Lib.hid hk2
  clear CE hs2 hk2
  go_wp2_with fail
  go_at_call 63
  refine CO.out.mono ?_
  rintro e W3 ⟨r, n3, rfl, hn3, hs3, ho3⟩
  have HK3 := Lib.hid (HK2.out.trans ho3.keep)
  have HS3 := Lib.hid hs3
  clear CO hs3 ho3 HK2
  cases r with
  | true =>
    have CB := Lib.hid (l11Bytes_any W.heap.size n3 (by omega) sv 1 W3 HS3.out)
    go_wp2_with fail
    go_at_call 60
    refine CB.out.mono ?_
    rintro e W4 ⟨t, n4, rfl, ht, hn4, hs4, hk4⟩
    have HB4 := Lib.hid (KeepB.below0 HB1.out (HK3.out.trans hk4) (Nat.le_refl _))
    clear CB hs4 hk4 HK3 HS3
    go_wp2_with fail
    go_ret2
    exact ⟨⟨p, t, rfl, ht⟩, HB4.out⟩
  | false =>
    have CB := Lib.hid (l04Word_any W.heap.size n3 (by omega) sv W3 HS3.out)
    go_wp2_with fail
    go_at_call 64
    refine CB.out.mono ?_
    rintro e W4 ⟨t, n4, rfl, ht, hn4, hs4, hk4⟩
    have HB4 := Lib.hid (KeepB.below0 HB1.out (HK3.out.trans hk4) (Nat.le_refl _))
    clear CB hs4 hk4 HK3 HS3
    go_wp2_with fail
    go_ret2
    exact ⟨⟨p, t, rfl, by omega⟩, HB4.out⟩
end Go.Proofs.YthdnklhaagofhaaDoor
