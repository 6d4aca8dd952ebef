/-
  Walks of both SameTokens, and the law FnExactSameTokens.
-/
import Derived.Test.YtahjhikjhklgiaaTokW
namespace Go.Proofs.Ytahjhikjhklgiaa
open Go.ChangeShapes Go.WideShapes Go.ChangeAt Go.RowKit Go.Deep

/-- Two tokens' kinds and texts are the same. -/
def sameT (t u : Tok) : Prop := t.kind = u.kind ∧ t.text = u.text
/-- What both SameTokens say. -/
def SameR (xs ys : List Tok) : Prop := xs.length = ys.length ∧ ∀ (i : Nat) (t u : Tok), xs[i]? = some t → ys[i]? = some u → sameT t u
/-- So far they are the same. -/
def SameTo (xs ys : List Tok) (k : Nat) : Prop := ∀ (i : Nat) (t u : Tok), i < k → xs[i]? = some t → ys[i]? = some u → sameT t u
theorem SameTo.step {xs ys : List Tok} {k : Nat} (h : SameTo xs ys k) {t u : Tok} (ht : xs[k]? = some t) (hu : ys[k]? = some u) (hs : sameT t u) : SameTo xs ys (k + 1) := fun i t' u' hi ht' hu' => by
  by_cases e : i = k
  · subst e
    rw [ht] at ht'
    rw [hu] at hu'
    cases ht'
    cases hu'
    exact hs
  · exact h i t' u' (by omega) ht' hu'

def SpecPost (xs ys : List Tok) (w : World) (e : Ending) (w' : World) : Prop := ∃ v : Bool, e = .returned (.bool v) ∧ (v = true ↔ SameR xs ys) ∧ ∃ n, w' = w.drewN n
def ImplPost (xs ys : List Tok) (w : World) (e : Ending) (w' : World) : Prop := ∃ v : Bool, e = .returned (.bool v) ∧ (v = true ↔ SameR xs ys) ∧ Below w.heap.size w w'

theorem iffF {p : Prop} (h : ¬ p) : (false = true ↔ p) := ⟨(fun e => by cases e), fun e => absurd e h⟩
theorem text_ne {a b : ByteArray} (h : a ≠ b) : (a.toList == b.toList) = false := by
  rw [beq_eq_false_iff_ne]
  intro e
  apply h
  apply ByteArray.ext
  apply Array.toList_inj.mp
  rw [← ByteArray.toList_eq, ← ByteArray.toList_eq]
  exact e

theorem specSame_len (xs ys : List Tok) (hne : xs.length ≠ ys.length) (A B : Option Addr) (ca cb : Nat) (w : World) :
    Calls Try.prog 26 #[.slice A xs.length ca, .slice B ys.length cb] w (SpecPost xs ys w) := by
  have h1 : ((xs.length : Int) != (ys.length : Int)) = true := by rw [bne_iff_ne]; omega
  have H := Lib.hid hne
  clear hne
  go_enter Try.func26, Try.ntmps26
  go_wp2
  go_ret
  exact ⟨false, rfl, iffF (fun h => H.out h.1), 0, rfl⟩

theorem specSame_eq (xs ys : List Tok) (heq : xs.length = ys.length) (A B : Option Addr) (ca cb lo lo' : Nat) (hx : xs.length ≤ 1048576) (w : World) (h : Toks w lo xs A) (h' : Toks w lo' ys B) :
    Calls Try.prog 26 #[.slice A xs.length ca, .slice B xs.length cb] w (SpecPost xs ys w) := by
  have H := Lib.hid h
  have H' := Lib.hid h'
  have HE := Lib.hid heq
  clear h h' heq
  go_enter Try.func26, Try.ntmps26
  go_wp2
  go_loopw [5] (fun i wr => ∃ k : Nat, k ≤ xs.length ∧ i = .int .i64 k ∧ Hid (SameTo xs ys k) ∧ ∃ n, wr = w.drewN n) (fun i _ => xs.length - (intOf i).toNat)
  case atStart => exact ⟨0, Nat.zero_le _, rfl, fun i t u hi => by omega, 0, rfl⟩
  case round =>
    obtain ⟨k, hk, rfl, hsame, n, rfl⟩ := hrel
    by_cases hlt : k < xs.length
    · obtain ⟨b, o, t, rfl, _, htk, c0, c1, _⟩ := H.out.at_ hlt
      obtain ⟨b', o', u, rfl, _, huk, d0, d1, _⟩ := H'.out.at_ (k := k) (by have := HE.out; omega)
      have HT := Lib.hid htk
      have HU := Lib.hid huk
      have hli : (k : Int) < (xs.length : Int) := by omega
      clear htk huk
      by_cases hk1 : t.kind = u.kind
      · have e1 : (t.kind != u.kind) = false := by rw [bne_eq_false_iff_eq]; exact hk1
        have HK := Lib.hid hk1
        clear hk1
        by_cases ht1 : t.text = u.text
        · have HX := Lib.hid ht1
          have e2 : (t.text.toList == u.text.toList) = true := by rw [ht1, beq_iff_eq]
          clear ht1
          go_wp2_with fail
          go_quiet (fail)
          go_wp2_with fail
          go_roundw
          case rel => exact ⟨k + 1, by omega, by go_num, SameTo.step hsame.out HT.out HU.out ⟨HK.out, HX.out⟩, _, rfl⟩
          case measure => simp [intOf]; omega
        · have HX := Lib.hid ht1
          have e2 := text_ne ht1
          clear ht1
          go_wp2_with fail
          go_quiet (fail)
          go_wp2_with fail
          go_ret
          exact ⟨false, rfl, iffF (fun h => HX.out (h.2 k t u HT.out HU.out).2), _, World.drewN_drewN _ _ _⟩
      · have e1 : (t.kind != u.kind) = true := by rw [bne_iff_ne]; exact hk1
        have HK := Lib.hid hk1
        clear hk1
        go_wp2_with fail
        go_quiet (fail)
        go_wp2_with fail
        go_ret
        exact ⟨false, rfl, iffF (fun h => HK.out (h.2 k t u HT.out HU.out).1), _, World.drewN_drewN _ _ _⟩
    · have hk' : k = xs.length := by omega
      go_wp2
      go_ret
      exact ⟨true, rfl, ⟨fun _ => ⟨HE.out, fun i t u ht hu => hsame.out i t u (by rw [hk']; exact (List.getElem?_eq_some_iff.1 ht).1) ht hu⟩, fun _ => rfl⟩, _, rfl⟩

/-- What the closure says of two tokens. -/
def ClosPost (t u : Tok) (w : World) (e : Ending) (w' : World) : Prop := ∃ v : Bool, e = .returned (.bool v) ∧ (v = true ↔ sameT t u) ∧ Below w.heap.size w w'
theorem clos_any (t u : Tok) (w : World) :
    Calls Try.prog 54 #[.agg #[.int .i64 t.kind, .string t.text, .int .i64 t.line], .agg #[.int .i64 u.kind, .string u.text, .int .i64 u.line]] w (ClosPost t u w) := by
  by_cases hk1 : t.kind = u.kind
  · have e1 : (t.kind == u.kind) = true := by rw [beq_iff_eq]; exact hk1
    have HK := Lib.hid hk1
    clear hk1
    by_cases ht1 : t.text = u.text
    · have HX := Lib.hid ht1
      have e2 : (t.text.toList == u.text.toList) = true := by rw [ht1, beq_iff_eq]
      clear ht1
      go_enter Try.func54, Try.ntmps54
      go_wp2
      go_ret
      exact ⟨true, rfl, ⟨fun _ => ⟨HK.out, HX.out⟩, fun _ => rfl⟩, below2 _ _ _⟩
    · have HX := Lib.hid ht1
      have e2 := text_ne ht1
      clear ht1
      go_enter Try.func54, Try.ntmps54
      go_wp2
      go_ret
      exact ⟨false, rfl, iffF (fun h => HX.out h.2), below2 _ _ _⟩
  · have e1 : (t.kind == u.kind) = false := by rw [beq_eq_false_iff_ne]; exact hk1
    have HK := Lib.hid hk1
    clear hk1
    go_enter Try.func54, Try.ntmps54
    go_wp2
    go_ret
    exact ⟨false, rfl, iffF (fun h => HK.out h.1), below2 _ _ _⟩

def EqFn : Value := .func (.func 54) #[] #[]

theorem implEq_len (xs ys : List Tok) (hne : xs.length ≠ ys.length) (A B : Option Addr) (ca cb : Nat) (w : World) :
    Calls Try.prog 53 #[.slice A xs.length ca, .slice B ys.length cb, .func (.func 54) #[] #[]] w (ImplPost xs ys w) := by
  have h1 : ((xs.length : Int) != (ys.length : Int)) = true := by rw [bne_iff_ne]; omega
  have H := Lib.hid hne
  clear hne
  go_enter Try.func53, Try.ntmps53
  go_wp2
  go_ret
  exact ⟨false, rfl, iffF (fun h => H.out h.1), Below.refl _ _⟩

theorem implEq_eq (xs ys : List Tok) (heq : xs.length = ys.length) (A B : Option Addr) (ca cb lo lo' : Nat) (hx : xs.length ≤ 1048576) (w : World) (h : Toks w lo xs A) (h' : Toks w lo' ys B) :
    Calls Try.prog 53 #[.slice A xs.length ca, .slice B xs.length cb, .func (.func 54) #[] #[]] w (ImplPost xs ys w) := by
  have H := Lib.hid h
  have H' := Lib.hid h'
  have HE := Lib.hid heq
  clear h h' heq
  go_enter Try.func53, Try.ntmps53
  go_wp2
  go_loopw [17] (fun i wr => ∃ k : Nat, k ≤ xs.length ∧ i = .int .i64 k ∧ Hid (SameTo xs ys k) ∧ Below w.heap.size w wr) (fun i _ => xs.length - (intOf i).toNat)
  case atStart => exact ⟨0, Nat.zero_le _, rfl, fun i t u hi => by omega, Below.refl _ _⟩
  case round =>
    obtain ⟨k, hk, rfl, hsame, hbel⟩ := hrel
    by_cases hlt : k < xs.length
    · obtain ⟨b, o, t, rfl, _, htk, c0, c1, c2⟩ := (H.out.below hbel).at_ hlt
      obtain ⟨b', o', u, rfl, _, huk, d0, d1, d2⟩ := (H'.out.below hbel).at_ (k := k) (by have := HE.out; omega)
      have HT := Lib.hid htk
      have HU := Lib.hid huk
      have HB := Lib.hid hbel
      have hlc := hbel.size
      have C := Lib.hid (fun W => clos_any t u W)
      have lb : b < wr.heap.size := World.block_lt_of_cell? wr _ c0
      have lb' : b' < wr.heap.size := World.block_lt_of_cell? wr _ d0
      clear htk huk hbel
      go_wp2_with fail
      go_at_call 54
      refine (C.out _).mono ?_
      rintro e w2 ⟨v, rfl, hv, hb2⟩
      have HV := Lib.hid hv
      have HB2 := Lib.hid (bnext (below2 wr _ _) hb2)
      clear hv hb2
      cases v with
      | false =>
        go_wp2_with fail
        go_ret
        exact ⟨false, rfl, iffF (fun h => by have := HV.out.mpr (h.2 k t u HT.out HU.out); cases this), bnext HB.out HB2.out⟩
      | true =>
        go_wp2_with fail
        go_roundw
        case rel => exact ⟨k + 1, by omega, by go_num, SameTo.step hsame.out HT.out HU.out (HV.out.mp trivial), bnext HB.out HB2.out⟩
        case measure => simp [intOf]; omega
    · have hk' : k = xs.length := by omega
      go_wp2
      go_ret
      exact ⟨true, rfl, ⟨fun _ => ⟨HE.out, fun i t u ht hu => hsame.out i t u (by rw [hk']; exact (List.getElem?_eq_some_iff.1 ht).1) ht hu⟩, fun _ => rfl⟩, hbel⟩

theorem specSame_any (xs ys : List Tok) (A B : Option Addr) (ca cb lo lo' : Nat) (hx : xs.length ≤ 1048576) (w : World) (h : Toks w lo xs A) (h' : Toks w lo' ys B) :
    Calls Try.prog 26 #[.slice A xs.length ca, .slice B ys.length cb] w (SpecPost xs ys w) := by
  by_cases heq : xs.length = ys.length
  · rw [← heq]
    exact specSame_eq xs ys heq A B ca cb lo lo' hx w h h'
  · exact specSame_len xs ys heq A B ca cb w
theorem implEq_any (xs ys : List Tok) (A B : Option Addr) (ca cb lo lo' : Nat) (hx : xs.length ≤ 1048576) (w : World) (h : Toks w lo xs A) (h' : Toks w lo' ys B) :
    Calls Try.prog 53 #[.slice A xs.length ca, .slice B ys.length cb, .func (.func 54) #[] #[]] w (ImplPost xs ys w) := by
  by_cases heq : xs.length = ys.length
  · rw [← heq]
    exact implEq_eq xs ys heq A B ca cb lo lo' hx w h h'
  · exact implEq_len xs ys heq A B ca cb w
theorem implSame_any (xs ys : List Tok) (A B : Option Addr) (ca cb lo lo' : Nat) (hx : xs.length ≤ 1048576) (w : World) (h : Toks w lo xs A) (h' : Toks w lo' ys B) :
    Calls Try.prog 27 #[.slice A xs.length ca, .slice B ys.length cb] w (ImplPost xs ys w) := by
  have C := Lib.hid (implEq_any xs ys A B ca cb lo lo' hx w h h')
  clear h h'
  go_enter Try.func27, Try.ntmps27
  go_wp2_with (go_at_call 53; (with_reducible refine C.out.mono ?_); rintro e w2 ⟨v, rfl, hv, hb2⟩)
  go_ret
  exact ⟨v, rfl, hv, hb2⟩

theorem sameTokensLaw (xs ys : List Tok) (A B : Option Addr) (ca cb : Nat) (w : World) (h : Toks w 0 xs A) (h' : Toks w 0 ys B) (hx : xs.length ≤ maxLen) (hy : ys.length ≤ maxLen) (fx : ∀ t ∈ xs, TokFin t) (fy : ∀ t ∈ ys, TokFin t) :
    Calls Try.prog 5 #[.slice A xs.length ca, .slice B ys.length cb] w fun e w' => e = .returned (.bool true) ∧ Below w.heap.size w w' := by
  have S1 : Hid (∀ W : World, Toks W 0 xs A → Calls Try.prog 21 #[.slice A xs.length ca, .int .i64 1048576] W fun e w' => e = .returned (.int .i64 (leftOr (1048576 - xs.length - sumSz (txs xs)))) ∧ Below W.heap.size W w') := Lib.hid (fun W hW => szTokenS_any xs A ca 1048576 (by omega) (by omega) hx fx 0 W hW)
  have H := Lib.hid h
  have H' := Lib.hid h'
  have n1 := sumSz_nonneg (txs xs)
  have n2 := sumSz_nonneg (txs ys)
  obtain ⟨L, hL⟩ : ∃ L, 1048576 - (xs.length : Int) - sumSz (txs xs) = L := ⟨_, rfl⟩
  rw [hL] at S1
  by_cases hn : L < 0
  · rw [leftOr_neg hn] at S1
    clear h h' fx fy hx hy hL n1 n2 hn
    go_enter Try.func5, Try.ntmps5
    go_wp2_with (go_at_call 21; (with_reducible refine (S1.out _ H.out).mono ?_); rintro e w2 ⟨rfl, hb2⟩)
    go_ret
    exact ⟨rfl, hb2⟩
  · rw [leftOr_pos (by omega)] at S1
    have hx1 : xs.length ≤ 1048576 := by omega
    have S2 : Hid (∀ W : World, Toks W 0 ys B → Calls Try.prog 21 #[.slice B ys.length cb, .int .i64 L] W fun e w' => e = .returned (.int .i64 (leftOr (L - ys.length - sumSz (txs ys)))) ∧ Below W.heap.size W w') := Lib.hid (fun W hW => szTokenS_any ys B cb L (by omega) (by omega) hy fy 0 W hW)
    obtain ⟨M, hM⟩ : ∃ M, L - (ys.length : Int) - sumSz (txs ys) = M := ⟨_, rfl⟩
    rw [hM] at S2
    have hL0 : 0 ≤ L := by omega
    by_cases hm : M < 0
    · rw [leftOr_neg hm] at S2
      clear h h' fx fy hx hy hL n1 n2 hn hm hM
      go_enter Try.func5, Try.ntmps5
      go_wp2_with fail
      go_at_call 21
      refine (S1.out _ H.out).mono ?_
      rintro e w2 ⟨rfl, hb2⟩
      have HB2 := Lib.hid hb2
      clear hb2
      go_wp2_with fail
      go_at_call 21
      refine (S2.out _ (H'.out.below HB2.out)).mono ?_
      rintro e w3 ⟨rfl, hb3⟩
      have HB3 := Lib.hid (bnext HB2.out hb3)
      clear hb3
      go_wp2_with fail
      go_ret
      exact ⟨rfl, HB3.out⟩
    · rw [leftOr_pos (by omega)] at S2
      have hy1 : ys.length ≤ 1048576 := by omega
      have hM0 : 0 ≤ M := by omega
      have TX : Hid (∀ W : World, Toks W 0 xs A → Calls Try.prog 23 #[.slice A xs.length ca] W fun e w' => e = .returned (.slice (some ⟨W.heap.size, 0, none⟩) xs.length xs.length) ∧ Toks w' W.heap.size xs (some ⟨W.heap.size, 0, none⟩) ∧ Below W.heap.size W w') := Lib.hid (fun W hW => toTokenS_any xs hx1 A ca 0 W hW)
      have TY : Hid (∀ W : World, Toks W 0 ys B → Calls Try.prog 23 #[.slice B ys.length cb] W fun e w' => e = .returned (.slice (some ⟨W.heap.size, 0, none⟩) ys.length ys.length) ∧ Toks w' W.heap.size ys (some ⟨W.heap.size, 0, none⟩) ∧ Below W.heap.size W w') := Lib.hid (fun W hW => toTokenS_any ys hy1 B cb 0 W hW)
      clear h h' fx fy hx hy hL n1 n2 hn hm hM
      go_enter Try.func5, Try.ntmps5
      go_wp2_with fail
      go_at_call 21
      refine (S1.out _ H.out).mono ?_
      rintro e w2 ⟨rfl, hb2⟩
      have HB2 := Lib.hid hb2
      clear hb2
      go_wp2_with fail
      go_at_call 21
      refine (S2.out _ (H'.out.below HB2.out)).mono ?_
      rintro e w3 ⟨rfl, hb3⟩
      have HB3 := Lib.hid (bnext HB2.out hb3)
      clear hb3
      go_wp2_with fail
      go_at_call 23
      refine (TX.out _ (H.out.below HB3.out)).mono ?_
      rintro e w4 ⟨rfl, ht4, hb4⟩
      have HT4 := Lib.hid ht4
      have HB4 := Lib.hid (bnext HB3.out hb4)
      have HN4 := Lib.hid hb4
      clear ht4 hb4
      go_wp2_with fail
      go_at_call 23
      refine (TY.out _ (H'.out.below HB4.out)).mono ?_
      rintro e w5 ⟨rfl, ht5, hb5⟩
      have HT5 := Lib.hid ht5
      have HB5 := Lib.hid (bnext HB4.out hb5)
      have HN5 := Lib.hid hb5
      clear ht5 hb5
      go_wp2_with fail
      go_at_call 26
      refine (specSame_any xs ys _ _ _ _ _ _ hx1 _ (HT4.out.below HN5.out) HT5.out).mono ?_
      rintro e w6 ⟨v, rfl, hv, n6, rfl⟩
      have HV := Lib.hid hv
      have HB6 := Lib.hid (belowN HB5.out n6)
      clear hv
      go_wp2_with fail
      go_at_call 23
      refine (TX.out _ (H.out.below HB6.out)).mono ?_
      rintro e w7 ⟨rfl, ht7, hb7⟩
      have HT7 := Lib.hid ht7
      have HB7 := Lib.hid (bnext HB6.out hb7)
      have HN7 := Lib.hid hb7
      clear ht7 hb7
      go_wp2_with fail
      go_at_call 23
      refine (TY.out _ (H'.out.below HB7.out)).mono ?_
      rintro e w8 ⟨rfl, ht8, hb8⟩
      have HT8 := Lib.hid ht8
      have HB8 := Lib.hid (bnext HB7.out hb8)
      have HN8 := Lib.hid hb8
      clear ht8 hb8
      go_wp2_with fail
      go_at_call 27
      refine (implSame_any xs ys _ _ _ _ _ _ hx1 _ (HT7.out.below HN8.out) HT8.out).mono ?_
      rintro e w9 ⟨u, rfl, hu, hb9⟩
      obtain rfl : v = u := Bool.eq_iff_iff.mpr (HV.out.trans hu.symm)
      have HB9 := Lib.hid (bnext HB8.out hb9)
      have HN9 := Lib.hid hb9
      clear hu hb9
      go_wp2_with fail
      go_at_call 23
      refine (TX.out _ (H.out.below HB9.out)).mono ?_
      rintro e w10 ⟨rfl, ht10, hb10⟩
      have HT10 := Lib.hid ht10
      have HB10 := Lib.hid (bnext HB9.out hb10)
      have HN10 := Lib.hid hb10
      clear ht10 hb10
      go_wp2_with fail
      go_at_call 25
      refine (eqTokenS_same xs hx1 _ _ _ _ _ _ _ (((HT7.out.below HN8.out).below HN9.out).below HN10.out) HT10.out).mono ?_
      rintro e w11 ⟨rfl, hb11⟩
      have HB11 := Lib.hid (bnext HB10.out hb11)
      have HN11 := Lib.hid hb11
      clear hb11
      go_wp2_with fail
      go_at_call 23
      refine (TY.out _ (H'.out.below HB11.out)).mono ?_
      rintro e w12 ⟨rfl, ht12, hb12⟩
      have HT12 := Lib.hid ht12
      have HB12 := Lib.hid (bnext HB11.out hb12)
      have HN12 := Lib.hid hb12
      clear ht12 hb12
      go_wp2_with fail
      go_at_call 25
      refine (eqTokenS_same ys hy1 _ _ _ _ _ _ _ ((((HT8.out.below HN9.out).below HN10.out).below HN11.out).below HN12.out) HT12.out).mono ?_
      rintro e w13 ⟨rfl, hb13⟩
      have HB13 := Lib.hid (bnext HB12.out hb13)
      clear hb13
      go_wp2_with fail
      go_ret
      exact ⟨rfl, HB13.out⟩

theorem sameTokensRow (xs : List Tok) (A : Option Addr) (ca : Nat) (ys : List Tok) (B : Option Addr) (cb : Nat) (w : World) (h : Toks w 0 xs A) (hx : xs.length ≤ maxLen) (fx : ∀ t ∈ xs, TokFin t) (h' : Toks w 0 ys B) (hy : ys.length ≤ maxLen) (fy : ∀ t ∈ ys, TokFin t) :
    Calls Try.prog 5 #[.slice A xs.length ca, .slice B ys.length cb] w fun e w' => e = .returned (.bool true) ∧ Below w.heap.size w w' := sameTokensLaw xs ys A B ca cb w h h' hx hy fx fy
end Go.Proofs.Ytahjhikjhklgiaa
