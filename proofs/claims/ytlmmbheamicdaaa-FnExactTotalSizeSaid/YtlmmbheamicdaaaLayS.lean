/-
  The model's l09Shape, l09Parts and l09Most walk as lay says.
-/
import Derived.Test.YtlmmbheamicdaaaLayP
import Derived.Test.YtlmmbheamicdaaaTyIn
namespace Go.Proofs.Ytlmmbheamicdaaa
open Go.ChangeShapes Go.WideShapes Go.ChangeAt Go.RowKit Go.Deep

theorem infoI64 : (Try.prog.info? 2).map (fun i => (i.zero, i.size, i.bytes)) = some (some (.int .i64 0), 1, 8) := by kernel_rfl
def numV (n : Int) : Value := .int .i64 n
theorem ownKeep {w w' : World} {base : Nat} {e : TypeId} {size n : Nat} {v : Value} {xs : List Value} (h : w.ownsRow base e size v n xs) (hb : Below w.heap.size w w') : w'.ownsRow base e size v n xs :=
  h.kept (grown_of_below hb) (by cases v.ownBlock <;> simp)
theorem l10Up_any (x a : Int) (hx : 0 ≤ x) (hx' : x ≤ 1000000000) (ha : 1 ≤ a) (ha' : a ≤ 1000) (w : World) :
    Calls Try.prog 86 #[.int .i64 x, .int .i64 a] w fun e w' => e = .returned (.int .i64 (up x a)) ∧ Below w.heap.size w w' := by
  have hu := up_le hx ha
  have HU : Hid (up x a = Int.tdiv (x + a - 1) a * a) := Lib.hid rfl
  obtain ⟨U, hU⟩ : ∃ U, up x a = U := ⟨_, rfl⟩
  rw [hU] at hu HU
  rw [hU]
  have hd := Int.tdiv_le_self a (show 0 ≤ x + a - 1 by omega)
  have hd0 := Int.tdiv_nonneg (show 0 ≤ x + a - 1 by omega) (show 0 ≤ a by omega)
  obtain ⟨D, hD⟩ : ∃ D, Int.tdiv (x + a - 1) a = D := ⟨_, rfl⟩
  have ha0 : ¬ a = 0 := by omega
  have hm : D * a = U := by rw [← hD]; exact HU.out.symm
  rw [hD] at hd hd0
  have h0 : 0 ≤ U := by omega
  have h1 : U ≤ 1000002000 := by omega
  go_enter Try.func86, Try.ntmps86
  go_wp2_with fail
  go_ret
  exact ⟨rfl, Below.refl _ _⟩
theorem l00Max_any (x a : Int) (w : World) :
    Calls Try.prog 76 #[.int .i64 x, .int .i64 a] w fun e w' => e = .returned (.int .i64 (max x a)) ∧ Below w.heap.size w w' := by
  by_cases h : a < x
  · have e : max x a = x := by omega
    rw [e]
    go_enter Try.func76, Try.ntmps76
    go_wp2_with fail
    go_ret
    exact ⟨rfl, Below.refl _ _⟩
  · have e : max x a = a := by omega
    rw [e]
    go_enter Try.func76, Try.ntmps76
    go_wp2_with fail
    go_ret
    exact ⟨rfl, Below.refl _ _⟩

/-- The model's contract of one type. -/
def LayS (lo : Nat) (T : Ty) : Prop := ∀ (A B : Option Addr) (ca cb : Nat) (w : World), Ty.At w lo T A B →
  Calls Try.prog 65 #[.agg #[.int .i64 T.kind, .string T.name, .slice A T.labels.length ca, .slice B T.kids.length cb]] w fun e w' => e = .returned (.tuple #[.int .i64 T.lay.1, .int .i64 T.lay.2]) ∧ Below w.heap.size w w'
/-- Sizes and alignments that are no greater than asked. -/
def LayOk (T : Ty) : Prop := 0 ≤ T.lay.1 ∧ T.lay.1 ≤ 600 ∧ 1 ≤ T.lay.2 ∧ T.lay.2 ≤ 8
/-- What a row of them gives. -/
def PartsPost (ks : List Ty) (w : World) (e : Ending) (w' : World) : Prop := ∃ (R : Option Addr) (c : Nat), e = .returned (.tuple #[.slice R ks.length c, .int .i64 (up (Ty.layRow 0 1 ks).1 (Ty.layRow 0 1 ks).2), .int .i64 (Ty.layRow 0 1 ks).2]) ∧
  w'.ownsRow w.heap.size 2 1 (.slice R ks.length c) ks.length ((Ty.offs 0 ks).map numV) ∧ Below w.heap.size w w'
set_option maxHeartbeats 2000000 in
set_option maxRecDepth 100000 in
theorem partsS_any (ks : List Ty) (lo : Nat) (IH : ∀ (i : Nat) (t : Ty), ks[i]? = some t → LayS lo t) (hok : ∀ (i : Nat) (t : Ty), ks[i]? = some t → LayOk t) (hl : ks.length ≤ 1048576) (B : Option Addr) (cb : Nat) (w : World) (h : Ty.RowAt w lo ks B) :
    Calls Try.prog 68 #[.slice B ks.length cb] w (PartsPost ks w) := by
  have H := Lib.hid h
  have HI := Lib.hid IH
  have HK := Lib.hid hok
  obtain ⟨i0, hi, hz0, hz1, hz2⟩ := info_parts infoI64
  clear h IH hok
  go_enter Try.func68, Try.ntmps68
  go_wp2_with fail
  go_loopw [5, 6, 7, 8] (fun e al out i wr => ∃ k : Nat, k ≤ ks.length ∧ i = .int .i64 k ∧ ∃ E L : Int, e = .int .i64 E ∧ al = .int .i64 L ∧ 0 ≤ E ∧ E ≤ 700 * (k : Int) ∧ 1 ≤ L ∧ L ≤ 8 ∧ (∃ (R : Option Addr) (c : Nat), out = .slice R k c ∧ Hid (∃ O : List Int, Ty.offs 0 ks = O ++ Ty.offs E (ks.drop k) ∧ wr.ownsRow w.heap.size 2 1 (.slice R k c) k (O.map numV))) ∧ Hid (Ty.layRow 0 1 ks = Ty.layRow E L (ks.drop k)) ∧ Hid (Below w.heap.size w wr)) (fun _ _ _ i _ => ks.length - (intOf i).toNat)
  case atStart => exact ⟨0, Nat.zero_le _, rfl, 0, 1, rfl, rfl, by omega, by omega, by omega, by omega, ⟨some ⟨w.heap.size, 0, none⟩, 0, rfl, [], rfl, rfl, Or.inr ⟨w.heap.size, 0, #[], rfl, Nat.le_refl _, by show (w.heap.push _)[w.heap.size]? = _; simp, Nat.le_refl _, by unfold maxLen; omega, rfl, rfl⟩⟩, rfl, below1 _ _⟩
  case round =>
    obtain ⟨k, hk, rfl, E, L, rfl, rfl, E0, E1, L0, L1, ⟨R, c, rfl, hinv⟩, hrow, HB⟩ := hrel
    obtain ⟨O, hoffs, hown⟩ := hinv.out
    have HO := Lib.hid hown
    have HF := Lib.hid hoffs
    clear hown hoffs hinv
    by_cases hlt : k < ks.length
    · obtain ⟨b, o, t, A', B', ca', cb', rfl, _, htk, hc⟩ := (H.out.below HB.out).at_ hlt
      have C := Lib.hid (HI.out k t htk A' B' ca' cb')
      obtain ⟨s0, s1, a0, a1⟩ := HK.out k t htk
      have hlti : (k : Int) < (ks.length : Int) := by omega
      have HD : Hid (ks.drop k = t :: ks.drop (k + 1)) := Lib.hid (by rw [List.drop_eq_getElem_cons hlt]; congr 1; rw [List.getElem?_eq_getElem hlt] at htk; exact Option.some.inj htk)
      have HTR := Lib.hid hc.tree
      obtain ⟨c0, c1, c2, c3, _⟩ := hc
      clear htk
      have hu := up_le E0 a0
      have hm1 : 1 ≤ max L t.lay.2 := by omega
      have hm2 : max L t.lay.2 ≤ 8 := by omega
      have hrow' : Hid (Ty.layRow 0 1 ks = Ty.layRow (up E t.lay.2 + t.lay.1) (max L t.lay.2) (ks.drop (k + 1))) := Lib.hid (by rw [hrow.out, HD.out, Ty.layRow_cons])
      have hoff' : Hid (Ty.offs 0 ks = (O ++ [up E t.lay.2]) ++ Ty.offs (up E t.lay.2 + t.lay.1) (ks.drop (k + 1))) := Lib.hid (by rw [HF.out, HD.out, Ty.offs, List.append_assoc]; rfl)
      have CU := Lib.hid (fun W => l10Up_any E t.lay.2 E0 (by omega) a0 (by omega) W)
      clear hrow HF HD
      generalize t.lay.1 = s at *
      generalize t.lay.2 = a at *
      generalize up E a = u at *
      have CM := Lib.hid (fun W => l00Max_any L a W)
      generalize max L a = m at *
      go_wp2_with fail
      go_at_call 65
      refine (C.out _ HTR.out).mono ?_
      rintro e w2 ⟨rfl, hb2⟩
      have HB2 := Lib.hid (bnext HB.out hb2)
      have HO2 := Lib.hid (ownKeep HO.out hb2)
      clear hb2 C HO HB c0 c1 c2 c3
      go_wp2_with fail
      go_at_call 86
      refine (CU.out _).mono ?_
      rintro e w3 ⟨rfl, hb3⟩
      have HB3 := Lib.hid (bnext HB2.out hb3)
      have HO3 := Lib.hid (ownKeep HO2.out hb3)
      clear hb3 HO2 HB2
      go_wp2_with (at_builtin; refine wpList_append_own _ rfl _ _ 44 rfl w.heap.size 2 i0 _ 1 8 Try.underlying44 hi hz0 hz1 hz2 rfl (by decide) (.slice R k c) k (O.map numV) rfl (HO3.out.alloc _) ⟨w3.heap.size, 0, none⟩ 1 1 [.int .i64 u] rfl rfl ?c31 ?c32 ?c33 ?c34 ?c35 ?_)
      case c31 =>
        intro j x hx
        cases j with
        | zero =>
          simp at hx
          subst hx
          simp [Addr.add]
        | succ n => simp at hx
      case c32 => simp [Value.oneCell']
      case c33 => unfold maxLen; omega
      case c34 => omega
      case c35 => have := HB3.out.size; simp; omega
      intro v4 w4 hown4 hgrow4 _
      obtain ⟨R4, cap4, rfl⟩ := own_form hown4
      have HB4 := Lib.hid ((bnext HB3.out (below1 _ _)).grown hgrow4 (by have := HB3.out.size; simp; omega) (own_block_ge HO3.out))
      have HO4 := Lib.hid hown4
      clear hown4 hgrow4
      go_wp2_with fail
      go_at_call 76
      refine (CM.out _).mono ?_
      rintro e w5 ⟨rfl, hb5⟩
      have HB5 := Lib.hid (bnext HB4.out hb5)
      have HO5 := Lib.hid (ownKeep HO4.out hb5)
      clear hb5
      go_wp2_with fail
      go_roundw
      case rel => exact ⟨k + 1, by omega, by go_num, u + s, m, rfl, rfl, by omega, by omega, hm1, hm2, ⟨R4, cap4, rfl, O ++ [u], hoff'.out, by have h9 := HO5.out; simpa [numV] using h9⟩, hrow'.out, HB5.out⟩
      case measure => simp [intOf]; omega
    · have hk' : k = ks.length := by omega
      have hd : ks.drop k = [] := by rw [hk', List.drop_length]
      have hr := hrow.out
      rw [hd, Ty.layRow_nil] at hr
      have ho := HF.out
      rw [hd, Ty.offs, List.append_nil] at ho
      have CU := Lib.hid (fun W => l10Up_any E L E0 (by omega) L0 (by omega) W)
      subst hk'
      have HR := Lib.hid hr
      have HOF := Lib.hid ho
      clear hr ho hd hrow HF
      have hli : ¬ (ks.length : Int) < (ks.length : Int) := by omega
      go_wp2_with fail
      go_at_call 86
      refine (CU.out _).mono ?_
      rintro e w3 ⟨rfl, hb3⟩
      have HB3 := Lib.hid (bnext HB.out hb3)
      have HO3 := Lib.hid (ownKeep HO.out hb3)
      clear hb3
      go_wp2_with fail
      go_ret3
      exact ⟨R, c, by first | (rw [HR.out]; done) | (rw [HR.out]; rfl), by rw [HOF.out]; exact HO3.out, HB3.out⟩
/-- What the cases give. -/
def MostPost (ks : List Ty) (w : World) (e : Ending) (w' : World) : Prop := e = .returned (.tuple #[.int .i64 (Ty.layMost 0 1 ks).1, .int .i64 (Ty.layMost 0 1 ks).2]) ∧ Below w.heap.size w w'
set_option maxHeartbeats 2000000 in
set_option maxRecDepth 100000 in
theorem mostS_any (ks : List Ty) (lo : Nat) (IH : ∀ (i : Nat) (t : Ty), ks[i]? = some t → LayS lo t) (hok : ∀ (i : Nat) (t : Ty), ks[i]? = some t → LayOk t) (hl : ks.length ≤ 1048576) (B : Option Addr) (cb : Nat) (w : World) (h : Ty.RowAt w lo ks B) :
    Calls Try.prog 85 #[.slice B ks.length cb] w (MostPost ks w) := by
  have H := Lib.hid h
  have HI := Lib.hid IH
  have HK := Lib.hid hok
  clear h IH hok
  go_enter Try.func85, Try.ntmps85
  go_wp2_with fail
  go_loopw [4, 5, 6] (fun e al i wr => ∃ k : Nat, k ≤ ks.length ∧ i = .int .i64 k ∧ ∃ E L : Int, e = .int .i64 E ∧ al = .int .i64 L ∧ 0 ≤ E ∧ E ≤ 600 ∧ 1 ≤ L ∧ L ≤ 8 ∧ Hid (Ty.layMost 0 1 ks = Ty.layMost E L (ks.drop k)) ∧ Hid (Below w.heap.size w wr)) (fun _ _ i _ => ks.length - (intOf i).toNat)
  case atStart => exact ⟨0, Nat.zero_le _, rfl, 0, 1, rfl, rfl, by omega, by omega, by omega, by omega, rfl, Below.refl _ _⟩
  case round =>
    obtain ⟨k, hk, rfl, E, L, rfl, rfl, E0, E1, L0, L1, hrow, HB⟩ := hrel
    by_cases hlt : k < ks.length
    · obtain ⟨b, o, t, A', B', ca', cb', rfl, _, htk, hc⟩ := (H.out.below HB.out).at_ hlt
      have C := Lib.hid (HI.out k t htk A' B' ca' cb')
      obtain ⟨s0, s1, a0, a1⟩ := HK.out k t htk
      have hlti : (k : Int) < (ks.length : Int) := by omega
      have HD : Hid (ks.drop k = t :: ks.drop (k + 1)) := Lib.hid (by rw [List.drop_eq_getElem_cons hlt]; congr 1; rw [List.getElem?_eq_getElem hlt] at htk; exact Option.some.inj htk)
      have HTR := Lib.hid hc.tree
      obtain ⟨c0, c1, c2, c3, _⟩ := hc
      clear htk
      have hm1 : 1 ≤ max L t.lay.2 := by omega
      have hm2 : max L t.lay.2 ≤ 8 := by omega
      have hn1 : 0 ≤ max E t.lay.1 := by omega
      have hn2 : max E t.lay.1 ≤ 600 := by omega
      have hrow' : Hid (Ty.layMost 0 1 ks = Ty.layMost (max E t.lay.1) (max L t.lay.2) (ks.drop (k + 1))) := Lib.hid (by rw [hrow.out, HD.out, Ty.layMost_cons])
      clear hrow HD
      generalize t.lay.1 = s at *
      generalize t.lay.2 = a at *
      have CM := Lib.hid (fun W => l00Max_any L a W)
      have CN := Lib.hid (fun W => l00Max_any E s W)
      generalize max L a = m at *
      generalize max E s = n at *
      go_wp2_with fail
      go_at_call 65
      refine (C.out _ HTR.out).mono ?_
      rintro e w2 ⟨rfl, hb2⟩
      have HB2 := Lib.hid (bnext HB.out hb2)
      clear hb2 C HB c0 c1 c2 c3
      go_wp2_with fail
      go_at_call 76
      refine (CN.out _).mono ?_
      rintro e w3 ⟨rfl, hb3⟩
      have HB3 := Lib.hid (bnext HB2.out hb3)
      clear hb3 HB2
      go_wp2_with fail
      go_at_call 76
      refine (CM.out _).mono ?_
      rintro e w4 ⟨rfl, hb4⟩
      have HB4 := Lib.hid (bnext HB3.out hb4)
      clear hb4 HB3
      go_wp2_with fail
      go_roundw
      case rel => exact ⟨k + 1, by omega, by go_num, n, m, rfl, rfl, hn1, hn2, hm1, hm2, hrow'.out, HB4.out⟩
      case measure => simp [intOf]; omega
    · have hk' : k = ks.length := by omega
      have hd : ks.drop k = [] := by rw [hk', List.drop_length]
      have hr := hrow.out
      rw [hd, Ty.layMost_nil] at hr
      subst hk'
      have HR := Lib.hid hr
      clear hd hrow
      have hli : ¬ (ks.length : Int) < (ks.length : Int) := by omega
      clear hr
      go_wp2_with fail
      go_ret2
      exact ⟨by first | (rw [HR.out]; done) | (rw [HR.out]; rfl), HB.out⟩
end Go.Proofs.Ytlmmbheamicdaaa
