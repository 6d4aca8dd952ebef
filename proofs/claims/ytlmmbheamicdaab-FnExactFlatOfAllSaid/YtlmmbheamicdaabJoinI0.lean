/-
  The walks of the program's join of two rows of kinds, and of the model's. No condition.
-/
import Derived.Test.YtlmmbheamicdaabJoinS0
import Derived.Test.YtlmmbheamicdaabKinds0
namespace Go.Proofs.Ytlmmbheamicdaab
open Go.ChangeShapes Go.WideShapes Go.ChangeAt Go.RowKit Go.Deep

theorem join6_get : ∀ (p q : List Int) (i : Nat), (join6 p q)[i]? = match p[i]?, q[i]? with
    | some x, some y => some (max x y)
    | some x, none => some x
    | none, o => o
  | [], q, i => by simp [join6]
  | x :: p, [], i => by
    simp only [join6, List.getElem?_nil]
    cases (x :: p)[i]? <;> rfl
  | x :: p, y :: q, 0 => by simp [join6]
  | x :: p, y :: q, i + 1 => by
    simp only [join6, List.getElem?_cons_succ]
    exact join6_get p q i
theorem mix_one {L S : List Int} {k : Nat} (hL : KOk L) (hs : S[k]? = some 1) (hk : k < L.length) : join6 (S.take (k + 1)) L = join6 (S.take k) L := by
  apply List.ext_getElem?
  intro i
  rw [join6_get, join6_get, List.getElem?_take, List.getElem?_take]
  by_cases e : i = k
  · subst e
    have hl : L[i]? = some L[i] := List.getElem?_eq_getElem hk
    have h1 := hL i _ hl
    rw [if_pos (by omega), if_neg (by omega), hs, hl]
    dsimp only
    rw [show max 1 L[i] = L[i] by rcases h1 with h1 | h1 <;> rw [h1] <;> rfl]
  · by_cases e2 : i < k
    · rw [if_pos (by omega), if_pos e2]
    · rw [if_neg (by omega), if_neg e2]
theorem mix_two {L S : List Int} {k : Nat} (hL : KOk L) (hs : S[k]? = some 2) (hk : k < L.length) : join6 (S.take (k + 1)) L = (join6 (S.take k) L).set k 2 := by
  apply List.ext_getElem?
  intro i
  rw [List.getElem?_set, join6_get, join6_get, join6_len, List.getElem?_take, List.getElem?_take, List.length_take]
  by_cases e : k = i
  · subst e
    have hl : L[k]? = some L[k] := List.getElem?_eq_getElem hk
    have h1 := hL k _ hl
    rw [if_pos (by omega), if_pos rfl, if_pos (by omega), hs, hl]
    dsimp only
    rw [show max 2 L[k] = 2 by rcases h1 with h1 | h1 <;> rw [h1] <;> rfl]
  · rw [if_neg e]
    by_cases e2 : i < k
    · rw [if_pos (by omega), if_pos e2]
    · rw [if_neg (by omega), if_neg e2]
theorem Own6.set {w : World} {X : List Int} {R : Option Addr} {g k : Nat} (h : Own6 w X R g) (hk : k < X.length) (v : Int) : Own6 (w.setCell ⟨g, k, none⟩ (.int .i64 v)) (X.set k v) R g := fun _ => by
  obtain ⟨h1, h2, h3⟩ := h (by omega)
  refine ⟨h1, h2.set _ _, fun i n hn => ?_⟩
  rw [List.getElem?_set] at hn
  by_cases e : k = i
  · subst e
    rw [if_pos rfl, if_pos hk] at hn
    cases hn
    exact World.cell?_setCell_same' w ⟨g, k, none⟩ _ (by rw [h3 k _ (List.getElem?_eq_getElem hk)]; rfl)
  · rw [if_neg e] at hn
    exact (World.cell?_setCell_other _ _ _ _ (fun e2 => e (by injection e2))).trans (h3 i n hn)

theorem form6 {w : World} {base : Nat} {e : TypeId} {size n : Nat} {v : Value} {xs : List Value} (h : w.ownsRow base e size v n xs) : ∃ (R : Option Addr) (cap : Nat), v = .slice R n cap := by
  rcases h.2 with ⟨rfl, rfl⟩ | ⟨g, cap, _, rfl, _⟩
  · exact ⟨none, 0, rfl⟩
  · exact ⟨_, cap, rfl⟩

set_option maxHeartbeats 1000000 in
set_option maxRecDepth 1000000 in
theorem clone6_any (P : List Int) (hp : P.length ≤ 1048576) (R : Option Addr) (c : Nat) (w : World) (h : Row6 w P R) :
    Calls Try.prog 69 #[.slice R P.length c] w (Ans6 P w) := by
  obtain ⟨i0, hi, hz0, hz1, hz2⟩ := info_parts infoI64
  cases R with
  | none =>
    obtain rfl : P = [] := by
      cases P with
      | nil => rfl
      | cons x p =>
        obtain ⟨b, o, e, _⟩ := h (by simp)
        cases e
    have he : ∀ W : World, (binOp .eql 41 (.slice none 0 c) (.slice none 0 0)).run Try.prog W = .ok (.bool true) W := fun _ => rfl
    clear h hp
    go_enter Try.func69, Try.ntmps69
    go_wp2_with fail
    go_ret
    exact ⟨none, 0, w.heap.size, rfl, Nat.le_refl _, fun hp => absurd hp (by simp), own6_nil _ _ _, Below.refl _ _⟩
  | some a =>
    have hnews : ∀ (j : Nat) (u : Value), (P.map num6)[j]? = some u → w.cell? (a.add j) = some u := by
      intro j u hu
      rw [List.getElem?_map] at hu
      cases hs : P[j]? with
      | none => rw [hs] at hu; cases hu
      | some s =>
        rw [hs] at hu
        cases hu
        obtain ⟨b, o, e, hc⟩ := h (by have := (List.getElem?_eq_some_iff.1 hs).1; omega)
        cases e
        have hadd : (⟨b, o, none⟩ : Addr).add j = ⟨b, o + j, none⟩ := by unfold Addr.add; split <;> simp_all
        rw [hadd]
        exact hc j s hs
    have HN := Lib.hid hnews
    have hpi : (P.length : Int) ≤ 1048576 := by omega
    clear hnews h
    have he : ∀ W : World, (binOp .eql 41 (.slice (some a) P.length c) (.slice none 0 0)).run Try.prog W = .ok (.bool false) W := fun _ => rfl
    go_enter Try.func69, Try.ntmps69
    go_wp2_with (at_builtin; refine wpList_append_own _ rfl _ _ 41 rfl w.heap.size 2 i0 _ 1 8 Try.underlying41 hi hz0 hz1 hz2 rfl (by decide) (.slice (some ⟨w.heap.size, 0, none⟩) 0 0) 0 [] rfl (World.ownsRow_made _ _ _ (Nat.le_refl _) (by unfold maxLen; omega) (by simp)) a P.length c (P.map num6) rfl (by simp) ?c31 ?c32 ?c33 ?c34 ?c35 ?_)
    case c31 =>
      intro j u hu
      have h9 := HN.out j u hu
      exact keepCell (below1 _ _) h9
    case c32 =>
      intro u hu
      obtain ⟨s, _, rfl⟩ := List.mem_map.1 hu
      rfl
    case c33 => unfold maxLen; omega
    case c34 => omega
    case c35 => simp
    intro v4 w4 hown4 hgrow4 _
    obtain ⟨R4, cap4, rfl⟩ := form6 hown4
    have HB4 := Lib.hid ((below1 _ _).grown hgrow4 (by simp) (fun g hg => by
      injection hg with hg
      subst hg
      exact Nat.le_refl _))
    obtain ⟨g, h1, h2, h3⟩ := Own6.of_own hown4
    have H1 := Lib.hid h1
    have H2 := Lib.hid h2
    have H3 := Lib.hid h3
    clear hown4 hgrow4 h1 h2 h3
    go_wp2_with fail
    go_ret
    exact ⟨R4, cap4, g, rfl, H1.out, H2.out, H3.out, HB4.out⟩

set_option maxHeartbeats 2000000 in
set_option maxRecDepth 1000000 in
theorem implJoin_swap (P Q : List Int) (hp : P.length ≤ 1048576) (hq : Q.length ≤ 1048576) (kp : KOk P) (kq : KOk Q) (hlen : P.length < Q.length) (R R' : Option Addr) (c c' : Nat) (w : World) (h : Row6 w P R) (h' : Row6 w Q R') :
    Calls Try.prog 62 #[.slice R P.length c, .slice R' Q.length c'] w (Ans6 (join6 P Q) w) := by
  obtain ⟨J, hJ⟩ : ∃ J, join6 P Q = J := ⟨_, rfl⟩
  rw [hJ]
  have C1 := Lib.hid ((implKindsOk_any P hp R c w h).mono fun _ _ j => j.yes kp)
  have C2 := Lib.hid (fun W h' => (implKindsOk_any Q hq R' c' W h').mono fun _ _ j => j.yes kq)
  have CC := Lib.hid (fun W h => clone6_any Q hq R' c' W h)
  have H := Lib.hid h
  have H' := Lib.hid h'
  have HJ : Hid (J = join6 P Q) := Lib.hid hJ.symm
  have hlt0 : (P.length : Int) < (Q.length : Int) := by omega
  have hle : P.length ≤ Q.length := by omega
  have HKL := Lib.hid kq
  have HKS := Lib.hid kp
  clear h h' kp kq hlen hJ
  go_enter Try.func62, Try.ntmps62
  go_wp2_with fail
  go_at_call 68
  refine C1.out.mono ?_
  rintro e w2 ⟨rfl, hb2⟩
  have HB2 := Lib.hid hb2
  clear hb2
  go_wp2_with fail
  go_at_call 68
  refine (C2.out _ (H'.out.below HB2.out)).mono ?_
  rintro e w3 ⟨rfl, hb3⟩
  have HB3 := Lib.hid (next6 HB2.out hb3)
  clear hb3
  go_wp2_with fail
  go_at_call 69
  refine (CC.out _ (H'.out.below HB3.out)).mono ?_
  rintro e w4 ⟨R4, c4, g4, rfl, hg4, hg4', ho4, hb4⟩
  have HB4 := Lib.hid (next6 HB3.out hb4)
  have HO4 := Lib.hid ho4
  have HG4 := Lib.hid (Nat.le_trans HB3.out.size hg4)
  have HG5 := Lib.hid hg4'
  clear hb4 ho4 hg4 hg4'
  go_wp2_with fail
  go_loopw [27] (fun i wr => ∃ k : Nat, k ≤ P.length ∧ i = .int .i64 k ∧ Hid (Own6 wr (join6 (P.take k) Q) R4 g4) ∧ Hid (Below w.heap.size w wr) ∧ Hid (w4.heap.size ≤ wr.heap.size)) (fun i _ => P.length - (intOf i).toNat)
  case atStart => exact ⟨0, Nat.zero_le _, rfl, (by rw [List.take_zero]; exact HO4.out), HB4.out, Nat.le_refl _⟩
  case round =>
    obtain ⟨k, hk, rfl, hown, hbel, hsz⟩ := hrel
    by_cases hlt : k < P.length
    · have hlti : (k : Int) < (P.length : Int) := by omega
      have hkL : (k : Int) < (Q.length : Int) := by omega
      obtain ⟨b, o, s, rfl, hs, hcs⟩ := (H.out.below hbel.out).at_ hlt
      have hlen : (join6 (P.take k) Q).length = Q.length := by rw [join6_len, List.length_take]; omega
      obtain ⟨rfl, hblk, hcells⟩ := hown.out (by omega)
      have hx : (join6 (P.take k) Q)[k]? = some (join6 (P.take k) Q)[k] := List.getElem?_eq_getElem (by omega)
      have hc0 := hcells k _ hx
      generalize (join6 (P.take k) Q)[k] = x0 at hc0
      have hf := hblk.free k
      have hks := HKS.out k s hs
      have HSS := Lib.hid hs
      have HL2 := Lib.hid hlen
      clear hblk hcells hx hs hlen
      rcases hks with rfl | rfl
      · have HM := Lib.hid (mix_one HKL.out HSS.out (Nat.lt_of_lt_of_le hlt hle))
        go_wp2_with fail
        go_roundw
        case rel => exact ⟨k + 1, by omega, by go_num, (by rw [HM.out]; exact hown.out), hbel.out, hsz.out⟩
        case measure => simp [intOf]; omega
      · have HM := Lib.hid (mix_two HKL.out HSS.out (Nat.lt_of_lt_of_le hlt hle))
        go_wp2_with fail
        go_roundw
        case rel => exact ⟨k + 1, by omega, by go_num, (by rw [HM.out]; exact hown.out.set (by rw [HL2.out]; omega) 2), hbel.out.setCell HG4.out _, Lib.hid (by have := hsz.out; simpa [World.setCell] using this)⟩
        case measure => simp [intOf]; omega
    · have e9 : k = P.length := by omega
      have hlti : ¬ (k : Int) < (P.length : Int) := by omega
      have HN : Hid (J.length = Q.length) := Lib.hid (by rw [HJ.out, join6_len]; omega)
      have HO : Hid (Own6 wr J R4 g4) := Lib.hid (by rw [HJ.out]; have h9 := hown.out; rw [e9, List.take_length] at h9; exact h9)
      clear e9 hown
      go_wp2_with fail
      go_ret
      exact ⟨R4, c4, g4, by rw [HN.out]; rfl, HG4.out, fun hp => Nat.lt_of_lt_of_le (HG5.out (by rw [← HN.out]; exact hp)) hsz.out, HO.out, hbel.out⟩

set_option maxHeartbeats 2000000 in
set_option maxRecDepth 1000000 in
theorem implJoin_stay (P Q : List Int) (hp : P.length ≤ 1048576) (hq : Q.length ≤ 1048576) (kp : KOk P) (kq : KOk Q) (hlen : ¬ P.length < Q.length) (R R' : Option Addr) (c c' : Nat) (w : World) (h : Row6 w P R) (h' : Row6 w Q R') :
    Calls Try.prog 62 #[.slice R P.length c, .slice R' Q.length c'] w (Ans6 (join6 P Q) w) := by
  obtain ⟨J, hJ⟩ : ∃ J, join6 P Q = J := ⟨_, rfl⟩
  rw [hJ]
  have C1 := Lib.hid ((implKindsOk_any P hp R c w h).mono fun _ _ j => j.yes kp)
  have C2 := Lib.hid (fun W h' => (implKindsOk_any Q hq R' c' W h').mono fun _ _ j => j.yes kq)
  have CC := Lib.hid (fun W h => clone6_any P hp R c W h)
  have H := Lib.hid h
  have H' := Lib.hid h'
  have HJ : Hid (J = join6 Q P) := Lib.hid (by rw [← hJ]; exact join6_comm _ _)
  have hlt0 : ¬ (P.length : Int) < (Q.length : Int) := by omega
  have hle : Q.length ≤ P.length := by omega
  have HKL := Lib.hid kp
  have HKS := Lib.hid kq
  clear h h' kp kq hlen hJ
  go_enter Try.func62, Try.ntmps62
  go_wp2_with fail
  go_at_call 68
  refine C1.out.mono ?_
  rintro e w2 ⟨rfl, hb2⟩
  have HB2 := Lib.hid hb2
  clear hb2
  go_wp2_with fail
  go_at_call 68
  refine (C2.out _ (H'.out.below HB2.out)).mono ?_
  rintro e w3 ⟨rfl, hb3⟩
  have HB3 := Lib.hid (next6 HB2.out hb3)
  clear hb3
  go_wp2_with fail
  go_at_call 69
  refine (CC.out _ (H.out.below HB3.out)).mono ?_
  rintro e w4 ⟨R4, c4, g4, rfl, hg4, hg4', ho4, hb4⟩
  have HB4 := Lib.hid (next6 HB3.out hb4)
  have HO4 := Lib.hid ho4
  have HG4 := Lib.hid (Nat.le_trans HB3.out.size hg4)
  have HG5 := Lib.hid hg4'
  clear hb4 ho4 hg4 hg4'
  go_wp2_with fail
  go_loopw [27] (fun i wr => ∃ k : Nat, k ≤ Q.length ∧ i = .int .i64 k ∧ Hid (Own6 wr (join6 (Q.take k) P) R4 g4) ∧ Hid (Below w.heap.size w wr) ∧ Hid (w4.heap.size ≤ wr.heap.size)) (fun i _ => Q.length - (intOf i).toNat)
  case atStart => exact ⟨0, Nat.zero_le _, rfl, (by rw [List.take_zero]; exact HO4.out), HB4.out, Nat.le_refl _⟩
  case round =>
    obtain ⟨k, hk, rfl, hown, hbel, hsz⟩ := hrel
    by_cases hlt : k < Q.length
    · have hlti : (k : Int) < (Q.length : Int) := by omega
      have hkL : (k : Int) < (P.length : Int) := by omega
      obtain ⟨b, o, s, rfl, hs, hcs⟩ := (H'.out.below hbel.out).at_ hlt
      have hlen : (join6 (Q.take k) P).length = P.length := by rw [join6_len, List.length_take]; omega
      obtain ⟨rfl, hblk, hcells⟩ := hown.out (by omega)
      have hx : (join6 (Q.take k) P)[k]? = some (join6 (Q.take k) P)[k] := List.getElem?_eq_getElem (by omega)
      have hc0 := hcells k _ hx
      generalize (join6 (Q.take k) P)[k] = x0 at hc0
      have hf := hblk.free k
      have hks := HKS.out k s hs
      have HSS := Lib.hid hs
      have HL2 := Lib.hid hlen
      clear hblk hcells hx hs hlen
      rcases hks with rfl | rfl
      · have HM := Lib.hid (mix_one HKL.out HSS.out (Nat.lt_of_lt_of_le hlt hle))
        go_wp2_with fail
        go_roundw
        case rel => exact ⟨k + 1, by omega, by go_num, (by rw [HM.out]; exact hown.out), hbel.out, hsz.out⟩
        case measure => simp [intOf]; omega
      · have HM := Lib.hid (mix_two HKL.out HSS.out (Nat.lt_of_lt_of_le hlt hle))
        go_wp2_with fail
        go_roundw
        case rel => exact ⟨k + 1, by omega, by go_num, (by rw [HM.out]; exact hown.out.set (by rw [HL2.out]; omega) 2), hbel.out.setCell HG4.out _, Lib.hid (by have := hsz.out; simpa [World.setCell] using this)⟩
        case measure => simp [intOf]; omega
    · have e9 : k = Q.length := by omega
      have hlti : ¬ (k : Int) < (Q.length : Int) := by omega
      have HN : Hid (J.length = P.length) := Lib.hid (by rw [HJ.out, join6_len]; omega)
      have HO : Hid (Own6 wr J R4 g4) := Lib.hid (by rw [HJ.out]; have h9 := hown.out; rw [e9, List.take_length] at h9; exact h9)
      clear e9 hown
      go_wp2_with fail
      go_ret
      exact ⟨R4, c4, g4, by rw [HN.out]; rfl, HG4.out, fun hp => Nat.lt_of_lt_of_le (HG5.out (by rw [← HN.out]; exact hp)) hsz.out, HO.out, hbel.out⟩
end Go.Proofs.Ytlmmbheamicdaab
