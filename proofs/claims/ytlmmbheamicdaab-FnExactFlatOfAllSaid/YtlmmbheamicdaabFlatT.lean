/-
  The walk of the model's l12Flat.
-/
import Derived.Test.YtlmmbheamicdaabFlatS
namespace Go.Proofs.Ytlmmbheamicdaab
open Go.ChangeShapes Go.WideShapes Go.ChangeAt Go.RowKit Go.Deep

theorem OwnF.lit2 (w : World) (o : Obj) (xs : List Int) (h : xs.length ≤ 60) : OwnF ((w.alloc o).alloc (.cells (xs.map num6).toArray 2)) w.heap.size xs (some ⟨w.heap.size + 1, 0, none⟩) xs.length xs.length := by
  have h1 := OwnF.lit (base := w.heap.size) (w.alloc o) (below1 w o).size xs h
  rw [World.size_alloc] at h1
  exact h1
theorem case_inS {T t : Ty} {i : Nat} (h : T.cases[i]? = some t) : t = unitTy ∨ ∃ j : Nat, T.kids[j]? = some t := by
  unfold Ty.cases at h
  by_cases e : T.kind = 13
  · rw [if_pos e] at h
    cases i with
    | zero =>
      simp at h
      exact Or.inl h.symm
    | succ i => exact Or.inr ⟨i, by simpa using h⟩
  · rw [if_neg e] at h
    by_cases e2 : T.kind = 14 ∨ T.kind = 17
    · rw [if_pos e2] at h
      exact Or.inr ⟨i, h⟩
    · rw [if_neg e2] at h
      simp at h
set_option maxHeartbeats 1000000 in
theorem flatS_1 (T : Ty) (e : T.kind = 1) (lo : Nat) : FlatS lo T := by
  intro A B ca cb w _
  have hv : T.flat = [] := by rw [Ty.flat_eq, e]; rfl
  rw [hv, e]
  clear hv e
  generalize T.labels.length = nl at *
  generalize T.kids.length = nk at *
  generalize T.name = nm at *
  go_enter Try.func41, Try.ntmps41
  go_wp2_with fail
  go_ret
  exact ⟨none, 0, 0, rfl, ⟨rfl, World.ownsRow_nil _ _ _ _⟩, below1 _ _⟩
set_option maxHeartbeats 1000000 in
theorem flatS_9 (T : Ty) (e : T.kind = 9) (lo : Nat) : FlatS lo T := by
  intro A B ca cb w _
  have hv : T.flat = [2] := by rw [Ty.flat_eq, e]; rfl
  rw [hv, e]
  clear hv e
  generalize T.labels.length = nl at *
  generalize T.kids.length = nk at *
  generalize T.name = nm at *
  go_enter Try.func41, Try.ntmps41
  go_wp2_with fail
  go_ret
  exact ⟨_, _, _, rfl, OwnF.lit2 w _ [2] (by decide), (below1 _ _).alloc (below1 _ _).size _⟩
set_option maxHeartbeats 1000000 in
theorem flatS_11 (T : Ty) (e : T.kind = 11) (lo : Nat) : FlatS lo T := by
  intro A B ca cb w _
  have hv : T.flat = [1, 1] := by rw [Ty.flat_eq, e]; rfl
  rw [hv, e]
  clear hv e
  generalize T.labels.length = nl at *
  generalize T.kids.length = nk at *
  generalize T.name = nm at *
  go_enter Try.func41, Try.ntmps41
  go_wp2_with fail
  go_ret
  exact ⟨_, _, _, rfl, OwnF.lit2 w _ [1, 1] (by decide), (below1 _ _).alloc (below1 _ _).size _⟩
set_option maxHeartbeats 1000000 in
theorem flatS_12 (T : Ty) (e : T.kind = 12) (lo : Nat) : FlatS lo T := by
  intro A B ca cb w _
  have hv : T.flat = [1, 1] := by rw [Ty.flat_eq, e]; rfl
  rw [hv, e]
  clear hv e
  generalize T.labels.length = nl at *
  generalize T.kids.length = nk at *
  generalize T.name = nm at *
  go_enter Try.func41, Try.ntmps41
  go_wp2_with fail
  go_ret
  exact ⟨_, _, _, rfl, OwnF.lit2 w _ [1, 1] (by decide), (below1 _ _).alloc (below1 _ _).size _⟩
set_option maxHeartbeats 1000000 in
theorem flatS_one (T : Ty) (h : T.kind ≠ 1 ∧ T.kind ≠ 9 ∧ T.kind ≠ 11 ∧ T.kind ≠ 12 ∧ T.kind ≠ 15 ∧ T.kind ≠ 16 ∧ T.kind ≠ 13 ∧ T.kind ≠ 14 ∧ T.kind ≠ 17) (lo : Nat) : FlatS lo T := by
  intro A B ca cb w _
  obtain ⟨h1, h2, h3, h4, h5, h6, h7, h8, h9⟩ := h
  have hv : T.flat = [1] := by
    rw [Ty.flat_eq, if_neg h1, if_neg h2, if_neg (by omega), if_neg (by omega), if_neg (by omega)]
  rw [hv]
  clear hv
  generalize T.kind = k at *
  have d1 : (k == 1) = false := by rw [beq_eq_false_iff_ne]; exact h1
  have d2 : (k == 9) = false := by rw [beq_eq_false_iff_ne]; exact h2
  have d3 : (k == 11) = false := by rw [beq_eq_false_iff_ne]; exact h3
  have d4 : (k == 12) = false := by rw [beq_eq_false_iff_ne]; exact h4
  have d5 : (k == 15) = false := by rw [beq_eq_false_iff_ne]; exact h5
  have d6 : (k == 16) = false := by rw [beq_eq_false_iff_ne]; exact h6
  have d7 : (k == 13) = false := by rw [beq_eq_false_iff_ne]; exact h7
  have d8 : (k == 14) = false := by rw [beq_eq_false_iff_ne]; exact h8
  have d9 : (k == 17) = false := by rw [beq_eq_false_iff_ne]; exact h9
  clear h1 h2 h3 h4 h5 h6 h7 h8 h9
  generalize T.labels.length = nl at *
  generalize T.kids.length = nk at *
  generalize T.name = nm at *
  go_enter Try.func41, Try.ntmps41
  go_wp2_with fail
  go_ret
  exact ⟨_, _, _, rfl, OwnF.lit2 w _ [1] (by decide), (below1 _ _).alloc (below1 _ _).size _⟩
set_option maxHeartbeats 1000000 in
theorem flatS_15 (T : Ty) (e : T.kind = 15) (lo : Nat) (IK : ∀ (i : Nat) (t : Ty), T.kids[i]? = some t → FlatS lo t) (hok : ∀ (i : Nat) (t : Ty), T.kids[i]? = some t → t.flat.length ≤ 60) (hl : T.kids.length ≤ 1000) : FlatS lo T := by
  intro A B ca cb w hat
  have hv : T.flat = Ty.flats T.kids := by rw [Ty.flat_eq, e]; rfl
  have C := Lib.hid (fun cb W (h : Ty.RowAt W lo T.kids B) => l12All_any T.kids lo IK hok hl B cb W h)
  have HR := Lib.hid hat.rowAt
  rw [hv, e]
  clear hv e hat IK hok hl
  generalize Ty.flats T.kids = P at *
  go_enter Try.func41, Try.ntmps41
  go_wp2_with fail
  go_at_call 40
  refine (C.out _ _ (HR.out.below (below1 _ _))).mono ?_
  rintro e w2 ⟨R2, n2, c2, rfl, ho2, hb2⟩
  have HO2 := Lib.hid ho2
  have HB2 := Lib.hid (next6 (below1 _ _) hb2)
  clear ho2 hb2
  go_wp2_with fail
  go_ret
  exact ⟨R2, n2, c2, rfl, HO2.out.down (below1 _ _).size, HB2.out⟩
set_option maxHeartbeats 1000000 in
theorem flatS_16 (T : Ty) (e : T.kind = 16) (lo : Nat) (IK : ∀ (i : Nat) (t : Ty), T.kids[i]? = some t → FlatS lo t) (hok : ∀ (i : Nat) (t : Ty), T.kids[i]? = some t → t.flat.length ≤ 60) (hl : T.kids.length ≤ 1000) : FlatS lo T := by
  intro A B ca cb w hat
  have hv : T.flat = Ty.flats T.kids := by rw [Ty.flat_eq, e]; rfl
  have C := Lib.hid (fun cb W (h : Ty.RowAt W lo T.kids B) => l12All_any T.kids lo IK hok hl B cb W h)
  have HR := Lib.hid hat.rowAt
  rw [hv, e]
  clear hv e hat IK hok hl
  generalize Ty.flats T.kids = P at *
  go_enter Try.func41, Try.ntmps41
  go_wp2_with fail
  go_at_call 40
  refine (C.out _ _ (HR.out.below (below1 _ _))).mono ?_
  rintro e w2 ⟨R2, n2, c2, rfl, ho2, hb2⟩
  have HO2 := Lib.hid ho2
  have HB2 := Lib.hid (next6 (below1 _ _) hb2)
  clear ho2 hb2
  go_wp2_with fail
  go_ret
  exact ⟨R2, n2, c2, rfl, HO2.out.down (below1 _ _).size, HB2.out⟩
set_option maxHeartbeats 2000000 in
set_option maxRecDepth 100000 in
theorem flatS_13 (T : Ty) (e : T.kind = 13) (ho : T.Ok) (lo : Nat) (IK : ∀ (i : Nat) (t : Ty), T.kids[i]? = some t → FlatS lo t) (hk60 : ∀ (i : Nat) (t : Ty), T.kids[i]? = some t → t.flat.length ≤ 60) (hl : T.kids.length ≤ 1000) : FlatS lo T := by
  intro A B ca cb w hat
  have hv : T.flat = 1 :: Ty.flatJ [] T.cases := by rw [flatJ_cases (by omega), Ty.flat_eq, e]; rfl
  have CS := Lib.hid (fun W (h : Ty.At W lo T A B) => specCases_any T ho A B ca cb lo W h)
  rw [e] at CS
  have HA := Lib.hid hat
  have HI : Hid (∀ (i : Nat) (t : Ty), T.cases[i]? = some t → FlatS lo t) := Lib.hid (fun i t ht => by
    rcases case_inS ht with rfl | ⟨j, hj⟩
    · exact flatS_1 unitTy rfl lo
    · exact IK j t hj)
  have H60 : Hid (∀ (i : Nat) (t : Ty), T.cases[i]? = some t → t.flat.length ≤ 60) := Lib.hid (fun i t ht => by
    rcases case_inS ht with rfl | ⟨j, hj⟩
    · rw [unit_flat]
      exact Nat.zero_le _
    · exact hk60 j t hj)
  have hcl : T.cases.length ≤ 1001 := by
    unfold Ty.cases
    (repeat' split) <;> (try simp only [List.length_cons]) <;> omega
  rw [hv, e]
  clear hv e hat IK hk60 hl ho
  generalize T.cases = ks at *
  generalize T.labels.length = nl at *
  generalize T.kids.length = nk at *
  generalize T.name = nm at *
  obtain ⟨P, hP⟩ : ∃ P, Ty.flatJ [] ks = P := ⟨_, rfl⟩
  rw [hP]
  have HP := Lib.hid hP
  clear hP
  go_enter Try.func41, Try.ntmps41
  go_wp2_with fail
  go_at_call 30
  refine (CS.out _ (HA.out.below (below1 _ _))).mono ?_
  rintro e w2 ⟨R2, c2, rfl, hr2, hb2⟩
  have H := Lib.hid hr2
  have HB2 := Lib.hid (next6 (below1 _ _) hb2)
  clear hr2 hb2
  go_wp2_with fail
  go_loopw [4, 5] (fun v i wr => ∃ k : Nat, k ≤ ks.length ∧ i = .int .i64 k ∧ (∃ (R : Option Addr) (c : Nat) (xs : List Int), v = .slice R xs.length c ∧ xs.length ≤ 60 ∧ Hid (Row6 wr xs R) ∧ Hid (Ty.flatJ xs (ks.drop k) = P)) ∧ Hid (Below w2.heap.size w2 wr)) (fun _ i _ => ks.length - (intOf i).toNat)
  case atStart => exact ⟨0, Nat.zero_le _, rfl, ⟨_, _, [], rfl, Nat.zero_le _, (fun hp => absurd hp (by simp)), Lib.hid (by rw [List.drop_zero]; exact HP.out)⟩, below1 _ _⟩
  case round =>
    obtain ⟨k, hk, rfl, ⟨R, c, xs, rfl, hn, HO, HF⟩, HB⟩ := hrel
    by_cases hlt : k < ks.length
    · obtain ⟨b, o, t, A', B', ca', cb', rfl, _, htk, hc⟩ := (H.out.below HB.out).at_ hlt
      have C := Lib.hid (HI.out k t htk A' B' ca' cb')
      have h60 := H60.out k t htk
      have hlti : (k : Int) < (ks.length : Int) := by omega
      have hd : ks.drop k = t :: ks.drop (k + 1) := by
        rw [List.drop_eq_getElem_cons hlt]
        congr 1
        rw [List.getElem?_eq_getElem hlt] at htk
        exact Option.some.inj htk
      have HF2 : Hid (Ty.flatJ (join6 xs t.flat) (ks.drop (k + 1)) = P) := Lib.hid (by rw [← Ty.flatJ_cons, ← hd]; exact HF.out)
      have HTR := Lib.hid hc.tree
      obtain ⟨c0, c1, c2', c3, _⟩ := hc
      have hj := join6_len xs t.flat
      clear htk hd HF
      generalize t.flat = Q at *
      have CJ := Lib.hid (fun R R' c c' W h h' => l12Join_any xs Q (by omega) (by omega) R R' c c' W h h')
      generalize join6 xs Q = J at *
      have hJ : J.length ≤ 60 := by omega
      clear hj
      go_wp2_with fail
      go_at_call 41
      refine (C.out _ HTR.out).mono ?_
      rintro e w3 ⟨R3, n3, c3', rfl, ho3, hb3⟩
      obtain ⟨rfl, hr3⟩ := ho3.row
      have HB3 := Lib.hid (next6 HB.out hb3)
      have HO3 := Lib.hid (HO.out.below hb3)
      have HR3 := Lib.hid hr3
      clear hb3 ho3 hr3 c0 c1 c2' c3
      go_wp2_with fail
      go_at_call 48
      refine (CJ.out _ _ _ _ _ HO3.out HR3.out).mono ?_
      rintro e w4 ⟨R4, c4, g4, rfl, _, _, ho4, hb4⟩
      have HO4 := Lib.hid ho4.row
      have HB4 := Lib.hid (next6 HB3.out hb4)
      clear ho4 hb4
      go_wp2_with fail
      go_roundw
      case rel => exact ⟨k + 1, by omega, by go_num, ⟨R4, c4, J, rfl, hJ, HO4, HF2⟩, HB4⟩
      case measure => simp [intOf]; omega
    · have hk' : k = ks.length := by omega
      have hli : ¬ (ks.length : Int) < (ks.length : Int) := by omega
      have hx : xs = P := by
        have h1 := HF.out
        rw [hk', List.drop_length, Ty.flatJ_nil] at h1
        exact h1
      subst hk'
      subst hx
      clear HF HP
      have HBW := Lib.hid (next6 HB2.out HB.out)
      have hz2 : w.heap.size ≤ wr.heap.size := HBW.out.size
      have HL := Lib.hid (OwnF.lit (base := w.heap.size) wr hz2 [1] (by decide))
      have HAP := Lib.hid (fun ty => app6 (c2 := c) HL.out (HO.out.below (below1 _ _)) (Nat.le_trans hz2 (below1 _ _).size) (by show 1 + xs.length ≤ 1048576; omega) ty)
      go_wp2_with (at_builtin; refine wpList_append_ex _ rfl _ _ 41 rfl (.slice (some ⟨wr.heap.size, 0, none⟩) 1 1) (.slice R xs.length c) rfl rfl HAP.out ?_; rintro v' w5 ⟨R5, c5, rfl, ho5, hg5⟩; have HO5 := Lib.hid ho5; have HB5 : Hid (Below w.heap.size w w5) := Lib.hid ((HBW.out.alloc hz2 _).grown hg5 (Nat.le_trans hz2 (below1 _ _).size) (fun g hg => (HL.out.2.lt g hg).1)); clear ho5 hg5)
      go_ret
      exact ⟨R5, _, c5, rfl, HO5.out, HB5.out⟩
set_option maxHeartbeats 2000000 in
set_option maxRecDepth 100000 in
theorem flatS_14 (T : Ty) (e : T.kind = 14) (ho : T.Ok) (lo : Nat) (IK : ∀ (i : Nat) (t : Ty), T.kids[i]? = some t → FlatS lo t) (hk60 : ∀ (i : Nat) (t : Ty), T.kids[i]? = some t → t.flat.length ≤ 60) (hl : T.kids.length ≤ 1000) : FlatS lo T := by
  intro A B ca cb w hat
  have hv : T.flat = 1 :: Ty.flatJ [] T.cases := by rw [flatJ_cases (by omega), Ty.flat_eq, e]; rfl
  have CS := Lib.hid (fun W (h : Ty.At W lo T A B) => specCases_any T ho A B ca cb lo W h)
  rw [e] at CS
  have HA := Lib.hid hat
  have HI : Hid (∀ (i : Nat) (t : Ty), T.cases[i]? = some t → FlatS lo t) := Lib.hid (fun i t ht => by
    rcases case_inS ht with rfl | ⟨j, hj⟩
    · exact flatS_1 unitTy rfl lo
    · exact IK j t hj)
  have H60 : Hid (∀ (i : Nat) (t : Ty), T.cases[i]? = some t → t.flat.length ≤ 60) := Lib.hid (fun i t ht => by
    rcases case_inS ht with rfl | ⟨j, hj⟩
    · rw [unit_flat]
      exact Nat.zero_le _
    · exact hk60 j t hj)
  have hcl : T.cases.length ≤ 1001 := by
    unfold Ty.cases
    (repeat' split) <;> (try simp only [List.length_cons]) <;> omega
  rw [hv, e]
  clear hv e hat IK hk60 hl ho
  generalize T.cases = ks at *
  generalize T.labels.length = nl at *
  generalize T.kids.length = nk at *
  generalize T.name = nm at *
  obtain ⟨P, hP⟩ : ∃ P, Ty.flatJ [] ks = P := ⟨_, rfl⟩
  rw [hP]
  have HP := Lib.hid hP
  clear hP
  go_enter Try.func41, Try.ntmps41
  go_wp2_with fail
  go_at_call 30
  refine (CS.out _ (HA.out.below (below1 _ _))).mono ?_
  rintro e w2 ⟨R2, c2, rfl, hr2, hb2⟩
  have H := Lib.hid hr2
  have HB2 := Lib.hid (next6 (below1 _ _) hb2)
  clear hr2 hb2
  go_wp2_with fail
  go_loopw [4, 5] (fun v i wr => ∃ k : Nat, k ≤ ks.length ∧ i = .int .i64 k ∧ (∃ (R : Option Addr) (c : Nat) (xs : List Int), v = .slice R xs.length c ∧ xs.length ≤ 60 ∧ Hid (Row6 wr xs R) ∧ Hid (Ty.flatJ xs (ks.drop k) = P)) ∧ Hid (Below w2.heap.size w2 wr)) (fun _ i _ => ks.length - (intOf i).toNat)
  case atStart => exact ⟨0, Nat.zero_le _, rfl, ⟨_, _, [], rfl, Nat.zero_le _, (fun hp => absurd hp (by simp)), Lib.hid (by rw [List.drop_zero]; exact HP.out)⟩, below1 _ _⟩
  case round =>
    obtain ⟨k, hk, rfl, ⟨R, c, xs, rfl, hn, HO, HF⟩, HB⟩ := hrel
    by_cases hlt : k < ks.length
    · obtain ⟨b, o, t, A', B', ca', cb', rfl, _, htk, hc⟩ := (H.out.below HB.out).at_ hlt
      have C := Lib.hid (HI.out k t htk A' B' ca' cb')
      have h60 := H60.out k t htk
      have hlti : (k : Int) < (ks.length : Int) := by omega
      have hd : ks.drop k = t :: ks.drop (k + 1) := by
        rw [List.drop_eq_getElem_cons hlt]
        congr 1
        rw [List.getElem?_eq_getElem hlt] at htk
        exact Option.some.inj htk
      have HF2 : Hid (Ty.flatJ (join6 xs t.flat) (ks.drop (k + 1)) = P) := Lib.hid (by rw [← Ty.flatJ_cons, ← hd]; exact HF.out)
      have HTR := Lib.hid hc.tree
      obtain ⟨c0, c1, c2', c3, _⟩ := hc
      have hj := join6_len xs t.flat
      clear htk hd HF
      generalize t.flat = Q at *
      have CJ := Lib.hid (fun R R' c c' W h h' => l12Join_any xs Q (by omega) (by omega) R R' c c' W h h')
      generalize join6 xs Q = J at *
      have hJ : J.length ≤ 60 := by omega
      clear hj
      go_wp2_with fail
      go_at_call 41
      refine (C.out _ HTR.out).mono ?_
      rintro e w3 ⟨R3, n3, c3', rfl, ho3, hb3⟩
      obtain ⟨rfl, hr3⟩ := ho3.row
      have HB3 := Lib.hid (next6 HB.out hb3)
      have HO3 := Lib.hid (HO.out.below hb3)
      have HR3 := Lib.hid hr3
      clear hb3 ho3 hr3 c0 c1 c2' c3
      go_wp2_with fail
      go_at_call 48
      refine (CJ.out _ _ _ _ _ HO3.out HR3.out).mono ?_
      rintro e w4 ⟨R4, c4, g4, rfl, _, _, ho4, hb4⟩
      have HO4 := Lib.hid ho4.row
      have HB4 := Lib.hid (next6 HB3.out hb4)
      clear ho4 hb4
      go_wp2_with fail
      go_roundw
      case rel => exact ⟨k + 1, by omega, by go_num, ⟨R4, c4, J, rfl, hJ, HO4, HF2⟩, HB4⟩
      case measure => simp [intOf]; omega
    · have hk' : k = ks.length := by omega
      have hli : ¬ (ks.length : Int) < (ks.length : Int) := by omega
      have hx : xs = P := by
        have h1 := HF.out
        rw [hk', List.drop_length, Ty.flatJ_nil] at h1
        exact h1
      subst hk'
      subst hx
      clear HF HP
      have HBW := Lib.hid (next6 HB2.out HB.out)
      have hz2 : w.heap.size ≤ wr.heap.size := HBW.out.size
      have HL := Lib.hid (OwnF.lit (base := w.heap.size) wr hz2 [1] (by decide))
      have HAP := Lib.hid (fun ty => app6 (c2 := c) HL.out (HO.out.below (below1 _ _)) (Nat.le_trans hz2 (below1 _ _).size) (by show 1 + xs.length ≤ 1048576; omega) ty)
      go_wp2_with (at_builtin; refine wpList_append_ex _ rfl _ _ 41 rfl (.slice (some ⟨wr.heap.size, 0, none⟩) 1 1) (.slice R xs.length c) rfl rfl HAP.out ?_; rintro v' w5 ⟨R5, c5, rfl, ho5, hg5⟩; have HO5 := Lib.hid ho5; have HB5 : Hid (Below w.heap.size w w5) := Lib.hid ((HBW.out.alloc hz2 _).grown hg5 (Nat.le_trans hz2 (below1 _ _).size) (fun g hg => (HL.out.2.lt g hg).1)); clear ho5 hg5)
      go_ret
      exact ⟨R5, _, c5, rfl, HO5.out, HB5.out⟩
set_option maxHeartbeats 2000000 in
set_option maxRecDepth 100000 in
theorem flatS_17 (T : Ty) (e : T.kind = 17) (ho : T.Ok) (lo : Nat) (IK : ∀ (i : Nat) (t : Ty), T.kids[i]? = some t → FlatS lo t) (hk60 : ∀ (i : Nat) (t : Ty), T.kids[i]? = some t → t.flat.length ≤ 60) (hl : T.kids.length ≤ 1000) : FlatS lo T := by
  intro A B ca cb w hat
  have hv : T.flat = 1 :: Ty.flatJ [] T.cases := by rw [flatJ_cases (by omega), Ty.flat_eq, e]; rfl
  have CS := Lib.hid (fun W (h : Ty.At W lo T A B) => specCases_any T ho A B ca cb lo W h)
  rw [e] at CS
  have HA := Lib.hid hat
  have HI : Hid (∀ (i : Nat) (t : Ty), T.cases[i]? = some t → FlatS lo t) := Lib.hid (fun i t ht => by
    rcases case_inS ht with rfl | ⟨j, hj⟩
    · exact flatS_1 unitTy rfl lo
    · exact IK j t hj)
  have H60 : Hid (∀ (i : Nat) (t : Ty), T.cases[i]? = some t → t.flat.length ≤ 60) := Lib.hid (fun i t ht => by
    rcases case_inS ht with rfl | ⟨j, hj⟩
    · rw [unit_flat]
      exact Nat.zero_le _
    · exact hk60 j t hj)
  have hcl : T.cases.length ≤ 1001 := by
    unfold Ty.cases
    (repeat' split) <;> (try simp only [List.length_cons]) <;> omega
  rw [hv, e]
  clear hv e hat IK hk60 hl ho
  generalize T.cases = ks at *
  generalize T.labels.length = nl at *
  generalize T.kids.length = nk at *
  generalize T.name = nm at *
  obtain ⟨P, hP⟩ : ∃ P, Ty.flatJ [] ks = P := ⟨_, rfl⟩
  rw [hP]
  have HP := Lib.hid hP
  clear hP
  go_enter Try.func41, Try.ntmps41
  go_wp2_with fail
  go_at_call 30
  refine (CS.out _ (HA.out.below (below1 _ _))).mono ?_
  rintro e w2 ⟨R2, c2, rfl, hr2, hb2⟩
  have H := Lib.hid hr2
  have HB2 := Lib.hid (next6 (below1 _ _) hb2)
  clear hr2 hb2
  go_wp2_with fail
  go_loopw [4, 5] (fun v i wr => ∃ k : Nat, k ≤ ks.length ∧ i = .int .i64 k ∧ (∃ (R : Option Addr) (c : Nat) (xs : List Int), v = .slice R xs.length c ∧ xs.length ≤ 60 ∧ Hid (Row6 wr xs R) ∧ Hid (Ty.flatJ xs (ks.drop k) = P)) ∧ Hid (Below w2.heap.size w2 wr)) (fun _ i _ => ks.length - (intOf i).toNat)
  case atStart => exact ⟨0, Nat.zero_le _, rfl, ⟨_, _, [], rfl, Nat.zero_le _, (fun hp => absurd hp (by simp)), Lib.hid (by rw [List.drop_zero]; exact HP.out)⟩, below1 _ _⟩
  case round =>
    obtain ⟨k, hk, rfl, ⟨R, c, xs, rfl, hn, HO, HF⟩, HB⟩ := hrel
    by_cases hlt : k < ks.length
    · obtain ⟨b, o, t, A', B', ca', cb', rfl, _, htk, hc⟩ := (H.out.below HB.out).at_ hlt
      have C := Lib.hid (HI.out k t htk A' B' ca' cb')
      have h60 := H60.out k t htk
      have hlti : (k : Int) < (ks.length : Int) := by omega
      have hd : ks.drop k = t :: ks.drop (k + 1) := by
        rw [List.drop_eq_getElem_cons hlt]
        congr 1
        rw [List.getElem?_eq_getElem hlt] at htk
        exact Option.some.inj htk
      have HF2 : Hid (Ty.flatJ (join6 xs t.flat) (ks.drop (k + 1)) = P) := Lib.hid (by rw [← Ty.flatJ_cons, ← hd]; exact HF.out)
      have HTR := Lib.hid hc.tree
      obtain ⟨c0, c1, c2', c3, _⟩ := hc
      have hj := join6_len xs t.flat
      clear htk hd HF
      generalize t.flat = Q at *
      have CJ := Lib.hid (fun R R' c c' W h h' => l12Join_any xs Q (by omega) (by omega) R R' c c' W h h')
      generalize join6 xs Q = J at *
      have hJ : J.length ≤ 60 := by omega
      clear hj
      go_wp2_with fail
      go_at_call 41
      refine (C.out _ HTR.out).mono ?_
      rintro e w3 ⟨R3, n3, c3', rfl, ho3, hb3⟩
      obtain ⟨rfl, hr3⟩ := ho3.row
      have HB3 := Lib.hid (next6 HB.out hb3)
      have HO3 := Lib.hid (HO.out.below hb3)
      have HR3 := Lib.hid hr3
      clear hb3 ho3 hr3 c0 c1 c2' c3
      go_wp2_with fail
      go_at_call 48
      refine (CJ.out _ _ _ _ _ HO3.out HR3.out).mono ?_
      rintro e w4 ⟨R4, c4, g4, rfl, _, _, ho4, hb4⟩
      have HO4 := Lib.hid ho4.row
      have HB4 := Lib.hid (next6 HB3.out hb4)
      clear ho4 hb4
      go_wp2_with fail
      go_roundw
      case rel => exact ⟨k + 1, by omega, by go_num, ⟨R4, c4, J, rfl, hJ, HO4, HF2⟩, HB4⟩
      case measure => simp [intOf]; omega
    · have hk' : k = ks.length := by omega
      have hli : ¬ (ks.length : Int) < (ks.length : Int) := by omega
      have hx : xs = P := by
        have h1 := HF.out
        rw [hk', List.drop_length, Ty.flatJ_nil] at h1
        exact h1
      subst hk'
      subst hx
      clear HF HP
      have HBW := Lib.hid (next6 HB2.out HB.out)
      have hz2 : w.heap.size ≤ wr.heap.size := HBW.out.size
      have HL := Lib.hid (OwnF.lit (base := w.heap.size) wr hz2 [1] (by decide))
      have HAP := Lib.hid (fun ty => app6 (c2 := c) HL.out (HO.out.below (below1 _ _)) (Nat.le_trans hz2 (below1 _ _).size) (by show 1 + xs.length ≤ 1048576; omega) ty)
      go_wp2_with (at_builtin; refine wpList_append_ex _ rfl _ _ 41 rfl (.slice (some ⟨wr.heap.size, 0, none⟩) 1 1) (.slice R xs.length c) rfl rfl HAP.out ?_; rintro v' w5 ⟨R5, c5, rfl, ho5, hg5⟩; have HO5 := Lib.hid ho5; have HB5 : Hid (Below w.heap.size w w5) := Lib.hid ((HBW.out.alloc hz2 _).grown hg5 (Nat.le_trans hz2 (below1 _ _).size) (fun g hg => (HL.out.2.lt g hg).1)); clear ho5 hg5)
      go_ret
      exact ⟨R5, _, c5, rfl, HO5.out, HB5.out⟩
theorem flatS_all (T : Ty) (lo : Nat) (ho : T.Ok) (hT : T.wt ≤ 1048576) : FlatS lo T := by
  induction T using Ty.kidInd with
  | h T ih =>
    obtain ⟨_, _, q3, _, _⟩ := Ty.len_le hT
    have IK : ∀ (i : Nat) (t : Ty), T.kids[i]? = some t → FlatS lo t := fun i t ht => ih i t ht (okKid ho ht) (q3 i t ht)
    have h60 : ∀ (i : Nat) (t : Ty), T.kids[i]? = some t → t.flat.length ≤ 60 := fun i t ht => (okKid ho ht).flat
    have hl : T.kids.length ≤ 1000 := by
      have h1 := Ty.length_le T.kids
      have h2 := T.size_eq
      have h3 := ho.1.2
      omega
    by_cases e1 : T.kind = 1
    · exact flatS_1 T e1 lo
    by_cases e9 : T.kind = 9
    · exact flatS_9 T e9 lo
    by_cases e11 : T.kind = 11
    · exact flatS_11 T e11 lo
    by_cases e12 : T.kind = 12
    · exact flatS_12 T e12 lo
    by_cases e15 : T.kind = 15
    · exact flatS_15 T e15 lo IK h60 hl
    by_cases e16 : T.kind = 16
    · exact flatS_16 T e16 lo IK h60 hl
    by_cases e13 : T.kind = 13
    · exact flatS_13 T e13 ho lo IK h60 hl
    by_cases e14 : T.kind = 14
    · exact flatS_14 T e14 ho lo IK h60 hl
    by_cases e17 : T.kind = 17
    · exact flatS_17 T e17 ho lo IK h60 hl
    exact flatS_one T ⟨e1, e9, e11, e12, e15, e16, e13, e14, e17⟩ lo
end Go.Proofs.Ytlmmbheamicdaab
