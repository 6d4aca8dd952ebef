/-
  KindT, KindC: in one text.
-/
import Derived.Test.YtlmmbheamicdaabMSq
import Derived.Test.YtlmmbheamicdaabFlatT
import Derived.Test.YtlmmbheamicdaabMRw
import Derived.Test.YtlmmbheamicdaabJoinI0
namespace Go.Proofs.Ytlmmbheamicdaab
open Go.ChangeShapes Go.WideShapes Go.ChangeAt Go.RowKit Go.Deep

set_option maxHeartbeats 1000000 in
theorem kindI_1 (T : Ty) (e : T.kind = 1) (lo : Nat) : KindI lo T := by
  intro A B ca cb w _
  have hv : T.flat = [] := by rw [Ty.flat_eq, e]; rfl
  rw [hv, e]
  clear hv e
  generalize T.labels.length = nl at *
  generalize T.kids.length = nk at *
  generalize T.name = nm at *
  go_enter Try.func53, Try.ntmps53
  go_wp2_with fail
  go_ret
  exact ⟨none, 0, 0, rfl, ⟨rfl, World.ownsRow_nil _ _ _ _⟩, below1 _ _⟩
set_option maxHeartbeats 1000000 in
theorem kindI_9 (T : Ty) (e : T.kind = 9) (lo : Nat) : KindI lo T := by
  intro A B ca cb w _
  have hv : T.flat = [2] := by rw [Ty.flat_eq, e]; rfl
  rw [hv, e]
  clear hv e
  generalize T.labels.length = nl at *
  generalize T.kids.length = nk at *
  generalize T.name = nm at *
  go_enter Try.func53, Try.ntmps53
  go_wp2_with fail
  go_ret
  exact ⟨_, _, _, rfl, OwnF.lit2 w _ [2] (by decide), (below1 _ _).alloc (below1 _ _).size _⟩
set_option maxHeartbeats 1000000 in
theorem kindI_11 (T : Ty) (e : T.kind = 11) (lo : Nat) : KindI lo T := by
  intro A B ca cb w _
  have hv : T.flat = [1, 1] := by rw [Ty.flat_eq, e]; rfl
  rw [hv, e]
  clear hv e
  generalize T.labels.length = nl at *
  generalize T.kids.length = nk at *
  generalize T.name = nm at *
  go_enter Try.func53, Try.ntmps53
  go_wp2_with fail
  go_ret
  exact ⟨_, _, _, rfl, OwnF.lit2 w _ [1, 1] (by decide), (below1 _ _).alloc (below1 _ _).size _⟩
set_option maxHeartbeats 1000000 in
theorem kindI_12 (T : Ty) (e : T.kind = 12) (lo : Nat) : KindI lo T := by
  intro A B ca cb w _
  have hv : T.flat = [1, 1] := by rw [Ty.flat_eq, e]; rfl
  rw [hv, e]
  clear hv e
  generalize T.labels.length = nl at *
  generalize T.kids.length = nk at *
  generalize T.name = nm at *
  go_enter Try.func53, Try.ntmps53
  go_wp2_with fail
  go_ret
  exact ⟨_, _, _, rfl, OwnF.lit2 w _ [1, 1] (by decide), (below1 _ _).alloc (below1 _ _).size _⟩
set_option maxHeartbeats 1000000 in
theorem kindI_one (T : Ty) (h : T.kind ≠ 1 ∧ T.kind ≠ 9 ∧ T.kind ≠ 11 ∧ T.kind ≠ 12 ∧ T.kind ≠ 15 ∧ T.kind ≠ 16 ∧ T.kind ≠ 13 ∧ T.kind ≠ 14 ∧ T.kind ≠ 17) (lo : Nat) : KindI lo T := by
  intro A B ca cb w _
  obtain ⟨h1, h2, h3, h4, h5, h6, h7, h8, h9⟩ := h
  have hv : T.flat = [1] := by
    rw [Ty.flat_eq, if_neg h1, if_neg h2, if_neg (by omega), if_neg (by omega), if_neg (by omega)]
  rw [hv]
  clear hv
  generalize T.kind = k at *
  have d1 : (k == 1) = false := by rw [beq_eq_false_iff_ne]; exact h1
  have d2 : (k == 9) = false := by rw [beq_eq_false_iff_ne]; exact h2
  have d3 : (k == 11) = false := by rw [beq_eq_false_iff_ne]; exact h3
  have d4 : (k == 12) = false := by rw [beq_eq_false_iff_ne]; exact h4
  have d5 : (k == 15) = false := by rw [beq_eq_false_iff_ne]; exact h5
  have d6 : (k == 16) = false := by rw [beq_eq_false_iff_ne]; exact h6
  have d7 : (k == 13) = false := by rw [beq_eq_false_iff_ne]; exact h7
  have d8 : (k == 14) = false := by rw [beq_eq_false_iff_ne]; exact h8
  have d9 : (k == 17) = false := by rw [beq_eq_false_iff_ne]; exact h9
  clear h1 h2 h3 h4 h5 h6 h7 h8 h9
  generalize T.labels.length = nl at *
  generalize T.kids.length = nk at *
  generalize T.name = nm at *
  go_enter Try.func53, Try.ntmps53
  go_wp2_with fail
  go_ret
  exact ⟨_, _, _, rfl, OwnF.lit2 w _ [1] (by decide), (below1 _ _).alloc (below1 _ _).size _⟩
set_option maxHeartbeats 1000000 in
theorem kindI_15 (T : Ty) (e : T.kind = 15) (lo : Nat) (IK : ∀ (i : Nat) (t : Ty), T.kids[i]? = some t → KindI lo t) (hok : ∀ (i : Nat) (t : Ty), T.kids[i]? = some t → t.flat.length ≤ 60) (hl : T.kids.length ≤ 1000) : KindI lo T := by
  intro A B ca cb w hat
  have hv : T.flat = Ty.flats T.kids := by rw [Ty.flat_eq, e]; rfl
  have CF := Lib.hid (fun R m c W => flatKinds_any R m c W)
  have CC := Lib.hid (fun Bx W hB (h : Ty.RowAt W lo T.kids B) => collectKinds_any T.kids lo IK hok hl B cb Bx W hB h)
  have HR := Lib.hid hat.rowAt
  rw [hv, e]
  clear hv e hat IK hok hl
  generalize Ty.flats T.kids = P at *
  go_enter Try.func53, Try.ntmps53
  go_wp2_with fail
  go_at_call 44
  refine (CF.out _ _ _ _).mono ?_
  rintro e w2 ⟨rfl, rfl⟩
  have HB2 := Lib.hid (below2 w (.cells #[.int .i64 15, .string T.name, .slice A T.labels.length ca, .slice B T.kids.length cb] 30) (.cells #[.slice B T.kids.length cb] 27))
  go_wp2_with fail
  go_at_call 43
  refine (CC.out _ _ (by go_simp) (HR.out.below HB2.out)).mono ?_
  rintro e w3 ⟨R3, n3, c3, rfl, ho3, hb3⟩
  have HO3 := Lib.hid ho3
  have HB3 := Lib.hid (next6 HB2.out hb3)
  have hz := HB2.out.size
  clear ho3 hb3
  go_wp2_with fail
  go_ret
  exact ⟨R3, n3, c3, rfl, HO3.out.down hz, HB3.out⟩
set_option maxHeartbeats 1000000 in
theorem kindI_16 (T : Ty) (e : T.kind = 16) (lo : Nat) (IK : ∀ (i : Nat) (t : Ty), T.kids[i]? = some t → KindI lo t) (hok : ∀ (i : Nat) (t : Ty), T.kids[i]? = some t → t.flat.length ≤ 60) (hl : T.kids.length ≤ 1000) : KindI lo T := by
  intro A B ca cb w hat
  have hv : T.flat = Ty.flats T.kids := by rw [Ty.flat_eq, e]; rfl
  have CF := Lib.hid (fun R m c W => flatKinds_any R m c W)
  have CC := Lib.hid (fun Bx W hB (h : Ty.RowAt W lo T.kids B) => collectKinds_any T.kids lo IK hok hl B cb Bx W hB h)
  have HR := Lib.hid hat.rowAt
  rw [hv, e]
  clear hv e hat IK hok hl
  generalize Ty.flats T.kids = P at *
  go_enter Try.func53, Try.ntmps53
  go_wp2_with fail
  go_at_call 44
  refine (CF.out _ _ _ _).mono ?_
  rintro e w2 ⟨rfl, rfl⟩
  have HB2 := Lib.hid (below2 w (.cells #[.int .i64 16, .string T.name, .slice A T.labels.length ca, .slice B T.kids.length cb] 30) (.cells #[.slice B T.kids.length cb] 27))
  go_wp2_with fail
  go_at_call 43
  refine (CC.out _ _ (by go_simp) (HR.out.below HB2.out)).mono ?_
  rintro e w3 ⟨R3, n3, c3, rfl, ho3, hb3⟩
  have HO3 := Lib.hid ho3
  have HB3 := Lib.hid (next6 HB2.out hb3)
  have hz := HB2.out.size
  clear ho3 hb3
  go_wp2_with fail
  go_ret
  exact ⟨R3, n3, c3, rfl, HO3.out.down hz, HB3.out⟩
end Go.Proofs.Ytlmmbheamicdaab

namespace Go.Proofs.Ytlmmbheamicdaab
open Go.ChangeShapes Go.WideShapes Go.ChangeAt Go.RowKit Go.Deep

theorem KOk.nil : KOk [] := fun i n h => by simp at h
theorem KOk.append {P Q : List Int} (h : KOk P) (k : KOk Q) : KOk (P ++ Q) := fun i n hn => by
  rcases List.mem_append.1 (List.mem_of_getElem? hn) with hm | hm
  · obtain ⟨j, hj⟩ := List.getElem?_of_mem hm
    exact h j n hj
  · obtain ⟨j, hj⟩ := List.getElem?_of_mem hm
    exact k j n hj
theorem KOk.join {P Q : List Int} (h : KOk P) (k : KOk Q) : KOk (join6 P Q) := fun i n hn => by
  rw [join6_get] at hn
  cases hp : P[i]? with
  | none =>
    cases hq : Q[i]? with
    | none => rw [hp, hq] at hn; cases hn
    | some y =>
      rw [hp, hq] at hn
      obtain rfl : y = n := Option.some.inj hn
      exact k i y hq
  | some x =>
    cases hq : Q[i]? with
    | none =>
      rw [hp, hq] at hn
      obtain rfl : x = n := Option.some.inj hn
      exact h i x hp
    | some y =>
      rw [hp, hq] at hn
      obtain rfl : max x y = n := Option.some.inj hn
      have h1 := h i x hp
      have h2 := k i y hq
      unfold isK at *
      omega
theorem flats_kok : ∀ (ks : List Ty) (_ : ∀ (i : Nat) (t : Ty), ks[i]? = some t → KOk t.flat), KOk (Ty.flats ks)
  | [], _ => by rw [Ty.flats_nil]; exact KOk.nil
  | t :: ts, h => by
    rw [Ty.flats_cons]
    exact (h 0 t rfl).append (flats_kok ts (fun i u hu => h (i + 1) u hu))
theorem flatJ_kok : ∀ (ks : List Ty) (_ : ∀ (i : Nat) (t : Ty), ks[i]? = some t → KOk t.flat) (acc : List Int), KOk acc → KOk (Ty.flatJ acc ks)
  | [], _, acc, ha => by rw [Ty.flatJ_nil]; exact ha
  | t :: ts, h, acc, ha => by
    rw [Ty.flatJ_cons]
    exact flatJ_kok ts (fun i u hu => h (i + 1) u hu) _ (ha.join (h 0 t rfl))
theorem kOne : KOk [1] := fun i n h => by
  cases i with
  | zero => simp at h; exact Or.inl h.symm
  | succ i => simp at h
theorem kTwo : KOk [2] := fun i n h => by
  cases i with
  | zero => simp at h; exact Or.inr h.symm
  | succ i => simp at h
theorem Ty.flat_kok (T : Ty) : KOk T.flat := by
  induction T using Ty.kidInd with
  | h T ih =>
    rw [Ty.flat_eq]
    (repeat' split)
    · exact KOk.nil
    · exact kTwo
    · exact kOne.append kOne
    · exact flats_kok _ ih
    · exact kOne.append (flatJ_kok _ ih [] KOk.nil)
    · exact kOne
theorem implJoin_any (P Q : List Int) (hp : P.length ≤ 1048576) (hq : Q.length ≤ 1048576) (kp : KOk P) (kq : KOk Q) (R R' : Option Addr) (c c' : Nat) (w : World) (h : Row6 w P R) (h' : Row6 w Q R') :
    Calls Try.prog 62 #[.slice R P.length c, .slice R' Q.length c'] w (Ans6 (join6 P Q) w) := by
  by_cases hlen : P.length < Q.length
  · exact implJoin_swap P Q hp hq kp kq hlen R R' c c' w h h'
  · exact implJoin_stay P Q hp hq kp kq hlen R R' c c' w h h'

/-- A row that may be read. -/
def JPost (P : List Int) (w : World) (e : Ending) (w' : World) : Prop := ∃ (R : Option Addr) (c : Nat), e = .returned (.slice R P.length c) ∧ Row6 w' P R ∧ Below w.heap.size w w'
set_option maxHeartbeats 2000000 in
set_option maxRecDepth 100000 in
theorem joinedKinds_any (ks : List Ty) (lo : Nat) (KI : ∀ (i : Nat) (t : Ty), ks[i]? = some t → KindI lo t) (h60 : ∀ (i : Nat) (t : Ty), ks[i]? = some t → t.flat.length ≤ 60) (hl : ks.length ≤ 1001) (B : Option Addr) (cb : Nat) (w : World) (h : Ty.RowAt w lo ks B) :
    Calls Try.prog 60 #[.slice B ks.length cb] w (JPost (Ty.flatJ [] ks) w) := by
  have H := Lib.hid h
  have HI := Lib.hid KI
  have H60 := Lib.hid h60
  clear h KI h60
  obtain ⟨P, hP⟩ : ∃ P, Ty.flatJ [] ks = P := ⟨_, rfl⟩
  rw [hP]
  have HP := Lib.hid hP
  clear hP
  go_enter Try.func60, Try.ntmps60
  go_wp2_with fail
  go_loopw [3, 8] (fun v i wr => ∃ k : Nat, k ≤ ks.length ∧ i = .int .i64 k ∧ (∃ (R : Option Addr) (c : Nat) (xs : List Int), v = .slice R xs.length c ∧ xs.length ≤ 60 ∧ Hid (KOk xs) ∧ Hid (Row6 wr xs R) ∧ Hid (Ty.flatJ xs (ks.drop k) = P)) ∧ Hid (Below w.heap.size w wr)) (fun _ i _ => ks.length - (intOf i).toNat)
  case atStart => exact ⟨0, Nat.zero_le _, rfl, ⟨none, 0, [], rfl, Nat.zero_le _, KOk.nil, (fun hp => absurd hp (by simp)), Lib.hid (by rw [List.drop_zero]; exact HP.out)⟩, Below.refl _ _⟩
  case round =>
    obtain ⟨k, hk, rfl, ⟨R, c, xs, rfl, hn, HK, HO, HF⟩, HB⟩ := hrel
    by_cases hlt : k < ks.length
    · obtain ⟨b, o, t, A', B', ca', cb', rfl, _, htk, hc⟩ := (H.out.below HB.out).at_ hlt
      have C := Lib.hid (HI.out k t htk A' B' ca' cb')
      have h60 := H60.out k t htk
      have hlti : (k : Int) < (ks.length : Int) := by omega
      have hd : ks.drop k = t :: ks.drop (k + 1) := by
        rw [List.drop_eq_getElem_cons hlt]
        congr 1
        rw [List.getElem?_eq_getElem hlt] at htk
        exact Option.some.inj htk
      have HF2 : Hid (Ty.flatJ (join6 xs t.flat) (ks.drop (k + 1)) = P) := Lib.hid (by rw [← Ty.flatJ_cons, ← hd]; exact HF.out)
      have HTR := Lib.hid hc.tree
      obtain ⟨c0, c1, c2', c3, _⟩ := hc
      have hj := join6_len xs t.flat
      have hkq := t.flat_kok
      have HKJ := Lib.hid (HK.out.join hkq)
      have CJ := Lib.hid (fun R R' c c' W h h' => implJoin_any xs t.flat (by omega) (by omega) HK.out hkq R R' c c' W h h')
      clear htk hd HF hkq
      generalize t.flat = Q at *
      generalize join6 xs Q = J at *
      have hJ : J.length ≤ 60 := by omega
      clear hj
      go_wp2_with fail
      go_at_call 53
      refine (C.out _ (HTR.out.below (below1 _ _))).mono ?_
      rintro e w3 ⟨R3, n3, c3', rfl, ho3, hb3⟩
      obtain ⟨rfl, hr3⟩ := ho3.row
      have HB3 := Lib.hid (next6 HB.out (next6 (below1 _ _) hb3))
      have HO3 := Lib.hid (HO.out.below (next6 (below1 _ _) hb3))
      have HR3 := Lib.hid hr3
      clear hb3 ho3 hr3 c0 c1 c2' c3
      go_wp2_with fail
      go_at_call 62
      refine (CJ.out _ _ _ _ _ HO3.out HR3.out).mono ?_
      rintro e w4 ⟨R4, c4, g4, rfl, _, _, ho4, hb4⟩
      have HO4 := Lib.hid ho4.row
      have HB4 := Lib.hid (next6 HB3.out hb4)
      clear ho4 hb4
      go_wp2_with fail
      go_roundw
      case rel => exact ⟨k + 1, by omega, by go_num, ⟨R4, c4, J, rfl, hJ, HKJ, HO4, HF2⟩, HB4⟩
      case measure => simp [intOf]; omega
    · have hk' : k = ks.length := by omega
      have hli : ¬ (ks.length : Int) < (ks.length : Int) := by omega
      have hx : xs = P := by
        have h1 := HF.out
        rw [hk', List.drop_length, Ty.flatJ_nil] at h1
        exact h1
      subst hk'
      subst hx
      clear HF HP
      go_wp2_with fail
      go_ret
      exact ⟨R, c, rfl, HO.out, HB.out⟩
set_option maxHeartbeats 2000000 in
set_option maxRecDepth 100000 in
theorem kindI_13 (T : Ty) (e : T.kind = 13) (ho : T.Ok) (lo : Nat) (IK : ∀ (i : Nat) (t : Ty), T.kids[i]? = some t → KindI lo t) (hk60 : ∀ (i : Nat) (t : Ty), T.kids[i]? = some t → t.flat.length ≤ 60) (hl : T.kids.length ≤ 1000) : KindI lo T := by
  intro A B ca cb w hat
  have hv : T.flat = 1 :: Ty.flatJ [] T.cases := by rw [flatJ_cases (by omega), Ty.flat_eq, e]; rfl
  have h61 := ho.flat
  rw [hv, List.length_cons] at h61
  have CS := Lib.hid (fun W (h : Ty.At W lo T A B) => implCases_any T ho A B ca cb lo W h)
  rw [e] at CS
  have HA := Lib.hid hat
  have hcl : T.cases.length ≤ 1001 := by
    unfold Ty.cases
    (repeat' split) <;> (try simp only [List.length_cons]) <;> omega
  have CJ := Lib.hid (fun R cb W h => joinedKinds_any T.cases lo (fun i t ht => by
    rcases case_inS ht with rfl | ⟨j, hj⟩
    · exact kindI_1 unitTy rfl lo
    · exact IK j t hj) (fun i t ht => by
    rcases case_inS ht with rfl | ⟨j, hj⟩
    · rw [unit_flat]
      exact Nat.zero_le _
    · exact hk60 j t hj) hcl R cb W h)
  rw [hv, e]
  clear hv e hat IK hk60 hl ho hcl
  generalize Ty.flatJ [] T.cases = P at *
  generalize T.cases.length = nc at *
  generalize T.labels.length = nl at *
  generalize T.kids.length = nk at *
  generalize T.name = nm at *
  go_enter Try.func53, Try.ntmps53
  go_wp2_with fail
  go_at_call 33
  refine (CS.out _ (HA.out.below (below2 _ _ _))).mono ?_
  rintro e w2 ⟨R2, c2, rfl, hr2, hb2⟩
  have HL2 := Lib.hid ((OwnF.lit2 w (.cells #[.int .i64 13, .string nm, .slice A nl ca, .slice B nk cb] 30) [1] (by decide)).keep hb2)
  have HB2 := Lib.hid (next6 (below2 _ _ _) hb2)
  have HR2 := Lib.hid hr2
  clear hr2 hb2
  go_wp2_with fail
  go_at_call 60
  refine (CJ.out _ _ _ HR2.out).mono ?_
  rintro e w3 ⟨R3, c3, rfl, hr3, hb3⟩
  have HL3 := Lib.hid (HL2.out.keep hb3)
  have HB3 := Lib.hid (next6 HB2.out hb3)
  have HAP := Lib.hid (fun ty => app6 (c2 := c3) HL3.out hr3 HB3.out.size (by show 1 + P.length ≤ 1048576; omega) ty)
  clear hr3 hb3
  go_wp2_with (at_builtin; refine wpList_append_ex _ rfl _ _ 41 rfl (.slice (some ⟨w.heap.size + 1, 0, none⟩) 1 1) (.slice R3 P.length c3) rfl rfl HAP.out ?_; rintro v' w5 ⟨R5, c5, rfl, ho5, hg5⟩; have HO5 := Lib.hid ho5; have HB5 : Hid (Below w.heap.size w w5) := Lib.hid (HB3.out.grown hg5 HB3.out.size (fun g hg => (HL3.out.2.lt g hg).1)); clear ho5 hg5)
  go_ret
  exact ⟨R5, _, c5, rfl, HO5.out, HB5.out⟩
set_option maxHeartbeats 2000000 in
set_option maxRecDepth 100000 in
theorem kindI_14 (T : Ty) (e : T.kind = 14) (ho : T.Ok) (lo : Nat) (IK : ∀ (i : Nat) (t : Ty), T.kids[i]? = some t → KindI lo t) (hk60 : ∀ (i : Nat) (t : Ty), T.kids[i]? = some t → t.flat.length ≤ 60) (hl : T.kids.length ≤ 1000) : KindI lo T := by
  intro A B ca cb w hat
  have hv : T.flat = 1 :: Ty.flatJ [] T.cases := by rw [flatJ_cases (by omega), Ty.flat_eq, e]; rfl
  have h61 := ho.flat
  rw [hv, List.length_cons] at h61
  have CS := Lib.hid (fun W (h : Ty.At W lo T A B) => implCases_any T ho A B ca cb lo W h)
  rw [e] at CS
  have HA := Lib.hid hat
  have hcl : T.cases.length ≤ 1001 := by
    unfold Ty.cases
    (repeat' split) <;> (try simp only [List.length_cons]) <;> omega
  have CJ := Lib.hid (fun R cb W h => joinedKinds_any T.cases lo (fun i t ht => by
    rcases case_inS ht with rfl | ⟨j, hj⟩
    · exact kindI_1 unitTy rfl lo
    · exact IK j t hj) (fun i t ht => by
    rcases case_inS ht with rfl | ⟨j, hj⟩
    · rw [unit_flat]
      exact Nat.zero_le _
    · exact hk60 j t hj) hcl R cb W h)
  rw [hv, e]
  clear hv e hat IK hk60 hl ho hcl
  generalize Ty.flatJ [] T.cases = P at *
  generalize T.cases.length = nc at *
  generalize T.labels.length = nl at *
  generalize T.kids.length = nk at *
  generalize T.name = nm at *
  go_enter Try.func53, Try.ntmps53
  go_wp2_with fail
  go_at_call 33
  refine (CS.out _ (HA.out.below (below2 _ _ _))).mono ?_
  rintro e w2 ⟨R2, c2, rfl, hr2, hb2⟩
  have HL2 := Lib.hid ((OwnF.lit2 w (.cells #[.int .i64 14, .string nm, .slice A nl ca, .slice B nk cb] 30) [1] (by decide)).keep hb2)
  have HB2 := Lib.hid (next6 (below2 _ _ _) hb2)
  have HR2 := Lib.hid hr2
  clear hr2 hb2
  go_wp2_with fail
  go_at_call 60
  refine (CJ.out _ _ _ HR2.out).mono ?_
  rintro e w3 ⟨R3, c3, rfl, hr3, hb3⟩
  have HL3 := Lib.hid (HL2.out.keep hb3)
  have HB3 := Lib.hid (next6 HB2.out hb3)
  have HAP := Lib.hid (fun ty => app6 (c2 := c3) HL3.out hr3 HB3.out.size (by show 1 + P.length ≤ 1048576; omega) ty)
  clear hr3 hb3
  go_wp2_with (at_builtin; refine wpList_append_ex _ rfl _ _ 41 rfl (.slice (some ⟨w.heap.size + 1, 0, none⟩) 1 1) (.slice R3 P.length c3) rfl rfl HAP.out ?_; rintro v' w5 ⟨R5, c5, rfl, ho5, hg5⟩; have HO5 := Lib.hid ho5; have HB5 : Hid (Below w.heap.size w w5) := Lib.hid (HB3.out.grown hg5 HB3.out.size (fun g hg => (HL3.out.2.lt g hg).1)); clear ho5 hg5)
  go_ret
  exact ⟨R5, _, c5, rfl, HO5.out, HB5.out⟩
set_option maxHeartbeats 2000000 in
set_option maxRecDepth 100000 in
theorem kindI_17 (T : Ty) (e : T.kind = 17) (ho : T.Ok) (lo : Nat) (IK : ∀ (i : Nat) (t : Ty), T.kids[i]? = some t → KindI lo t) (hk60 : ∀ (i : Nat) (t : Ty), T.kids[i]? = some t → t.flat.length ≤ 60) (hl : T.kids.length ≤ 1000) : KindI lo T := by
  intro A B ca cb w hat
  have hv : T.flat = 1 :: Ty.flatJ [] T.cases := by rw [flatJ_cases (by omega), Ty.flat_eq, e]; rfl
  have h61 := ho.flat
  rw [hv, List.length_cons] at h61
  have CS := Lib.hid (fun W (h : Ty.At W lo T A B) => implCases_any T ho A B ca cb lo W h)
  rw [e] at CS
  have HA := Lib.hid hat
  have hcl : T.cases.length ≤ 1001 := by
    unfold Ty.cases
    (repeat' split) <;> (try simp only [List.length_cons]) <;> omega
  have CJ := Lib.hid (fun R cb W h => joinedKinds_any T.cases lo (fun i t ht => by
    rcases case_inS ht with rfl | ⟨j, hj⟩
    · exact kindI_1 unitTy rfl lo
    · exact IK j t hj) (fun i t ht => by
    rcases case_inS ht with rfl | ⟨j, hj⟩
    · rw [unit_flat]
      exact Nat.zero_le _
    · exact hk60 j t hj) hcl R cb W h)
  rw [hv, e]
  clear hv e hat IK hk60 hl ho hcl
  generalize Ty.flatJ [] T.cases = P at *
  generalize T.cases.length = nc at *
  generalize T.labels.length = nl at *
  generalize T.kids.length = nk at *
  generalize T.name = nm at *
  go_enter Try.func53, Try.ntmps53
  go_wp2_with fail
  go_at_call 33
  refine (CS.out _ (HA.out.below (below2 _ _ _))).mono ?_
  rintro e w2 ⟨R2, c2, rfl, hr2, hb2⟩
  have HL2 := Lib.hid ((OwnF.lit2 w (.cells #[.int .i64 17, .string nm, .slice A nl ca, .slice B nk cb] 30) [1] (by decide)).keep hb2)
  have HB2 := Lib.hid (next6 (below2 _ _ _) hb2)
  have HR2 := Lib.hid hr2
  clear hr2 hb2
  go_wp2_with fail
  go_at_call 60
  refine (CJ.out _ _ _ HR2.out).mono ?_
  rintro e w3 ⟨R3, c3, rfl, hr3, hb3⟩
  have HL3 := Lib.hid (HL2.out.keep hb3)
  have HB3 := Lib.hid (next6 HB2.out hb3)
  have HAP := Lib.hid (fun ty => app6 (c2 := c3) HL3.out hr3 HB3.out.size (by show 1 + P.length ≤ 1048576; omega) ty)
  clear hr3 hb3
  go_wp2_with (at_builtin; refine wpList_append_ex _ rfl _ _ 41 rfl (.slice (some ⟨w.heap.size + 1, 0, none⟩) 1 1) (.slice R3 P.length c3) rfl rfl HAP.out ?_; rintro v' w5 ⟨R5, c5, rfl, ho5, hg5⟩; have HO5 := Lib.hid ho5; have HB5 : Hid (Below w.heap.size w w5) := Lib.hid (HB3.out.grown hg5 HB3.out.size (fun g hg => (HL3.out.2.lt g hg).1)); clear ho5 hg5)
  go_ret
  exact ⟨R5, _, c5, rfl, HO5.out, HB5.out⟩
theorem kindI_all (T : Ty) (lo : Nat) (ho : T.Ok) (hT : T.wt ≤ 1048576) : KindI lo T := by
  induction T using Ty.kidInd with
  | h T ih =>
    obtain ⟨_, _, q3, _, _⟩ := Ty.len_le hT
    have IK : ∀ (i : Nat) (t : Ty), T.kids[i]? = some t → KindI lo t := fun i t ht => ih i t ht (okKid ho ht) (q3 i t ht)
    have h60 : ∀ (i : Nat) (t : Ty), T.kids[i]? = some t → t.flat.length ≤ 60 := fun i t ht => (okKid ho ht).flat
    have hl : T.kids.length ≤ 1000 := by
      have h1 := Ty.length_le T.kids
      have h2 := T.size_eq
      have h3 := ho.1.2
      omega
    by_cases e1 : T.kind = 1
    · exact kindI_1 T e1 lo
    by_cases e9 : T.kind = 9
    · exact kindI_9 T e9 lo
    by_cases e11 : T.kind = 11
    · exact kindI_11 T e11 lo
    by_cases e12 : T.kind = 12
    · exact kindI_12 T e12 lo
    by_cases e15 : T.kind = 15
    · exact kindI_15 T e15 lo IK h60 hl
    by_cases e16 : T.kind = 16
    · exact kindI_16 T e16 lo IK h60 hl
    by_cases e13 : T.kind = 13
    · exact kindI_13 T e13 ho lo IK h60 hl
    by_cases e14 : T.kind = 14
    · exact kindI_14 T e14 ho lo IK h60 hl
    by_cases e17 : T.kind = 17
    · exact kindI_17 T e17 ho lo IK h60 hl
    exact kindI_one T ⟨e1, e9, e11, e12, e15, e16, e13, e14, e17⟩ lo
end Go.Proofs.Ytlmmbheamicdaab

