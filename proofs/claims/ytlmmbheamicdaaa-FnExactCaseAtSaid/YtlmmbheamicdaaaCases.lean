/-
  The program's CasesOf and both CaseAt.
-/
import Derived.Test.YtlmmbheamicdaaaTyCpW
import Derived.Test.YtlmmbheamicdaaaLayMS
import Derived.Test.YtlmmbheamicdaaaLayMI
namespace Go.Proofs.Ytlmmbheamicdaaa
open Go.ChangeShapes Go.WideShapes Go.ChangeAt Go.RowKit Go.Deep

theorem rowsAt {w : World} {lo : Nat} {ks : List Ty} {B : Option Addr} {bs : List Nat} (h : Ty.RowsOwn w ks B bs) (hlo : ∀ b ∈ bs, lo ≤ b) : Ty.RowAt w lo ks B := by
  have h2 : Ty.Own w (.mk 0 ⟨#[]⟩ [] ks) none B bs := by
    unfold Ty.Own
    exact ⟨[], bs, by simp, Or.inl ⟨rfl, rfl⟩, h⟩
  exact (Ty.Own.at_ hlo h2).rowAt
theorem case_in {T t : Ty} {i : Nat} (h : T.cases[i]? = some t) : t = unitTy ∨ ∃ j : Nat, T.kids[j]? = some t := by
  unfold Ty.cases at h
  by_cases e : T.kind = 13
  · rw [if_pos e] at h
    cases i with
    | zero =>
      simp at h
      exact Or.inl h.symm
    | succ i => exact Or.inr ⟨i, by simpa using h⟩
  · rw [if_neg e] at h
    by_cases e2 : T.kind = 14 ∨ T.kind = 17
    · rw [if_pos e2] at h
      exact Or.inr ⟨i, h⟩
    · rw [if_neg e2] at h
      simp at h
theorem unit_ok : LayOk unitTy := by
  unfold LayOk
  rw [unit_lay]
  dsimp only
  omega
theorem unit_wt : unitTy.wt = 0 := by
  rw [Ty.wt_eq]
  rfl
theorem cases_len {T : Ty} (ho : T.Ok) (hT : T.wt ≤ 1048576) : T.cases.length ≤ 1048576 := by
  have HB := ((Ty.sound_eq T).1 ho.2).1.2
  unfold Ty.cases
  by_cases e : T.kind = 13
  · unfold BodyOk at HB
    rw [if_pos (Or.inr e)] at HB
    rw [if_pos e, List.length_cons, HB.1]
    omega
  · rw [if_neg e]
    by_cases e2 : T.kind = 14 ∨ T.kind = 17
    · rw [if_pos e2]
      exact (Ty.len_le hT).2.1
    · rw [if_neg e2]
      simp
/-- Rows of types in memory of their own. -/
def RowsAns (cs : List Ty) (w : World) (e : Ending) (w' : World) : Prop := ∃ (R : Option Addr) (c : Nat) (bs : List Nat), e = .returned (.slice R cs.length c) ∧ Ty.RowsOwn w' cs R bs ∧ bs.Nodup ∧ (∀ b ∈ bs, w.heap.size ≤ b ∧ b < w'.heap.size) ∧ Below w.heap.size w w'

set_option maxHeartbeats 2000000 in
set_option maxRecDepth 100000 in
theorem implCasesOf_any (T : Ty) (lo : Nat) (hT : T.wt ≤ 1048576) (cs : List Ty) (hc1 : T.Ok → cs = T.cases) (hc0 : ¬ T.Ok → cs = []) (A B : Option Addr) (ca cb : Nat) (w : World) (hat : Ty.At w lo T A B) (hm : MaxC w) :
    Calls Try.prog 73 #[.agg #[.int .i64 T.kind, .string T.name, .slice A T.labels.length ca, .slice B T.kids.length cb]] w (RowsAns cs w) := by
  have CK := fun W h hm => implTypeOk_any T lo hT A B ca cb W h hm
  have HA := Lib.hid hat
  have HM := Lib.hid hm
  obtain ⟨i0, hi, hz0, hz1, hz2⟩ := info_parts infoTypeC
  clear hat hm
  by_cases ho : T.Ok
  · have CK' := Lib.hid (fun W h hm => (CK W h hm).mono fun _ _ k => k.yes ho)
    have CC := Lib.hid (fun W (h : Ty.At W lo T A B) => implCases_any T ho A B ca cb lo W h)
    have hcs := hc1 ho
    have CP : Hid (∀ (i : Nat) (t : Ty), cs[i]? = some t → Cp t) := Lib.hid (fun i t ht => by
      rw [hcs] at ht
      rcases case_in ht with rfl | ⟨j, hj⟩
      · exact copyType_any _ (by rw [unit_wt]; omega)
      · exact copyType_any _ ((Ty.len_le hT).2.2.1 j t hj))
    have hcl : cs.length ≤ 1048576 := by rw [hcs]; exact cases_len ho hT
    rw [← hcs] at CC
    clear ho hc1 hc0 hT CK hcs
    go_enter Try.func73, Try.ntmps73
    go_wp2_with fail
    go_at_call 54
    refine (CK'.out _ (HA.out.below (below1 _ _)) (HM.out.keep (below1 _ _))).mono ?_
    rintro e w2 ⟨rfl, hb2⟩
    have k0 := keepCell (a := ⟨w.heap.size, 0, none⟩) (v := .int .i64 T.kind) hb2 (by go_simp)
    have k1 := keepCell (a := ⟨w.heap.size, 1, none⟩) (v := .string T.name) hb2 (by go_simp)
    have k2 := keepCell (a := ⟨w.heap.size, 2, none⟩) (v := .slice A T.labels.length ca) hb2 (by go_simp)
    have k3 := keepCell (a := ⟨w.heap.size, 3, none⟩) (v := .slice B T.kids.length cb) hb2 (by go_simp)
    have HB2 := Lib.hid (bnext (below1 _ _) hb2)
    clear hb2
    go_wp2_with fail
    go_at_call 87
    refine (CC.out _ (HA.out.below HB2.out)).mono ?_
    rintro e w3 ⟨R3, c3, rfl, hr3, hb3⟩
    have HR := Lib.hid hr3
    have HB3 := Lib.hid (bnext HB2.out hb3)
    have hz3 := HB3.out.size
    clear hr3 hb3 k0 k1 k2 k3
    go_wp2_with fail
    go_loopw [3, 12] (fun ks i wr => ∃ j : Nat, j ≤ cs.length ∧ i = .int .i64 j ∧ ∃ (R : Option Addr) (c : Nat), ks = .slice R j c ∧ Hid (KidsO w3.heap.size cs j R c wr) ∧ Hid (Below w3.heap.size w3 wr)) (fun _ i _ => cs.length - (intOf i).toNat)
    case atStart => exact ⟨0, Nat.zero_le _, rfl, none, 0, rfl, KidsO.start _ _ _, Below.refl _ _⟩
    case round =>
      obtain ⟨j, hj, rfl, R, c, rfl, HK, HB⟩ := hrel
      by_cases hlt : j < cs.length
      · obtain ⟨b, o, t, A', B', ca', cb', rfl, _, htk, hc⟩ := (HR.out.below HB.out).at_ hlt
        have C := Lib.hid (CP.out j t htk A' B' ca' cb' lo)
        have HTR := Lib.hid hc.tree
        have HT := Lib.hid htk
        have hlj : (j : Int) < (cs.length : Int) := by omega
        obtain ⟨c0, c1', c2, c3', _⟩ := hc
        obtain ⟨tvs, bsr, p1, p2, p3, p4, p5, p6⟩ := HK.out
        have P2 := Lib.hid p2
        have hzr := HB.out.size
        clear htk p1 p2 p3 p4 p5 p6
        go_wp2_with fail
        go_at_call 92
        refine (C.out _ (HTR.out.below (below1 _ _))).mono ?_
        rintro e w4 ⟨A2, B2, ca2, cb2, bs2, rfl, ho2, hn2, hb2, hbb2⟩
        have HO2 := Lib.hid ho2
        have HN2 := Lib.hid hn2
        have HBS2 : Hid (∀ b ∈ bs2, wr.heap.size ≤ b ∧ b < w4.heap.size) := Lib.hid (fun b hb => by have := hb2 b hb; simp at this; omega)
        have HB4 := Lib.hid (bnext (below1 _ _) hbb2)
        have hzw := HB4.out.size
        have P3 := Lib.hid (ownsRow_below P2.out HB4.out)
        clear ho2 hn2 hb2 hbb2 C c0 c1' c2 c3'
        go_wp2_with (at_builtin; refine wpList_append_lies _ rfl _ _ 28 rfl w3.heap.size 30 i0 _ 4 72 Try.underlying28 hi hz0 hz1 hz2 rfl (by decide) (.slice R j c) j (tvs.flatMap TV.cells) rfl (P3.out.alloc _) ⟨w4.heap.size, 0, none⟩ 1 1 [.int .i64 t.kind, .string t.name, .slice A2 t.labels.length ca2, .slice B2 t.kids.length cb2] rfl rfl (cell_row4 _ _ _ _ _ _) ?c32 (by omega) ?c33 ?c34 ?c35 _ rfl ?_)
        case c32 => simp [Value.oneCell']
        case c33 => unfold maxLen; omega
        case c34 => omega
        case c35 => simp; omega
        intro g cap w5 hown5 hgrow5 hat5 hlt5
        have HK5 : Hid (KidsO w3.heap.size cs (j + 1) (some ⟨g, 0, none⟩) cap w5) := Lib.hid (KidsO.step HK.out HT.out HO2.out HN2.out HBS2.out HB4.out (by omega) (below1 _ _) hgrow5 (hat5.imp id (fun h => by rw [h]; simp)) (fun xs hxs => by
          rw [ownsRow_uniq hxs (P3.out.alloc _)]
          exact hown5))
        have HB5 := Lib.hid ((bchain HB.out (bnext HB4.out (below1 _ _)) hzr).grown hgrow5 (by simp; omega) (own_block_ge P3.out))
        clear hown5 hgrow5 hat5 hlt5
        go_wp2_with fail
        go_roundw
        case rel => exact ⟨j + 1, by omega, by go_num, some ⟨g, 0, none⟩, cap, rfl, HK5.out, HB5.out⟩
        case measure => simp [intOf]; omega
      · have hj' : j = cs.length := by omega
        subst hj'
        have hlj : ¬ (cs.length : Int) < (cs.length : Int) := by omega
        obtain ⟨bs2, hro, hnd2, hbs2⟩ := HK.out.done
        have HRO := Lib.hid hro
        have HN2 := Lib.hid hnd2
        have HBS2 := Lib.hid hbs2
        clear hro hnd2 hbs2
        go_wp2_with fail
        go_ret
        exact ⟨R, c, bs2, rfl, HRO.out, HN2.out, fun b hb => by have := HBS2.out b hb; omega, HB3.out.trans (HB.out.mono HB3.out.size)⟩
  · have CK' := Lib.hid (fun W h hm => (CK W h hm).mono fun _ _ k => k.no ho)
    have hcs := hc0 ho
    subst hcs
    clear ho CK hT hc1 hc0
    go_enter Try.func73, Try.ntmps73
    go_wp2_with fail
    go_at_call 54
    refine (CK'.out _ (HA.out.below (below1 _ _)) (HM.out.keep (below1 _ _))).mono ?_
    rintro e w2 ⟨rfl, hb2⟩
    have HB2 := Lib.hid (bnext (below1 _ _) hb2)
    clear hb2
    go_wp2_with fail
    go_ret
    exact ⟨none, 0, [], rfl, Or.inl ⟨rfl, rfl⟩, List.nodup_nil, by simp, HB2.out⟩

/-- The place of what a case holds. -/
def CaseP (T : Ty) : Prop := T.Ok ∧ 0 < T.cases.length
def caseN (T : Ty) : Int := up 1 (Ty.layMost 0 1 T.cases).2
theorem most_in (ks : List Ty) : 1 ≤ (Ty.layMost 0 1 ks).2 ∧ (Ty.layMost 0 1 ks).2 ≤ 8 := by
  have h := Ty.layMost_in ks (fun i t _ => t.lay_in) 0 1 (by omega) (by omega) (by omega)
  omega

set_option maxHeartbeats 1000000 in
set_option maxRecDepth 100000 in
theorem l09Case_any (T : Ty) (ho : T.Ok) (hT : T.wt ≤ 1048576) (A B : Option Addr) (ca cb lo : Nat) (w : World) (hat : Ty.At w lo T A B) :
    Calls Try.prog 72 #[.agg #[.int .i64 T.kind, .string T.name, .slice A T.labels.length ca, .slice B T.kids.length cb]] w fun e w' => e = .returned (.int .i64 (caseN T)) ∧ Below w.heap.size w w' := by
  have CC := Lib.hid (fun W (h : Ty.At W lo T A B) => specCases_any T ho A B ca cb lo W h)
  have IC : ∀ (i : Nat) (t : Ty), T.cases[i]? = some t → LayS lo t ∧ LayOk t := fun i t ht => by
    rcases case_in ht with rfl | ⟨j, hj⟩
    · exact ⟨unitS lo, unit_ok⟩
    · exact ⟨shapeS_all t lo (okKid ho hj) ((Ty.len_le hT).2.2.1 j t hj), (okKid ho hj).layOk⟩
  have CM := Lib.hid (fun R c W (h : Ty.RowAt W lo T.cases R) => mostS_any T.cases lo (fun i t ht => (IC i t ht).1) (fun i t ht => (IC i t ht).2) (cases_len ho hT) R c W h)
  obtain ⟨m1, m2⟩ := most_in T.cases
  have CU := Lib.hid (fun W => l10Up_any 1 (Ty.layMost 0 1 T.cases).2 (by omega) (by omega) m1 (by omega) W)
  have HA := Lib.hid hat
  clear hat ho hT IC
  go_enter Try.func72, Try.ntmps72
  go_wp2_with fail
  go_at_call 71
  refine (CC.out _ (HA.out.below (below1 _ _))).mono ?_
  rintro e w3 ⟨R3, c3, rfl, hr3, hb3⟩
  have HB3 := Lib.hid (bnext (below1 _ _) hb3)
  clear hb3
  go_wp2_with fail
  go_at_call 85
  refine (CM.out _ _ _ hr3).mono ?_
  rintro e w4 ⟨rfl, hb4⟩
  have HB4 := Lib.hid (bnext HB3.out hb4)
  clear hb4
  go_wp2_with fail
  go_at_call 86
  refine (CU.out _).mono ?_
  rintro e w5 ⟨rfl, hb5⟩
  have HB5 := Lib.hid (bnext HB4.out hb5)
  clear hb5
  go_wp2_with fail
  go_ret
  exact ⟨rfl, HB5.out⟩

set_option maxHeartbeats 1000000 in
set_option maxRecDepth 100000 in
theorem specCaseAt_any (T : Ty) (hT : T.wt ≤ 1048576) (A B : Option Addr) (ca cb lo : Nat) (w : World) (hat : Ty.At w lo T A B) :
    Calls Try.prog 48 #[.agg #[.int .i64 T.kind, .string T.name, .slice A T.labels.length ca, .slice B T.kids.length cb]] w (SaysInt (CaseP T) (caseN T) w) := by
  have CK := fun W h => specTypeOk_any T hT A B ca cb lo W h
  have HA := Lib.hid hat
  clear hat
  by_cases ho : T.Ok
  · have CK' := Lib.hid (fun W h => (CK W h).mono fun _ _ k => k.yes ho)
    have CC := Lib.hid (fun W (h : Ty.At W lo T A B) => specCases_any T ho A B ca cb lo W h)
    have CL := Lib.hid (fun W (h : Ty.At W lo T A B) => l09Case_any T ho hT A B ca cb lo W h)
    have HO := Lib.hid ho
    clear ho CK hT
    by_cases hp : 0 < T.cases.length
    · have hpi : ¬ (T.cases.length : Int) = 0 := by omega
      have HP := Lib.hid hp
      clear hp
      go_enter Try.func48, Try.ntmps48
      go_wp2_with fail
      go_at_call 64
      refine (CK'.out _ (HA.out.below (below1 _ _))).mono ?_
      rintro e w2 ⟨rfl, hb2⟩
      have k0 := keepCell (a := ⟨w.heap.size, 0, none⟩) (v := .int .i64 T.kind) hb2 (by go_simp)
      have k1 := keepCell (a := ⟨w.heap.size, 1, none⟩) (v := .string T.name) hb2 (by go_simp)
      have k2 := keepCell (a := ⟨w.heap.size, 2, none⟩) (v := .slice A T.labels.length ca) hb2 (by go_simp)
      have k3 := keepCell (a := ⟨w.heap.size, 3, none⟩) (v := .slice B T.kids.length cb) hb2 (by go_simp)
      have HB2 := Lib.hid (bnext (below1 _ _) hb2)
      clear hb2
      go_wp2_with fail
      go_at_call 71
      refine (CC.out _ (HA.out.below HB2.out)).mono ?_
      rintro e w3 ⟨R3, c3, rfl, _, hb3⟩
      replace k0 := keepCell hb3 k0
      replace k1 := keepCell hb3 k1
      replace k2 := keepCell hb3 k2
      replace k3 := keepCell hb3 k3
      have HB3 := Lib.hid (bnext HB2.out hb3)
      clear hb3
      go_wp2_with fail
      go_at_call 72
      refine (CL.out _ (HA.out.below HB3.out)).mono ?_
      rintro e w4 ⟨rfl, hb4⟩
      have HB4 := Lib.hid (bnext HB3.out hb4)
      clear hb4
      go_wp2_with fail
      go_ret
      exact ⟨_, rfl, ⟨fun _ => rfl, fun h => absurd ⟨HO.out, HP.out⟩ h⟩, HB4.out⟩
    · have hpi : T.cases.length = 0 := by omega
      have HP := Lib.hid hp
      clear hp
      rw [hpi] at CC
      go_enter Try.func48, Try.ntmps48
      go_wp2_with fail
      go_at_call 64
      refine (CK'.out _ (HA.out.below (below1 _ _))).mono ?_
      rintro e w2 ⟨rfl, hb2⟩
      have k0 := keepCell (a := ⟨w.heap.size, 0, none⟩) (v := .int .i64 T.kind) hb2 (by go_simp)
      have k1 := keepCell (a := ⟨w.heap.size, 1, none⟩) (v := .string T.name) hb2 (by go_simp)
      have k2 := keepCell (a := ⟨w.heap.size, 2, none⟩) (v := .slice A T.labels.length ca) hb2 (by go_simp)
      have k3 := keepCell (a := ⟨w.heap.size, 3, none⟩) (v := .slice B T.kids.length cb) hb2 (by go_simp)
      have HB2 := Lib.hid (bnext (below1 _ _) hb2)
      clear hb2
      go_wp2_with fail
      go_at_call 71
      refine (CC.out _ (HA.out.below HB2.out)).mono ?_
      rintro e w3 ⟨R3, c3, rfl, _, hb3⟩
      have HB3 := Lib.hid (bnext HB2.out hb3)
      clear hb3
      go_wp2_with fail
      go_ret
      exact ⟨0, rfl, ⟨fun h => absurd h.2 HP.out, fun _ => rfl⟩, HB3.out⟩
  · have CK' := Lib.hid (fun W h => (CK W h).mono fun _ _ k => k.no ho)
    have HO := Lib.hid ho
    clear ho CK hT
    go_enter Try.func48, Try.ntmps48
    go_wp2_with fail
    go_at_call 64
    refine (CK'.out _ (HA.out.below (below1 _ _))).mono ?_
    rintro e w2 ⟨rfl, hb2⟩
    have HB2 := Lib.hid (bnext (below1 _ _) hb2)
    clear hb2
    go_wp2_with fail
    go_ret
    exact ⟨0, rfl, ⟨fun h => absurd h.1 HO.out, fun _ => rfl⟩, HB2.out⟩

set_option maxHeartbeats 1000000 in
set_option maxRecDepth 100000 in
theorem implCaseAt_any (T : Ty) (lo : Nat) (hT : T.wt ≤ 1048576) (A B : Option Addr) (ca cb : Nat) (w : World) (hat : Ty.At w lo T A B) (hm : MaxC w) :
    Calls Try.prog 49 #[.agg #[.int .i64 T.kind, .string T.name, .slice A T.labels.length ca, .slice B T.kids.length cb]] w (SaysInt (CaseP T) (caseN T) w) := by
  obtain ⟨cs, hc1, hc0⟩ : ∃ cs : List Ty, (T.Ok → cs = T.cases) ∧ (¬ T.Ok → cs = []) := by
    by_cases ho : T.Ok
    · exact ⟨_, fun _ => rfl, fun h => absurd ho h⟩
    · exact ⟨_, fun h => absurd h ho, fun _ => rfl⟩
  have CC := Lib.hid (fun W (h : Ty.At W lo T A B) hm => implCasesOf_any T lo hT cs hc1 hc0 A B ca cb W h hm)
  have HA := Lib.hid hat
  have HM := Lib.hid hm
  clear hat hm
  by_cases hp : CaseP T
  · have hcs := hc1 hp.1
    have hcl := cases_len hp.1 hT
    have CM := Lib.hid (fun lo R c W (h : Ty.RowAt W lo cs R) => mostI_any cs lo (fun i t ht => by
      rw [hcs] at ht
      rcases case_in ht with rfl | ⟨j, hj⟩
      · exact unitI lo
      · exact shapeI_all t lo (okKid hp.1 hj) ((Ty.len_le hT).2.2.1 j t hj)) (fun i t ht => by
      rw [hcs] at ht
      rcases case_in ht with rfl | ⟨j, hj⟩
      · exact unit_ok
      · exact (okKid hp.1 hj).layOk) (by rw [hcs]; exact hcl) R c W h)
    have hpi : ¬ (cs.length : Int) = 0 := by
      have := hp.2
      rw [hcs]
      omega
    have HP := Lib.hid hp
    have HN : Hid (caseN T = up 1 (Ty.layMost 0 1 cs).2) := Lib.hid (by rw [hcs]; rfl)
    clear hp hc1 hc0 hT hcl hcs
    go_enter Try.func49, Try.ntmps49
    go_wp2_with fail
    go_at_call 73
    refine (CC.out _ (HA.out.below (below1 _ _)) (HM.out.keep (below1 _ _))).mono ?_
    rintro e w2 ⟨R2, c2, bs, rfl, hro, _, hbs, hb2⟩
    have HRA := Lib.hid (rowsAt (lo := 0) hro (fun b hb => by omega))
    have HB2 := Lib.hid (bnext (below1 _ _) hb2)
    clear hb2 hro hbs
    go_wp2_with fail
    go_at_call 74
    refine (CM.out _ _ _ _ HRA.out).mono ?_
    rintro e w3 ⟨rfl, hb3⟩
    have HB3 := Lib.hid (bnext HB2.out hb3)
    clear hb3
    go_wp2_with fail
    go_ret
    exact ⟨_, rfl, ⟨fun _ => HN.out.symm, fun h => absurd HP.out h⟩, HB3.out⟩
  · have hpi : cs.length = 0 := by
      by_cases ho : T.Ok
      · have h9 : ¬ 0 < T.cases.length := fun h => hp ⟨ho, h⟩
        rw [hc1 ho]
        omega
      · rw [hc0 ho]
        rfl
    have HP := Lib.hid hp
    unfold RowsAns at CC
    rw [hpi] at CC
    clear hp hc1 hc0 hT
    go_enter Try.func49, Try.ntmps49
    go_wp2_with fail
    go_at_call 73
    refine (CC.out _ (HA.out.below (below1 _ _)) (HM.out.keep (below1 _ _))).mono ?_
    rintro e w2 ⟨R2, c2, bs, rfl, _, _, _, hb2⟩
    have HB2 := Lib.hid (bnext (below1 _ _) hb2)
    clear hb2
    go_wp2_with fail
    go_ret
    exact ⟨0, rfl, ⟨fun h => absurd h HP.out, fun _ => rfl⟩, HB2.out⟩
end Go.Proofs.Ytlmmbheamicdaaa
