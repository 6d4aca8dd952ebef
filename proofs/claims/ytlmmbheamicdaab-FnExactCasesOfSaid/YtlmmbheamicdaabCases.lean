/-
  The program's CasesOf and both CaseAt.
-/
import Derived.Test.YtlmmbheamicdaabTyCpW
import Derived.Test.YtlmmbheamicdaabLayMS
import Derived.Test.YtlmmbheamicdaabLayMI
namespace Go.Proofs.Ytlmmbheamicdaab
open Go.ChangeShapes Go.WideShapes Go.ChangeAt Go.RowKit Go.Deep

theorem rowsAt {w : World} {lo : Nat} {ks : List Ty} {B : Option Addr} {bs : List Nat} (h : Ty.RowsOwn w ks B bs) (hlo : ∀ b ∈ bs, lo ≤ b) : Ty.RowAt w lo ks B := by
  have h2 : Ty.Own w (.mk 0 ⟨#[]⟩ [] ks) none B bs := by
    unfold Ty.Own
    exact ⟨[], bs, by simp, Or.inl ⟨rfl, rfl⟩, h⟩
  exact (Ty.Own.at_ hlo h2).rowAt
theorem case_in {T t : Ty} {i : Nat} (h : T.cases[i]? = some t) : t = unitTy ∨ ∃ j : Nat, T.kids[j]? = some t := by
  unfold Ty.cases at h
  by_cases e : T.kind = 13
  · rw [if_pos e] at h
    cases i with
    | zero =>
      simp at h
      exact Or.inl h.symm
    | succ i => exact Or.inr ⟨i, by simpa using h⟩
  · rw [if_neg e] at h
    by_cases e2 : T.kind = 14 ∨ T.kind = 17
    · rw [if_pos e2] at h
      exact Or.inr ⟨i, h⟩
    · rw [if_neg e2] at h
      simp at h
theorem unit_ok : LayOk unitTy := by
  unfold LayOk
  rw [unit_lay]
  dsimp only
  omega
theorem unit_wt : unitTy.wt = 0 := by
  rw [Ty.wt_eq]
  rfl
theorem cases_len {T : Ty} (ho : T.Ok) (hT : T.wt ≤ 1048576) : T.cases.length ≤ 1048576 := by
  have HB := ((Ty.sound_eq T).1 ho.2).1.2
  unfold Ty.cases
  by_cases e : T.kind = 13
  · unfold BodyOk at HB
    rw [if_pos (Or.inr e)] at HB
    rw [if_pos e, List.length_cons, HB.1]
    omega
  · rw [if_neg e]
    by_cases e2 : T.kind = 14 ∨ T.kind = 17
    · rw [if_pos e2]
      exact (Ty.len_le hT).2.1
    · rw [if_neg e2]
      simp
/-- Rows of types in memory of their own. -/
def RowsAns (cs : List Ty) (w : World) (e : Ending) (w' : World) : Prop := ∃ (R : Option Addr) (c : Nat) (bs : List Nat), e = .returned (.slice R cs.length c) ∧ Ty.RowsOwn w' cs R bs ∧ bs.Nodup ∧ (∀ b ∈ bs, w.heap.size ≤ b ∧ b < w'.heap.size) ∧ Below w.heap.size w w'

set_option maxHeartbeats 2000000 in
set_option maxRecDepth 100000 in
theorem implCasesOf_any (T : Ty) (lo : Nat) (hT : T.wt ≤ 1048576) (cs : List Ty) (hc1 : T.Ok → cs = T.cases) (hc0 : ¬ T.Ok → cs = []) (A B : Option Addr) (ca cb : Nat) (w : World) (hat : Ty.At w lo T A B) (hm : MaxC w) :
    Calls Try.prog 10 #[.agg #[.int .i64 T.kind, .string T.name, .slice A T.labels.length ca, .slice B T.kids.length cb]] w (RowsAns cs w) := by
  have CK := fun W h hm => implTypeOk_any T lo hT A B ca cb W h hm
  have HA := Lib.hid hat
  have HM := Lib.hid hm
  obtain ⟨i0, hi, hz0, hz1, hz2⟩ := info_parts infoTypeC
  clear hat hm
  by_cases ho : T.Ok
  · have CK' := Lib.hid (fun W h hm => (CK W h hm).mono fun _ _ k => k.yes ho)
    have CC := Lib.hid (fun W (h : Ty.At W lo T A B) => implCases_any T ho A B ca cb lo W h)
    have hcs := hc1 ho
    have CP : Hid (∀ (i : Nat) (t : Ty), cs[i]? = some t → Cp t) := Lib.hid (fun i t ht => by
      rw [hcs] at ht
      rcases case_in ht with rfl | ⟨j, hj⟩
      · exact copyType_any _ (by rw [unit_wt]; omega)
      · exact copyType_any _ ((Ty.len_le hT).2.2.1 j t hj))
    have hcl : cs.length ≤ 1048576 := by rw [hcs]; exact cases_len ho hT
    rw [← hcs] at CC
    clear ho hc1 hc0 hT CK hcs
    go_enter Try.func10, Try.ntmps10
    go_wp2_with fail
    go_at_call 32
    refine (CK'.out _ (HA.out.below (below1 _ _)) (HM.out.keep (below1 _ _))).mono ?_
    rintro e w2 ⟨rfl, hb2⟩
    have k0 := keepCell (a := ⟨w.heap.size, 0, none⟩) (v := .int .i64 T.kind) hb2 (by go_simp)
    have k1 := keepCell (a := ⟨w.heap.size, 1, none⟩) (v := .string T.name) hb2 (by go_simp)
    have k2 := keepCell (a := ⟨w.heap.size, 2, none⟩) (v := .slice A T.labels.length ca) hb2 (by go_simp)
    have k3 := keepCell (a := ⟨w.heap.size, 3, none⟩) (v := .slice B T.kids.length cb) hb2 (by go_simp)
    have HB2 := Lib.hid (bnext (below1 _ _) hb2)
    clear hb2
    go_wp2_with fail
    go_at_call 33
    refine (CC.out _ (HA.out.below HB2.out)).mono ?_
    rintro e w3 ⟨R3, c3, rfl, hr3, hb3⟩
    have HR := Lib.hid hr3
    have HB3 := Lib.hid (bnext HB2.out hb3)
    have hz3 := HB3.out.size
    clear hr3 hb3 k0 k1 k2 k3
    go_wp2_with fail
    go_loopw [3, 12] (fun ks i wr => ∃ j : Nat, j ≤ cs.length ∧ i = .int .i64 j ∧ ∃ (R : Option Addr) (c : Nat), ks = .slice R j c ∧ Hid (KidsO w3.heap.size cs j R c wr) ∧ Hid (Below w3.heap.size w3 wr)) (fun _ i _ => cs.length - (intOf i).toNat)
    case atStart => exact ⟨0, Nat.zero_le _, rfl, none, 0, rfl, KidsO.start _ _ _, Below.refl _ _⟩
    case round =>
      obtain ⟨j, hj, rfl, R, c, rfl, HK, HB⟩ := hrel
      by_cases hlt : j < cs.length
      · obtain ⟨b, o, t, A', B', ca', cb', rfl, _, htk, hc⟩ := (HR.out.below HB.out).at_ hlt
        have C := Lib.hid (CP.out j t htk A' B' ca' cb' lo)
        have HTR := Lib.hid hc.tree
        have HT := Lib.hid htk
        have hlj : (j : Int) < (cs.length : Int) := by omega
        obtain ⟨c0, c1', c2, c3', _⟩ := hc
        obtain ⟨tvs, bsr, p1, p2, p3, p4, p5, p6⟩ := HK.out
        have P2 := Lib.hid p2
        have hzr := HB.out.size
        clear htk p1 p2 p3 p4 p5 p6
        go_wp2_with fail
        go_at_call 34
        refine (C.out _ (HTR.out.below (below1 _ _))).mono ?_
        rintro e w4 ⟨A2, B2, ca2, cb2, bs2, rfl, ho2, hn2, hb2, hbb2⟩
        have HO2 := Lib.hid ho2
        have HN2 := Lib.hid hn2
        have HBS2 : Hid (∀ b ∈ bs2, wr.heap.size ≤ b ∧ b < w4.heap.size) := Lib.hid (fun b hb => by have := hb2 b hb; simp at this; omega)
        have HB4 := Lib.hid (bnext (below1 _ _) hbb2)
        have hzw := HB4.out.size
        have P3 := Lib.hid (ownsRow_below P2.out HB4.out)
        clear ho2 hn2 hb2 hbb2 C c0 c1' c2 c3'
        go_wp2_with (at_builtin; refine wpList_append_lies _ rfl _ _ 27 rfl w3.heap.size 30 i0 _ 4 72 Try.underlying27 hi hz0 hz1 hz2 rfl (by decide) (.slice R j c) j (tvs.flatMap TV.cells) rfl (P3.out.alloc _) ⟨w4.heap.size, 0, none⟩ 1 1 [.int .i64 t.kind, .string t.name, .slice A2 t.labels.length ca2, .slice B2 t.kids.length cb2] rfl rfl (cell_row4 _ _ _ _ _ _) ?c32 (by omega) ?c33 ?c34 ?c35 _ rfl ?_)
        case c32 => simp [Value.oneCell']
        case c33 => unfold maxLen; omega
        case c34 => omega
        case c35 => simp; omega
        intro g cap w5 hown5 hgrow5 hat5 hlt5
        have HK5 : Hid (KidsO w3.heap.size cs (j + 1) (some ⟨g, 0, none⟩) cap w5) := Lib.hid (KidsO.step HK.out HT.out HO2.out HN2.out HBS2.out HB4.out (by omega) (below1 _ _) hgrow5 (hat5.imp id (fun h => by rw [h]; simp)) (fun xs hxs => by
          rw [ownsRow_uniq hxs (P3.out.alloc _)]
          exact hown5))
        have HB5 := Lib.hid ((bchain HB.out (bnext HB4.out (below1 _ _)) hzr).grown hgrow5 (by simp; omega) (own_block_ge P3.out))
        clear hown5 hgrow5 hat5 hlt5
        go_wp2_with fail
        go_roundw
        case rel => exact ⟨j + 1, by omega, by go_num, some ⟨g, 0, none⟩, cap, rfl, HK5.out, HB5.out⟩
        case measure => simp [intOf]; omega
      · have hj' : j = cs.length := by omega
        subst hj'
        have hlj : ¬ (cs.length : Int) < (cs.length : Int) := by omega
        obtain ⟨bs2, hro, hnd2, hbs2⟩ := HK.out.done
        have HRO := Lib.hid hro
        have HN2 := Lib.hid hnd2
        have HBS2 := Lib.hid hbs2
        clear hro hnd2 hbs2
        go_wp2_with fail
        go_ret
        exact ⟨R, c, bs2, rfl, HRO.out, HN2.out, fun b hb => by have := HBS2.out b hb; omega, HB3.out.trans (HB.out.mono HB3.out.size)⟩
  · have CK' := Lib.hid (fun W h hm => (CK W h hm).mono fun _ _ k => k.no ho)
    have hcs := hc0 ho
    subst hcs
    clear ho CK hT hc1 hc0
    go_enter Try.func10, Try.ntmps10
    go_wp2_with fail
    go_at_call 32
    refine (CK'.out _ (HA.out.below (below1 _ _)) (HM.out.keep (below1 _ _))).mono ?_
    rintro e w2 ⟨rfl, hb2⟩
    have HB2 := Lib.hid (bnext (below1 _ _) hb2)
    clear hb2
    go_wp2_with fail
    go_ret
    exact ⟨none, 0, [], rfl, Or.inl ⟨rfl, rfl⟩, List.nodup_nil, by simp, HB2.out⟩

/-- The place of what a case holds. -/
def CaseP (T : Ty) : Prop := T.Ok ∧ 0 < T.cases.length
def caseN (T : Ty) : Int := up 1 (Ty.layMost 0 1 T.cases).2
theorem most_in (ks : List Ty) : 1 ≤ (Ty.layMost 0 1 ks).2 ∧ (Ty.layMost 0 1 ks).2 ≤ 8 := by
  have h := Ty.layMost_in ks (fun i t _ => t.lay_in) 0 1 (by omega) (by omega) (by omega)
  omega

end Go.Proofs.Ytlmmbheamicdaab
