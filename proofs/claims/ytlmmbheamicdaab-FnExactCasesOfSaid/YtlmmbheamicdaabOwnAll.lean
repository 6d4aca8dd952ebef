/-
  The model's l09OwnAll and CasesOf.
-/
import Derived.Test.YtlmmbheamicdaabCases
import Derived.Test.YtlmmbheamicdaabTyOw
namespace Go.Proofs.Ytlmmbheamicdaab
open Go.ChangeShapes Go.WideShapes Go.ChangeAt Go.RowKit Go.Deep

theorem KidsO.empty {base g : Nat} {ks : List Ty} {w : World} (hb : base ≤ g) (h : w.heap[g]? = some (.cells #[] 30)) : KidsO base ks 0 (some ⟨g, 0, none⟩) 0 w :=
  ⟨[], [], by simp, ⟨rfl, Or.inr ⟨g, 0, #[], rfl, hb, h, Nat.le_refl _, by unfold maxLen; omega, rfl, rfl⟩⟩, rfl, List.nodup_nil, by simp, by simp⟩

set_option maxHeartbeats 2000000 in
set_option maxRecDepth 100000 in
theorem l09OwnAll_any (cs : List Ty) (hcl : cs.length ≤ 1048576) (CP0 : ∀ (i : Nat) (t : Ty), cs[i]? = some t → Ow t) (lo : Nat) (B : Option Addr) (cb : Nat) (w : World) (h : Ty.RowAt w lo cs B) :
    Calls Try.prog 29 #[.slice B cs.length cb] w (RowsAns cs w) := by
  obtain ⟨i0, hi, hz0, hz1, hz2⟩ := info_parts infoTypeC
  have CP := Lib.hid CP0
  have HR := Lib.hid h
  clear h CP0
  go_enter Try.func29, Try.ntmps29
  go_wp2_with fail
  go_loopw [3, 4] (fun ks i wr => ∃ j : Nat, j ≤ cs.length ∧ i = .int .i64 j ∧ ∃ (R : Option Addr) (c : Nat), ks = .slice R j c ∧ Hid (KidsO w.heap.size cs j R c wr) ∧ Hid (Below w.heap.size w wr)) (fun _ i _ => cs.length - (intOf i).toNat)
  case atStart => exact ⟨0, Nat.zero_le _, rfl, some ⟨w.heap.size, 0, none⟩, 0, rfl, KidsO.empty (Nat.le_refl _) (heap_alloc_new w _), below1 _ _⟩
  case round =>
    obtain ⟨j, hj, rfl, R, c, rfl, HK, HB⟩ := hrel
    by_cases hlt : j < cs.length
    · obtain ⟨b, o, t, A', B', ca', cb', rfl, _, htk, hc⟩ := (HR.out.below HB.out).at_ hlt
      have C := Lib.hid (CP.out j t htk A' B' ca' cb' lo)
      have HTR := Lib.hid hc.tree
      have HT := Lib.hid htk
      have hlj : (j : Int) < (cs.length : Int) := by omega
      obtain ⟨c0, c1', c2, c3', _⟩ := hc
      obtain ⟨tvs, bsr, p1, p2, p3, p4, p5, p6⟩ := HK.out
      have P2 := Lib.hid p2
      have hzr := HB.out.size
      clear htk p1 p2 p3 p4 p5 p6
      go_wp2_with fail
      go_at_call 46
      refine (C.out _ HTR.out).mono ?_
      rintro e w4 ⟨A2, B2, ca2, cb2, bs2, rfl, ho2, hn2, hb2, hbb2⟩
      have HO2 := Lib.hid ho2
      have HN2 := Lib.hid hn2
      have HBS2 := Lib.hid hb2
      have HB4 := Lib.hid hbb2
      have hzw := HB4.out.size
      have P3 := Lib.hid (ownsRow_below P2.out HB4.out)
      clear ho2 hn2 hb2 hbb2 C c0 c1' c2 c3'
      go_wp2_with (at_builtin; refine wpList_append_lies _ rfl _ _ 27 rfl w.heap.size 30 i0 _ 4 72 Try.underlying27 hi hz0 hz1 hz2 rfl (by decide) (.slice R j c) j (tvs.flatMap TV.cells) rfl (P3.out.alloc _) ⟨w4.heap.size, 0, none⟩ 1 1 [.int .i64 t.kind, .string t.name, .slice A2 t.labels.length ca2, .slice B2 t.kids.length cb2] rfl rfl (cell_row4 _ _ _ _ _ _) ?c32 (by omega) ?c33 ?c34 ?c35 _ rfl ?_)
      case c32 => simp [Value.oneCell']
      case c33 => unfold maxLen; omega
      case c34 => omega
      case c35 => simp; omega
      intro g cap w5 hown5 hgrow5 hat5 hlt5
      have HK5 : Hid (KidsO w.heap.size cs (j + 1) (some ⟨g, 0, none⟩) cap w5) := Lib.hid (KidsO.step HK.out HT.out HO2.out HN2.out HBS2.out HB4.out (by omega) (below1 _ _) hgrow5 (hat5.imp id (fun h => by rw [h]; simp)) (fun xs hxs => by
        rw [ownsRow_uniq hxs (P3.out.alloc _)]
        exact hown5))
      have HB5 := Lib.hid ((bchain HB.out (bnext HB4.out (below1 _ _)) hzr).grown hgrow5 (by simp; omega) (own_block_ge P3.out))
      clear hown5 hgrow5 hat5 hlt5
      go_wp2_with fail
      go_roundw
      case rel => exact ⟨j + 1, by omega, by go_num, some ⟨g, 0, none⟩, cap, rfl, HK5.out, HB5.out⟩
      case measure => simp [intOf]; omega
    · have hj' : j = cs.length := by omega
      subst hj'
      have hlj : ¬ (cs.length : Int) < (cs.length : Int) := by omega
      obtain ⟨bs2, hro, hnd2, hbs2⟩ := HK.out.done
      have HRO := Lib.hid hro
      have HN2 := Lib.hid hnd2
      have HBS2 := Lib.hid hbs2
      clear hro hnd2 hbs2
      go_wp2_with fail
      go_ret
      exact ⟨R, c, bs2, rfl, HRO.out, HN2.out, HBS2.out, HB.out⟩

set_option maxHeartbeats 1000000 in
set_option maxRecDepth 100000 in
theorem specCasesOf_any (T : Ty) (lo : Nat) (hT : T.wt ≤ 1048576) (cs : List Ty) (hc1 : T.Ok → cs = T.cases) (hc0 : ¬ T.Ok → cs = []) (A B : Option Addr) (ca cb : Nat) (w : World) (hat : Ty.At w lo T A B) :
    Calls Try.prog 8 #[.agg #[.int .i64 T.kind, .string T.name, .slice A T.labels.length ca, .slice B T.kids.length cb]] w (RowsAns cs w) := by
  have CK := fun W h => specTypeOk_any T hT A B ca cb lo W h
  have HA := Lib.hid hat
  clear hat
  by_cases ho : T.Ok
  · have CK' := Lib.hid (fun W h => (CK W h).mono fun _ _ k => k.yes ho)
    have CC := Lib.hid (fun W (h : Ty.At W lo T A B) => specCases_any T ho A B ca cb lo W h)
    have hcs := hc1 ho
    have hcl : cs.length ≤ 1048576 := by rw [hcs]; exact cases_len ho hT
    have CL := Lib.hid (fun R c W (h : Ty.RowAt W lo cs R) => l09OwnAll_any cs hcl (fun i t ht => by
      rw [hcs] at ht
      rcases case_in ht with rfl | ⟨j, hj⟩
      · exact l03Own_any _ (by rw [unit_wt]; omega)
      · exact l03Own_any _ ((Ty.len_le hT).2.2.1 j t hj)) lo R c W h)
    rw [← hcs] at CC
    clear ho CK hT hc1 hc0 hcs hcl
    go_enter Try.func8, Try.ntmps8
    go_wp2_with fail
    go_at_call 28
    refine (CK'.out _ (HA.out.below (below1 _ _))).mono ?_
    rintro e w2 ⟨rfl, hb2⟩
    have k0 := keepCell (a := ⟨w.heap.size, 0, none⟩) (v := .int .i64 T.kind) hb2 (by go_simp)
    have k1 := keepCell (a := ⟨w.heap.size, 1, none⟩) (v := .string T.name) hb2 (by go_simp)
    have k2 := keepCell (a := ⟨w.heap.size, 2, none⟩) (v := .slice A T.labels.length ca) hb2 (by go_simp)
    have k3 := keepCell (a := ⟨w.heap.size, 3, none⟩) (v := .slice B T.kids.length cb) hb2 (by go_simp)
    have HB2 := Lib.hid (bnext (below1 _ _) hb2)
    clear hb2
    go_wp2_with fail
    go_at_call 30
    refine (CC.out _ (HA.out.below HB2.out)).mono ?_
    rintro e w3 ⟨R3, c3, rfl, hr3, hb3⟩
    have HB3 := Lib.hid (bnext HB2.out hb3)
    have HR3 := Lib.hid hr3
    clear hb3 hr3
    go_wp2_with fail
    go_at_call 29
    refine (CL.out _ _ _ HR3.out).mono ?_
    rintro e w4 ⟨R4, c4, bs4, rfl, hro, hnd, hbs, hb4⟩
    have HB4 := Lib.hid (bnext HB3.out hb4)
    have HRO := Lib.hid hro
    have HND := Lib.hid hnd
    have HBS := Lib.hid hbs
    have hz3 := HB3.out.size
    clear hb4 hro hnd hbs
    go_wp2_with fail
    go_ret
    exact ⟨R4, c4, bs4, rfl, HRO.out, HND.out, fun b hb => by have := HBS.out b hb; omega, HB4.out⟩
  · have CK' := Lib.hid (fun W h => (CK W h).mono fun _ _ k => k.no ho)
    have hcs := hc0 ho
    subst hcs
    clear ho CK hT hc1 hc0
    go_enter Try.func8, Try.ntmps8
    go_wp2_with fail
    go_at_call 28
    refine (CK'.out _ (HA.out.below (below1 _ _))).mono ?_
    rintro e w2 ⟨rfl, hb2⟩
    have HB2 := Lib.hid (bnext (below1 _ _) hb2)
    clear hb2
    go_wp2_with fail
    go_ret
    exact ⟨some ⟨w2.heap.size, 0, none⟩, 0, [], rfl, Or.inl ⟨rfl, rfl⟩, List.nodup_nil, by simp, bnext HB2.out (below1 _ _)⟩
end Go.Proofs.Ytlmmbheamicdaab
