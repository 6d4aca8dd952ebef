/-
  The walks of marking a tree that owns its memory: which tree comes out, in the same blocks.
-/
import Derived.Test.YtlmmbheamicdaabTyMD
namespace Go.Proofs.Ytlmmbheamicdaab
open Go.ChangeShapes Go.WideShapes Go.ChangeAt Go.RowKit Go.Deep

def MarkOwn (ks : List Ty) : Prop := ∀ (k : Nat), 1 ≤ k → k + Ty.mcs ks ≤ 1099511627776 → ∀ (B : Option Addr) (cb : Nat) (bs : List Nat) (w : World), Ty.RowsOwn w ks B bs → bs.Nodup →
  Calls Try.prog 14 #[.slice B ks.length cb, .int .i64 k] w fun e w' => e = .returned (.int .i64 ((k + Ty.mcs ks : Nat) : Int)) ∧ Ty.RowsOwn w' (Ty.mkds ks k) B bs ∧ Kb bs w w'

set_option maxHeartbeats 4000000 in
set_option maxRecDepth 100000 in
theorem markTypeS_own_of (ks : List Ty) (ih : ∀ (i : Nat) (u : Ty), ks[i]? = some u → MarkOwn u.kids) : MarkOwn ks := by
  intro k h0 h1 B cb bs w h hnd
  have H := Lib.hid h
  have IH := Lib.hid ih
  have ND := Lib.hid hnd
  have hlk := Ty.len_mcs ks
  have HL : ks.length ≤ 1099511627776 := by omega
  have H1 := Lib.hid h1
  clear ih h h1 hlk hnd
  go_enter Try.func14, Try.ntmps14
  go_wp2_with fail
  go_loopw [1, 5] (fun x i wr => ∃ j : Nat, j ≤ ks.length ∧ i = .int .i64 j ∧ x = .int .i64 ((k + Ty.mcs (ks.take j) : Nat) : Int) ∧ Hid (Ty.RowsOwn wr (Ty.mkTo ks k j) B bs) ∧ Hid (Kb bs w wr)) (fun _ i _ => ks.length - (intOf i).toNat)
  case atStart => exact ⟨0, Nat.zero_le _, rfl, by simp [Ty.mcs], by rw [Ty.mkTo_zero]; exact H.out, Kb.refl _ _⟩
  case round =>
    obtain ⟨j, hj, rfl, rfl, hown, hkb⟩ := hrel
    by_cases hlt : j < ks.length
    · obtain ⟨u, hu⟩ : ∃ u, ks[j]? = some u := ⟨_, List.getElem?_eq_getElem hlt⟩
      obtain ⟨g, A1, B1, ca1, cb1, bl, bk, rfl, hg, hblk, sl, sk, nl, nk, ndk, dis, ⟨c0, c1, c2, c3⟩, hst, hrw, hstep⟩ := hown.out.round ND.out hu
      have g1 := Ty.mcs_get hu
      have g2 := Ty.mcs_take hu
      have g3 := Ty.mcs_take_le ks (j + 1)
      have g5 := H1.out
      have g6 := u.mc_eq
      obtain ⟨m, hm⟩ : ∃ m, k + Ty.mcs (ks.take j) = m := ⟨_, rfl⟩
      have C1 : Hid (∀ W : World, Calls Try.prog 37 #[.int .i64 ((m : Int) + 1)] W fun e w' => e = .returned (.string (mt (m + 1))) ∧ Below W.heap.size W w') := Lib.hid (fun W => by
        have := markText_any (m + 1) (by omega) (by omega) W
        rw [show ((m + 1 : Nat) : Int) = (m : Int) + 1 by omega] at this
        exact this)
      have C2 : Hid (∀ W : World, StrsOwn W u.labels A1 bl → Calls Try.prog 36 #[.slice A1 u.labels.length ca1, .int .i64 ((m : Int) + 1 + 1)] W fun e w' => e = .returned (.int .i64 ((m + 1 + 1 + u.labels.length : Nat) : Int)) ∧ StrsOwn w' (mts (m + 1 + 1) u.labels.length) A1 bl ∧ Kb bl W w') := Lib.hid (fun W hW => by
        have := markStringS_any u.labels A1 ca1 (m + 1 + 1) bl (by omega) (by omega) W hW
        rw [show ((m + 1 + 1 : Nat) : Int) = (m : Int) + 1 + 1 by omega] at this
        exact this)
      have C3 : Hid (∀ W : World, Ty.RowsOwn W u.kids B1 bk → Calls Try.prog 14 #[.slice B1 u.kids.length cb1, .int .i64 ((m + 1 + 1 + u.labels.length : Nat) : Int)] W fun e w' => e = .returned (.int .i64 ((m + 1 + 1 + u.labels.length + Ty.mcs u.kids : Nat) : Int)) ∧ Ty.RowsOwn w' (Ty.mkds u.kids (m + 1 + 1 + u.labels.length)) B1 bk ∧ Kb bk W w') := Lib.hid (fun W hW => IH.out j u hu (m + 1 + 1 + u.labels.length) (by omega) (by omega) B1 cb1 bk W hW ndk)
      have hlj : (j : Int) < (ks.length : Int) := by omega
      have HG := Lib.hid hblk
      have HM := Lib.hid hm
      have HT := Lib.hid g2
      have HU := Lib.hid g6
      have HST := Lib.hid hst
      have HRW := Lib.hid hrw
      have HSP := Lib.hid hstep
      have HN : Hid (g ∈ bs ∧ (∀ b ∈ bl, b ∈ bs) ∧ (∀ b ∈ bk, b ∈ bs) ∧ g ∉ bl ∧ g ∉ bk ∧ ∀ b ∈ bl, b ∉ bk) := Lib.hid ⟨hg, sl, sk, nl, nk, dis⟩
      have f0 : wr.frozen? ⟨g, j * 4, none⟩ = false := hblk.free _
      have hm1 : (m : Int) ≤ 1099511627776 := by omega
      have hm0 : (0 : Int) ≤ (m : Int) := by omega
      have HC0 := Lib.hid c0
      rw [hm]
      clear hblk hm g1 g2 g3 g5 g6 hst hrw hstep hg sl sk nl nk ndk dis hown hu
      go_wp2_with fail
      go_at_call 37
      refine (C1.out _).mono ?_
      rintro e w2 ⟨rfl, hb2⟩
      have e2 : ∀ i, i ≠ j * 4 → w2.cell? ⟨g, i, none⟩ = wr.cell? ⟨g, i, none⟩ := fun i hi => (World.cell?_of_block (hb2.block g (by simpa using HG.out.lt))).trans (cell_beside hi)
      have n1 : ∀ i, i ≠ j * 4 → ∀ v, wr.cell? ⟨g, i, none⟩ = some v → w2.cell? ⟨g, i, none⟩ = some v := fun i hi v hv => (e2 i hi).trans hv
      have d0 : w2.cell? ⟨g, j * 4, none⟩ = some (.int .i64 m) := keepCell hb2 (World.cell?_setCell_same _ _ _ HC0.out)
      have d1 := n1 _ (by omega) _ c1
      have d2 := n1 _ (by omega) _ c2
      have b2 : Blk w2 g := (HG.out.set _ _).below hb2
      have f1 : w2.frozen? ⟨g, j * 4 + 1, none⟩ = false := b2.free _
      have k2 : Kb [g] wr w2 := (Kb.setCell (by simp) _).trans (Kb.of_below hb2)
      have K3 : Hid (Kb [g] wr (w2.setCell ⟨g, j * 4 + 1, none⟩ (.string (mt (m + 1))))) := Lib.hid (k2.trans (Kb.setCell (by simp) _))
      have KE : Hid (∀ i, i ≠ j * 4 → i ≠ j * 4 + 1 → (w2.setCell ⟨g, j * 4 + 1, none⟩ (.string (mt (m + 1)))).cell? ⟨g, i, none⟩ = wr.cell? ⟨g, i, none⟩) := Lib.hid (fun i hi hi2 => (cell_beside hi2).trans (e2 i hi))
      have S3 : Hid (StrsOwn (w2.setCell ⟨g, j * 4 + 1, none⟩ (.string (mt (m + 1)))) u.labels A1 bl) := Lib.hid (HST.out.keep K3.out.but (fun b hb hm => by
        rw [List.mem_singleton] at hm
        subst hm
        exact HN.out.2.2.2.1 hb))
      have D0 : Hid ((w2.setCell ⟨g, j * 4 + 1, none⟩ (.string (mt (m + 1)))).cell? ⟨g, j * 4, none⟩ = some (.int .i64 m)) := Lib.hid ((cell_beside (by omega)).trans d0)
      have D1 : Hid ((w2.setCell ⟨g, j * 4 + 1, none⟩ (.string (mt (m + 1)))).cell? ⟨g, j * 4 + 1, none⟩ = some (.string (mt (m + 1)))) := Lib.hid (World.cell?_setCell_same _ _ _ d1)
      have BB : Hid (Blk (w2.setCell ⟨g, j * 4 + 1, none⟩ (.string (mt (m + 1)))) g) := Lib.hid (b2.set _ _)
      clear hb2 k2 n1 e2 d0 b2 c0 c1 c2 f0 C1
      go_wp2_with fail
      go_at_call 36
      refine (C2.out _ S3.out).mono ?_
      rintro e w3 ⟨rfl, hs3, hk3⟩
      have S4 := Lib.hid hs3
      have K4 := Lib.hid hk3
      have d3 : w3.cell? ⟨g, j * 4 + 3, none⟩ = some (.slice B1 u.kids.length cb1) := hk3.cell HN.out.2.2.2.1 ((KE.out _ (by omega) (by omega)).trans c3)
      have R4 : Hid (Ty.RowsOwn w3 u.kids B1 bk) := Lib.hid (Ty.RowsOwn.keep (cs := g :: bl) HRW.out ((K3.out.mono (by simp)).trans (K4.out.mono (fun b hb => List.mem_cons_of_mem _ hb))).but (fun b hb hm => by
        rcases List.mem_cons.1 hm with e2 | e2
        · subst e2
          exact HN.out.2.2.2.2.1 hb
        · exact HN.out.2.2.2.2.2 b e2 hb))
      clear hs3 hk3 d1 d2 f1 c3 C2
      go_wp2_with fail
      go_at_call 14
      refine (C3.out _ R4.out).mono ?_
      rintro e w4 ⟨rfl, hs4, hk4⟩
      have R5 := Lib.hid hs4
      have K5 := Lib.hid hk4
      clear hs4 hk4 d3 C3
      go_wp2_with fail
      go_roundw
      case rel =>
        obtain ⟨hg, sl, sk, nl, nk, dis⟩ := HN.out
        have K := ((K3.out.mono (cs := g :: (bl ++ bk)) (by simp)).trans (K4.out.mono (by intro b hb; simp [hb]))).trans (K5.out.mono (by intro b hb; simp [hb]))
        have hc4 : ∀ i v, (w2.setCell ⟨g, j * 4 + 1, none⟩ (.string (mt (m + 1)))).cell? ⟨g, i, none⟩ = some v → w4.cell? ⟨g, i, none⟩ = some v := fun i v hv => K5.out.cell nk (K4.out.cell nl hv)
        have hblk4 : Blk w4 g := K5.out.but.blk nk (K4.out.but.blk nl BB.out)
        refine ⟨j + 1, by omega, by go_num, ?_, HSP.out w4 m HM.out K.but hblk4 (fun i hi => ?_) (hc4 _ _ D0.out) (hc4 _ _ D1.out) (S4.out.keep K5.out.but dis) R5.out, hkb.out.trans (K.mono (fun b hb => ?_))⟩
        · have := HM.out
          have := HT.out
          have := HU.out
          congr 1
          omega
        · have hlt1 : g < wr.heap.size := HG.out.lt
          have e4 : w4.heap[g]? = (w2.setCell ⟨g, j * 4 + 1, none⟩ (.string (mt (m + 1)))).heap[g]? := (K5.out.but.2 g (Nat.lt_of_lt_of_le (Nat.lt_of_lt_of_le hlt1 K3.out.but.1) K4.out.but.1) nk).trans (K4.out.but.2 g (Nat.lt_of_lt_of_le hlt1 K3.out.but.1) nl)
          rw [World.cell?_of_block e4]
          exact KE.out i (by omega) (by omega)
        · rcases List.mem_cons.1 hb with e2 | e2
          · subst e2
            exact hg
          · rcases List.mem_append.1 e2 with e3 | e3
            · exact sl b e3
            · exact sk b e3
      case measure => simp [intOf]; omega
    · have e9 : j = ks.length := by omega
      subst e9
      have h9 := hown.out
      rw [Ty.mkTo_all] at h9
      have H9 := Lib.hid h9
      clear h9
      rw [List.take_length]
      go_wp2_with fail
      go_ret
      exact ⟨rfl, H9.out, hkb.out⟩
theorem markTypeS_own (T : Ty) : MarkOwn T.kids := by
  induction T using Ty.kidInd with
  | h T ih => exact markTypeS_own_of T.kids ih
theorem markTypeS_rows (ks : List Ty) : MarkOwn ks := markTypeS_own_of ks fun _ u _ => markTypeS_own u

/-- Marking a tree that owns its memory. -/
theorem markType_exact (T : Ty) (k : Nat) (h0 : 1 ≤ k) (h1 : k + T.mc ≤ 1099511627776) (A B : Option Addr) (ca cb : Nat) (bs : List Nat) (w : World) (h : Ty.Own w T A B bs) (hnd : bs.Nodup) :
    Calls Try.prog 13 #[.agg #[.int .i64 T.kind, .string T.name, .slice A T.labels.length ca, .slice B T.kids.length cb], .int .i64 k] w fun e w' => e = .returned (.int .i64 ((k + T.mc : Nat) : Int)) ∧ Ty.Own w' (T.mkt k) A B bs ∧ Kb bs w w' := by
  have g6 := T.mc_eq
  obtain ⟨b1, b2, rfl, hl, hk⟩ := Ty.own_eq.mp h
  rw [List.nodup_append] at hnd
  obtain ⟨n1, n2, n3⟩ := hnd
  have C1 := Lib.hid (fun W x => markStringS_any T.labels A ca k b1 h0 (by omega) W x)
  have C2 := Lib.hid (fun W x => markTypeS_rows T.kids (k + T.labels.length) (by omega) (by omega) B cb b2 W x n2)
  have HL := Lib.hid hl
  have HK := Lib.hid hk
  have HC := Lib.hid g6
  have ND := Lib.hid n3
  clear h g6 hl hk n1 n2 n3
  go_enter Try.func13, Try.ntmps13
  go_wp2_with fail
  go_at_call 36
  refine (C1.out _ (HL.out.keep (cs := []) (KeptBut.of_below (below1 _ _)) (by simp))).mono ?_
  rintro e w2 ⟨rfl, hs2, hk2⟩
  have hlt : ∀ b ∈ b1, b < w.heap.size := HL.out.lt
  have d3 : w2.cell? ⟨w.heap.size, 3, none⟩ = some (.slice B T.kids.length cb) := hk2.cell (fun hm => Nat.lt_irrefl _ (hlt _ hm)) (by go_simp)
  have S2 := Lib.hid hs2
  have K2 : Hid (Kb b1 w w2) := Lib.hid ((Kb.of_below (below1 w _)).trans hk2)
  have R2 : Hid (Ty.RowsOwn w2 T.kids B b2) := Lib.hid (HK.out.keep K2.out.but (fun b hb hm => ND.out b hm b hb rfl))
  clear hs2 hk2 C1 hlt
  go_wp2_with fail
  go_at_call 14
  refine (C2.out _ R2.out).mono ?_
  rintro e w3 ⟨rfl, hs3, hk3⟩
  have S3 := Lib.hid hs3
  have K3 := Lib.hid hk3
  clear hs3 hk3 C2
  go_wp2_with fail
  go_ret
  exact ⟨ret_int (a := (k : Int) + (T.labels.length : Int) + (Ty.mcs T.kids : Int)) (by have := HC.out; omega), Ty.own_eq.mpr ⟨b1, b2, rfl, S2.out.keep K3.out.but (fun b hb hm => ND.out b hb b hm rfl), S3.out⟩, (K2.out.mono (fun b hb => List.mem_append_left _ hb)).trans (K3.out.mono (fun b hb => List.mem_append_right _ hb))⟩
end Go.Proofs.Ytlmmbheamicdaab
