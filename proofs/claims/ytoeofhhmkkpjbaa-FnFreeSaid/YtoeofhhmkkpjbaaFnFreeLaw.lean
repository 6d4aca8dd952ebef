/-
  The walk of the law on sequences of allocations and releases. Both lists of bytes are whatever the row allows.
-/
import Derived.Test.YtoeofhhmkkpjbaaMFs
import Derived.Test.YtoeofhhmkkpjbaaB10At
import Derived.Test.YtoeofhhmkkpjbaaMeNwI
import Derived.Test.YtoeofhhmkkpjbaaMeAlS
import Derived.Test.YtoeofhhmkkpjbaaMeReI
import Derived.Test.YtoeofhhmkkpjbaaSameMe
import Derived.Deep.CutRange
import Derived.Deep.RegionHeld3
namespace Go.Proofs.Ytoeofhhmkkpjbaa
open Go.ChangeShapes Go.WideShapes Go.ChangeAt Go.RowKit Go.Deep
set_option maxRecDepth 100000

theorem fresh2 {w w3 : World} {u0 u1 : Value} {t : TypeId} (hb : Below (w.alloc (.cells #[u0, u1] t)).drew.heap.size (w.alloc (.cells #[u0, u1] t)).drew w3) : w3.cell? ⟨w.heap.size, 0, none⟩ = some u0 ∧ w3.cell? ⟨w.heap.size, 1, none⟩ = some u1 ∧ ∀ o, w3.frozen? ⟨w.heap.size, o, none⟩ = false :=
  ⟨keepCell hb (by go_simp), keepCell hb (by go_simp), fun o => (hb.frozen (by simp)).trans (by go_simp)⟩
theorem fresh2b {w w3 : World} {o : Obj} {u0 u1 : Value} {t : TypeId} (hb : Below ((w.alloc o).alloc (.cells #[u0, u1] t)).drew.heap.size ((w.alloc o).alloc (.cells #[u0, u1] t)).drew w3) : w3.cell? ⟨w.heap.size + 1, 0, none⟩ = some u0 ∧ w3.cell? ⟨w.heap.size + 1, 1, none⟩ = some u1 ∧ ∀ o, w3.frozen? ⟨w.heap.size + 1, o, none⟩ = false :=
  ⟨keepCell hb (by go_simp), keepCell hb (by go_simp), fun o => (hb.frozen (by simp)).trans (by go_simp)⟩
theorem fresh2c {w w3 : World} {c : Array Value} {t' : TypeId} {u0 u1 : Value} {t : TypeId} (hb : Below ((w.alloc (.cells #[u0, u1] t)).alloc (.cells c t')).drew.heap.size ((w.alloc (.cells #[u0, u1] t)).alloc (.cells c t')).drew w3) : w3.cell? ⟨w.heap.size, 0, none⟩ = some u0 ∧ w3.cell? ⟨w.heap.size, 1, none⟩ = some u1 ∧ ∀ o, w3.frozen? ⟨w.heap.size, o, none⟩ = false :=
  ⟨keepCell hb (by go_simp), keepCell hb (by go_simp), fun o => (hb.frozen (by simp; omega)).trans (by go_simp)⟩
set_option maxHeartbeats 40000000 in
theorem fnFreeLaw (R0 : Option Addr) (m0 c0 : Nat) (R1 : Option Addr) (m1 c1 : Nat) (W : World) (h0 : CodeOk W (.slice R0 m0 c0)) (h1 : CodeOk W (.slice R1 m1 c1)) :
    Calls Try.prog 4 #[.slice R0 m0 c0, .slice R1 m1 c1] W fun e W' => e = .returned (.bool true) ∧ Below W.heap.size W W' := by
  obtain ⟨v, CL⟩ := long_any R0 m0 c0 R1 m1 c1
  have H0 := Lib.hid h0
  have H1 := Lib.hid h1
  clear h0 h1
  cases v with
  | true =>
    go_enter Try.func4, Try.ntmps4
    go_wp2_with fail
    go_at_call 11
    refine (CL.out _).mono ?_
    rintro e w0 ⟨rfl, rfl⟩
    go_wp2_with fail
    go_ret
    exact ⟨rfl, Below.refl _ _⟩
  | false =>
    go_enter Try.func4, Try.ntmps4
    go_wp2_with fail
    go_at_call 11
    refine (CL.out _).mono ?_
    rintro e w0 ⟨rfl, rfl⟩
    clear CL
    go_wp2_with fail
    go_at_call 13
    refine (at_any R0 m0 c0 0 (by omega) 40 (by omega) _ H0.out).mono ?_
    rintro e w1 ⟨r, rfl, r0, r1, rfl⟩
    have CN := fun W => implNewMemory_any (8 + 8 * r) W
    have hmn : memNew (8 + 8 * r) = (⟨zeroB (8 + 8 * r).toNat, newF (8 + 8 * r)⟩, 0) := by
      unfold memNew newF
      rw [if_pos (by omega)]
    have hzs : ((zeroB (8 + 8 * r).toNat).size : Int) = 8 + 8 * r := by rw [zeroB_size]; omega
    rw [hmn] at CN
    have HN8 : Hid (8 ≤ 8 + 8 * r ∧ 8 + 8 * r ≤ 400) := Lib.hid (by omega)
    obtain ⟨Z, hZ⟩ : ∃ Z, zeroB (8 + 8 * r).toNat = Z := ⟨_, rfl⟩
    rw [hZ] at CN hzs
    obtain ⟨N, hN⟩ : ∃ N, newF (8 + 8 * r) = N := ⟨_, rfl⟩
    have HI0 := Lib.hid (FreeInv.new (8 + 8 * r))
    have HEND := Lib.hid (fun F (h : FreeInv (8 + 8 * r) F []) => h.end_)
    rw [hN] at CN HI0 HEND
    have CN := Lib.hid CN
    have HZS := Lib.hid hzs
    clear hmn hZ hN hzs
    go_wp2_with fail
    go_at_call 12
    refine (CN.out _).mono ?_
    rintro e w2 ⟨Rw, cw, rfl, ho, hb, hz⟩
    obtain ⟨gw, g1, g2, hnum⟩ := ho.num2 hz
    have FS0 : Hid (FS W w2.heap.size Z N Rw cw gw N [] Rw cw gw (some ⟨w2.heap.size + 2, 0, none⟩) 0 (((w2.alloc (.cells #[.string Z, .slice Rw N.length cw] 38)).alloc (.cells #[.string Z, .slice Rw N.length cw] 38)).alloc (.cells #[] 44))) := Lib.hid (by
      have hb3 := below3 w2 (.cells #[.string Z, .slice Rw N.length cw] 38) (.cells #[.string Z, .slice Rw N.length cw] 38) (.cells #[] 44)
      have hr : RowIn w2 N Rw gw := ⟨hnum, g2⟩
      refine ⟨bchain hb hb3 hb.size, hb.size, by go_simp, by go_simp, by go_simp, by go_simp, by go_simp, by go_simp, hr.below hb3, hr.below hb3, by omega, by omega, ?_, ?_⟩
      · have := ownBk_new ((w2.alloc (.cells #[.string Z, .slice Rw N.length cw] 38)).alloc (.cells #[.string Z, .slice Rw N.length cw] 38)) W.heap.size (by have := hb.size; simp; omega)
        simpa using this
      · intro k hk
        obtain rfl : w2.heap.size + 2 = k := by simpa [Value.ownBlock] using hk
        simp
        omega)
    clear ho hb hz g1 g2 hnum CN
    go_wp2_with fail
    obtain ⟨G, hG⟩ : ∃ G, w2.heap.size = G := ⟨_, rfl⟩
    rw [hG] at FS0
    simp only [hG]
    have hG := Lib.hid hG
    go_loopw [8, 9] (fun vt vi wr => ∃ (i : Nat) (F tk : List Bk) (Rm : Option Addr) (cm gm : Nat) (Rt : Option Addr) (ct : Nat), vi = .int .i64 i ∧ i ≤ 24 ∧ vt = .slice Rt tk.length ct ∧ tk.length ≤ i ∧ FreeInv (8 + 8 * r) F tk ∧ FS W G Z N Rw cw gw F tk Rm cm gm Rt ct wr) (fun _ vi _ => 24 - (intOf vi).toNat)
    case atStart => exact ⟨0, N, [], Rw, cw, gw, _, 0, rfl, by omega, rfl, Nat.le_refl _, HI0.out, FS0.out⟩
    case round =>
      obtain ⟨i, F, tk, Rm, cm, gm, Rt, ct, rfl, hi, rfl, htk, hinv, hfs⟩ := hrel
      clear HI0 FS0
      have HI := Lib.hid hinv
      have HF := Lib.hid hfs
      clear hinv hfs
      by_cases h24 : i < 24
      · have h24i : (i : Int) < 24 := by omega
        go_upto_region 10 with fail
        go_cut [48] from 35 to 139 (fun x48 w' => ∃ q : Bool, x48 = .bool q ∧ (q = true → 0 < tk.length) ∧ wr = w')
        case first =>
          by_cases htk0 : tk.length = 0
          · have htki : ¬ (0 : Int) < (tk.length : Int) := by omega
            clear htk0
            go_wp2_with fail
            go_meet
            exact ⟨false, rfl, (fun e => nomatch e), rfl⟩
          · have htki : (0 : Int) < (tk.length : Int) := by omega
            go_wp2_with fail
            go_at_call 13
            refine (at_any R1 m1 c1 i (by omega) 3 (by omega) _ (H1.out.keep HF.out.bel)).mono ?_
            rintro e wq ⟨q, rfl, q0, q1, rfl⟩
            by_cases hq : q = 0
            · subst hq
              go_wp2_with fail
              go_meet
              exact ⟨true, rfl, fun _ => by omega, rfl⟩
            · have hq2 : (q == 0) = false := beq_eq_false_iff_ne.mpr hq
              go_wp2_with fail
              go_meet
              exact ⟨false, rfl, (fun e => nomatch e), rfl⟩
        case rest =>
          obtain ⟨q, rfl, hq, rfl⟩ := hcut
          cases q with
          | true =>
            have hq := hq rfl
            obtain ⟨gt, gt1, gt2, hnt⟩ := HF.out.own.nums
            have CA := at_any R0 m0 c0 (i + 1) (by omega) (tk.length : Int) (by omega) _ (H0.out.keep HF.out.bel)
            have e1 : ((i + 1 : Nat) : Int) = (i : Int) + 1 := by omega
            rw [e1] at CA
            have CA := Lib.hid CA
            clear e1
            go_wp2_with fail
            go_at_call 13
            refine CA.out.mono ?_
            rintro e wq ⟨k, rfl, k0, k1, rfl⟩
            obtain ⟨k, rfl⟩ := Int.eq_ofNat_of_zero_le k0
            have hk : k < tk.length := by omega
            obtain ⟨t, ht⟩ : ∃ t, tk[k]? = some t := ⟨_, List.getElem?_eq_getElem hk⟩
            have hsp : tk = tk.take k ++ t :: tk.drop (k + 1) := by
              rw [← drop_cons ht, List.take_append_drop]
            obtain ⟨hR, _, hct⟩ := hnt (by rw [bkNums_len]; omega)
            obtain ⟨n0, n1⟩ := bkNums_get ht
            have t0 := hct _ _ n0
            have t1 := hct _ _ n1
            have hinv2 := HI.out
            rw [hsp] at hinv2
            have CR := Lib.hid (fun w (h : Bks w 0 F Rm) => rel_step hinv2 HZS.out (by have := HN8.out; omega) Rm cm w h)
            have HG := Lib.hid hinv2.give.2
            subst hR
            have c0' := HF.out.m0
            have c1' := HF.out.m1
            have HSP := Lib.hid hsp
            have hki : (k : Int) < (tk.length : Int) := by omega
            have hkz : (0 : Int) ≤ (k : Int) := by omega
            clear hinv2 hnt n0 n1 hct CA hsp ht
            go_wp2_with fail
            have HRM : Hid (Nums wr (bkNums F) Rm gm) := Lib.hid HF.out.rm.1
            have xn0 := World.new_ne wr _ c0'
            have xn1 := World.new_ne wr _ t0
            go_cut [12, 13] from 35 to 139 (fun x12 x13 w' => ∃ (X : Nat) (R3 : Option Addr) (c3 g3 : Nat), x12 = .pointer (some ⟨X, 0, none⟩) ∧ x13 = .int .i64 0 ∧ wr.heap.size ≤ X ∧ w'.cell? ⟨X, 0, none⟩ = some (.string Z) ∧ w'.cell? ⟨X, 1, none⟩ = some (.slice R3 (giveL t F).length c3) ∧ RowIn w' (giveL t F) R3 g3 ∧ wr.heap.size ≤ g3 ∧ Below wr.heap.size wr w')
            case first =>
              go_region_held3 (fun w' => w'.cell? ⟨G, 0, none⟩ = some (.string Z) ∧ w'.cell? ⟨G, 1, none⟩ = some (.slice Rm F.length cm) ∧ w'.cell? ⟨gt, k * 2, none⟩ = some (.int .i64 t.pos) ∧ w'.cell? ⟨gt, k * 2 + 1, none⟩ = some (.int .i64 t.size))
                (first | assumption | (exact ⟨c0', c1', t0, t1⟩) | (exact ⟨j0, j1, j2, j3⟩) | (exact ⟨keepCell (below1 _ _) j0, keepCell (below1 _ _) j1, keepCell (below1 _ _) j2, keepCell (below1 _ _) j3⟩) | (exact ⟨keepCell (below1 _ _).drew c0', keepCell (below1 _ _).drew c1', keepCell (below1 _ _).drew t0, keepCell (below1 _ _).drew t1⟩) | (exact ⟨keepCell (below1 _ _) c0', keepCell (below1 _ _) c1', keepCell (below1 _ _) t0, keepCell (below1 _ _) t1⟩) | (go_keep))
                (first
                  | (go_simp; go_at_call 14; (with_reducible refine (CR.out wr.drew ((HRM.out.below (Below.refl _ _).drew).bks (Nat.zero_le _))).mono ?_); rintro e w3 ⟨R3, c3, rfl, ho3, hb3, hz3⟩; have hbw : Below wr.heap.size wr w3 := (Below.refl _ _).drew.trans hb3; have j0 := keepCell hbw c0'; have j1 := keepCell hbw c1'; have j2 := keepCell hbw t0; have j3 := keepCell hbw t1; obtain ⟨g3, hg3, hl3, hn3⟩ := ho3.num2 hz3; have hrow : RowIn w3 (giveL t F) R3 g3 := ⟨hn3, hl3⟩; have hg4 : wr.heap.size ≤ g3 := hg3; dsimp only)
                  | (go_simp; go_at_call 14; (with_reducible refine (CR.out ((wr.alloc (.cells #[.string ⟨#[]⟩, .slice none 0 0] 38)).drew) ((HRM.out.below (below1 _ _).drew).bks (Nat.zero_le _))).mono ?_); rintro e w3 ⟨R3, c3, rfl, ho3, hb3, hz3⟩; have hbw : Below wr.heap.size wr w3 := (below1 _ _).drew.trans (hb3.mono (by simp)); have j0 := keepCell hbw c0'; have j1 := keepCell hbw c1'; have j2 := keepCell hbw t0; have j3 := keepCell hbw t1; obtain ⟨g3, hg3, hl3, hn3⟩ := ho3.num2 hz3; have hrow : RowIn w3 (giveL t F) R3 g3 := ⟨hn3, hl3⟩; have hg4 : wr.heap.size ≤ g3 := (by simp at hg3; omega); have hg5 : wr.heap.size < g3 := (by simp at hg3; omega); obtain ⟨xb0, xb1, xf⟩ := fresh2 hb3; dsimp only))
              all_goals go_wp2_with fail
              all_goals go_meet
              all_goals first
                | exact ⟨_, R3, c3, g3, rfl, rfl, hbw.size, by go_simp, by go_simp, hrow.below (below1 _ _), hg4, bchain hbw (below1 _ _) hbw.size⟩
                | exact ⟨_, R3, c3, g3, rfl, rfl, Nat.le_refl _, (setTwo7 xb0 xb1).1, (setTwo7 xb0 xb1).2, hrow.same (by rw [Below.heap_setCell _ _ _ _ (by dsimp only; omega), Below.heap_setCell _ _ _ _ (by dsimp only; omega)]) (by simp), hg4, (hbw.setCell (Nat.le_refl _) _).setCell (Nat.le_refl _) _⟩
            case rest =>
              obtain ⟨X, R3, c3, g3, rfl, rfl, hX, x0, x1, hrow, hg3, hb⟩ := hcut
              have hfs2 := HF.out.below hb
              have hGl := HF.out.lt
              have y0 := hfs2.m0
              have y1 := hfs2.m1
              have yf0 := hfs2.f0
              have yf1 := hfs2.f1
              have HF3 := Lib.hid (hfs2.store c3 hrow (by omega) (fun k hk => by have := (HF.out.sep k hk).2.2.2.2; omega))
              clear hfs2 hrow hb xn0 xn1 t0 t1 c0' c1'
              go_wp2_with fail
              generalize ((wc.setCell ⟨G, 0, none⟩ (.string Z)).setCell ⟨G, 1, none⟩ (.slice R3 (giveL t F).length c3)) = w5 at HF3 ⊢
              have hcap := HF3.out.own.cap8
              obtain ⟨gq, gq1, gq2, hnq⟩ := HF3.out.own.nums
              have hbk : Bks w5 0 tk (some ⟨gt, 0, none⟩) := hnq.bks (Nat.zero_le _)
              have hs1 := takeRun tk (some ⟨gt, 0, none⟩) ct k (by omega) hcap
              obtain ⟨R2, c2, hs2, hd2⟩ := dropRun w5 0 tk (some ⟨gt, 0, none⟩) ct (k + 1) (by omega) hcap hbk
              have hs3 := fun W => hs2 ((k : Int) + 1) W (by omega)
              have hl1 : (tk.take k).length = k := by rw [List.length_take]; omega
              have hl2 : (tk.drop (k + 1)).length = tk.length - (k + 1) := List.length_drop
              obtain ⟨D, hD⟩ : ∃ D, (tk.drop (k + 1)).length = D := ⟨_, rfl⟩
              rw [hD] at hs3
              have hb5 := (below1 w5 (.cells #[] 44)).drew
              have A1 := Lib.hid (fun ty => appStep (W0 := w5) hb5 ((ownBk_new w5 w5.heap.size (Nat.le_refl _)).keep (Below.refl _ _).drew) ((hbk.take k).below hb5) hl1 (by omega) (c2 := ct) ty)
              have HD2 := Lib.hid hd2
              have hDt : D ≤ 100 := by omega
              have hwk : IntKind.i64.wrap ((k : Int) + 1) = (k : Int) + 1 := IntWalk.i64_in _ (by omega)
              have hkt : k ≤ 100 := by omega
              clear hs2 hnq gq1 gq2 hbk hd2
              go_region_held3 (fun _ => True) (trivial)
                (first
                  | (with_reducible refine stepAppAt7 ((w5.alloc (.cells #[] 44)).drew) rfl (by with_unfolding_all rfl) _ _ _ (by with_unfolding_all rfl) _ _ (by with_unfolding_all rfl) (by with_unfolding_all rfl) A1.out ?_; rintro _ w6 ⟨R6, c6, rfl, ho6, hb6⟩; have A2 := Lib.hid (fun ty => appStep (W0 := w5) hb6 ho6 (HD2.out _ hb6) hD (by omega) (c2 := c2) ty))
                  | (refine stepAppAt7 w6 rfl (by with_unfolding_all rfl) _ _ _ (by with_unfolding_all rfl) _ _ (by with_unfolding_all rfl) (by with_unfolding_all rfl) A2.out ?_; rintro _ w7 ⟨R7, c7, rfl, ho7, hb7⟩))
              obtain ⟨tk', htk'⟩ : ∃ tk', tk.take k ++ tk.drop (k + 1) = tk' := ⟨_, rfl⟩
              have hlen : tk'.length = k + D := by rw [← htk', List.length_append, hl1, hD]
              have ho8 : OwnBk w7 w5.heap.size tk' R7 tk'.length c7 := by
                have := ho7
                simp only [List.nil_append, Nat.zero_add] at this
                rw [hlen, ← htk']
                exact this
              have HI9 : Hid (FreeInv (8 + 8 * r) (giveL t F) tk') := Lib.hid (by rw [← htk']; exact HG.out)
              have HF9 := Lib.hid (HF3.out.take (fun k' h _ => hb7.block k' h) (hb7.mono HF3.out.bel.size) hb7.size (ho8.down HF3.out.bel.size) (fun k' hk' => ⟨.inr (ho8.blk k' hk'), (ho8.2.lt k' hk').2⟩))
              have hl3 : tk'.length ≤ i + 1 := by omega
              rw [← hlen]
              clear ho7 ho8 hb7 hb6 ho6 A1 A2 htk' hs1 hs3 hwk hl1 hl2 hD HF3
              go_wp2_with fail
              go_roundw
              case rel => exact ⟨i + 1, giveL t F, tk', R3, c3, g3, R7, c7, by go_num, by omega, rfl, hl3, HI9.out, HF9.out⟩
              case measure => simp [intOf]; omega
          | false =>
            clear hq
            obtain ⟨b, ⟨b0, b1⟩, CB⟩ := at_det R1 m1 c1 (i + 30) (by omega) 4 (by omega) wr (H1.out.keep HF.out.bel)
            have e30 : ((i + 30 : Nat) : Int) = (i : Int) + 30 := by omega
            have CA := at_any R0 m0 c0 (i + 30) (by omega) 24 (by omega) wr (H0.out.keep HF.out.bel)
            rw [e30] at CA
            simp only [e30] at CB
            have CA := Lib.hid CA
            have CB := Lib.hid CB
            clear e30
            go_wp2_with fail
            go_at_call 13
            refine CA.out.mono ?_
            rintro e wq ⟨a, rfl, a0, a1, rfl⟩
            obtain ⟨s, hs⟩ : ∃ s, 1 + a = s := ⟨_, rfl⟩
            have hs1 : 0 < s ∧ s ≤ 24 := by omega
            obtain ⟨al, hal⟩ : ∃ al : Int, (b = 0 ∧ al = 1) ∨ (b = 1 ∧ al = 2) ∨ (b = 2 ∧ al = 4) ∨ (b = 3 ∧ al = 8) := by
              have hb : b = 0 ∨ b = 1 ∨ b = 2 ∨ b = 3 := by omega
              rcases hb with rfl | rfl | rfl | rfl
              · exact ⟨1, by omega⟩
              · exact ⟨2, by omega⟩
              · exact ⟨4, by omega⟩
              · exact ⟨8, by omega⟩
            obtain ⟨M, p, kk, CAl, hres⟩ := alloc_step (s := s) (al := al) HI.out HZS.out (by have := HN8.out; omega) hs1.1 (by omega) (by omega)
            have CAl := Lib.hid CAl
            have HRES := Lib.hid hres
            have HAL := Lib.hid hal
            have HS1 := Lib.hid hs1
            have c0' := HF.out.m0
            have c1' := HF.out.m1
            have HRM : Hid (Nums wr (bkNums F) Rm gm) := Lib.hid HF.out.rm.1
            have xn0 := World.new_ne wr _ c0'
            have hGl := HF.out.lt
            have xn1 : wr.heap.size + 1 ≠ G := by omega
            have hw30 : IntKind.i64.wrap ((i : Int) + 30) = (i : Int) + 30 := IntWalk.i64_in _ (by omega)
            clear CA hres hs1
            go_wp2_with fail
            go_cut [15, 16, 17] from 35 to 139 (fun x15 x16 x17 w' => ∃ (X : Nat) (R3 : Option Addr) (c3 g3 : Nat), x15 = .pointer (some ⟨X, 0, none⟩) ∧ x16 = .int .i64 p ∧ x17 = .int .i64 kk ∧ wr.heap.size ≤ X ∧ w'.cell? ⟨X, 0, none⟩ = some (.string M.bytes) ∧ w'.cell? ⟨X, 1, none⟩ = some (.slice R3 M.free.length c3) ∧ RowIn w' M.free R3 g3 ∧ wr.heap.size ≤ g3 ∧ Below wr.heap.size wr w')
            case first =>
              obtain ⟨b, rfl⟩ := Int.eq_ofNat_of_zero_le b0
              have harr : (#[(.int .i64 1 : Value), .int .i64 2, .int .i64 4, .int .i64 8] : Array Value)[b]? = some (.int .i64 al) := by
                rcases hal with ⟨h, rfl⟩ | ⟨h, rfl⟩ | ⟨h, rfl⟩ | ⟨h, rfl⟩
                · obtain rfl : b = 0 := by omega
                  rfl
                · obtain rfl : b = 1 := by omega
                  rfl
                · obtain rfl : b = 2 := by omega
                  rfl
                · obtain rfl : b = 3 := by omega
                  rfl
              have harr2 : [(.int .i64 1 : Value), .int .i64 2, .int .i64 4, .int .i64 8][b]? = some (.int .i64 al) := by simpa using harr
              have hb4 : (b : Int) < 4 := by omega
              have xlt : G < wr.heap.size := by omega
              clear HI HRES HAL HS1 HN8 HZS HEND H0 H1 hal b1 a0 a1 HF hG r0 r1 htk hi
              refine wp_region_held_drew (S := (fun w' => w'.cell? ⟨G, 0, none⟩ = some (.string Z) ∧ w'.cell? ⟨G, 1, none⟩ = some (.slice Rm F.length cm))) (by kernel_rfl) ?_ (fun hHeld => ?_)
              · exact ⟨keepCell (Below.refl _ _).drew c0', keepCell (Below.refl _ _).drew c1'⟩
              refine wpAnyH_take (i := 0) (oi := { dst := some 88, op := Go.Op.load 38 (Go.Operand.tmp 5), type := 38, pos := "laws.go:2165", after := #[], guard := none }) (v := ?_) rfl (by kernel_rfl) (by kernel_rfl) (by kernel_rfl) (fun _ _ _ h => h) (Or.inl ⟨by rfl, ?hy0⟩) (by assumption) ?rest0
              case hy0 => (intro w hSw; (try dsimp only at hSw); go_simp; try with_reducible rfl)
              case' rest0 => (simp only [Act.put, List.setIfInBounds_toArray, List.set_cons_zero, List.set_cons_succ])
              refine wpAnyH_take (i := 1) (oi := { dst := some 89, op := Go.Op.move (Go.Operand.tmp 14), type := 2, pos := "laws.go:2165", after := #[], guard := none }) (v := ?_) rfl (by kernel_rfl) (by kernel_rfl) (by kernel_rfl) (fun _ _ _ h => h) (Or.inl ⟨by rfl, ?hy1⟩) (by assumption) ?rest1
              case hy1 => (intro w hSw; (try dsimp only at hSw); go_simp; try with_reducible rfl)
              case' rest1 => (simp only [Act.put, List.setIfInBounds_toArray, List.set_cons_zero, List.set_cons_succ])
              refine wpAnyH_take (i := 3) (oi := { dst := some 91, op := Go.Op.move (Go.Operand.tmp 1), type := 34, pos := "laws.go:2165", after := #[], guard := none }) (v := ?_) rfl (by kernel_rfl) (by kernel_rfl) (by kernel_rfl) (fun _ _ _ h => h) (Or.inl ⟨by rfl, ?hy2⟩) (by assumption) ?rest2
              case hy2 => (intro w hSw; (try dsimp only at hSw); go_simp; try with_reducible rfl)
              case' rest2 => (simp only [Act.put, List.setIfInBounds_toArray, List.set_cons_zero, List.set_cons_succ])
              refine wpAnyH_take (i := 4) (oi := { dst := some 92, op := Go.Op.move (Go.Operand.tmp 9), type := 3, pos := "laws.go:2165", after := #[], guard := none }) (v := ?_) rfl (by kernel_rfl) (by kernel_rfl) (by kernel_rfl) (fun _ _ _ h => h) (Or.inl ⟨by rfl, ?hy3⟩) (by assumption) ?rest3
              case hy3 => (intro w hSw; (try dsimp only at hSw); go_simp; try with_reducible rfl)
              case' rest3 => (simp only [Act.put, List.setIfInBounds_toArray, List.set_cons_zero, List.set_cons_succ])
              refine wpAnyH_take (i := 5) (oi := { dst := some 93, op := Go.Op.binOp Go.BinOp.add 3 (Go.Operand.tmp 92) (Go.Operand.const (Go.Value.int Go.IntKind.i64 30)) 3, type := 3, pos := "laws.go:2165", after := #[{ on := 4, ground := Go.Ground.data }], guard := none }) (v := ?_) rfl (by kernel_rfl) (by kernel_rfl) (by kernel_rfl) (fun _ _ _ h => h) (Or.inl ⟨by rfl, ?hy4⟩) (by assumption) ?rest4
              case hy4 => (intro w hSw; (try dsimp only at hSw); go_simp; try with_reducible rfl)
              case' rest4 => (simp only [Act.put, List.setIfInBounds_toArray, List.set_cons_zero, List.set_cons_succ])
              refine wpAnyH_ready (rs := [2, 6, 14]) (by kernel_rfl) (by simp) ?_
              refine AllReadyH.cons (o := { dst := some 90, op := Go.Op.buildSlice 47 4 #[(0, Go.Operand.const (Go.Value.int Go.IntKind.i64 1)), (1, Go.Operand.const (Go.Value.int Go.IntKind.i64 2)), (2, Go.Operand.const (Go.Value.int Go.IntKind.i64 4)), (3, Go.Operand.const (Go.Value.int Go.IntKind.i64 8))], type := 47, pos := "laws.go:2165", after := #[], guard := none }) rfl (fun K hK => ?_) ?_
              · go_simp
                refine hK.out _ _ ?_ (fun hHeld => ?_)
                · first | assumption | exact ⟨c0', c1'⟩ | exact ⟨j0, j1⟩ | exact ⟨keepCell (below1 _ _) j0, keepCell (below1 _ _) j1⟩ | exact ⟨keepCell (Below.refl _ _).drew c0', keepCell (Below.refl _ _).drew c1'⟩ | exact ⟨keepCell (below1 _ _).drew c0', keepCell (below1 _ _).drew c1'⟩ | exact ⟨keepCell (below2 _ _ _).drew c0', keepCell (below2 _ _ _).drew c1'⟩ | go_keep
                clear hK K
                refine wpAnyH_ready (rs := [6, 14]) (by kernel_rfl) (by simp) ?_
                refine AllReadyH.cons (o := { dst := some 94, op := Go.Op.call { callee := Go.Callee.value (Go.Operand.func 13), args := #[Go.Operand.tmp 91, Go.Operand.tmp 93, Go.Operand.const (Go.Value.int Go.IntKind.i64 4)], argTypes := #[34, 3, 2] }, type := 2, pos := "laws.go:2165", after := #[{ on := 3, ground := Go.Ground.data }, { on := 5, ground := Go.Ground.data }], guard := none }) rfl (fun K hK => ?_) ?_
                · go_simp; go_at_call 13; (with_reducible refine (CB.out ((wr.alloc (.cells #[.int .i64 1, .int .i64 2, .int .i64 4, .int .i64 8] 2)).drew) (below1 _ _).drew).mono ?_); rintro e wz ⟨rfl, rfl⟩; dsimp only
                  refine hK.out _ _ ?_ (fun hHeld => ?_)
                  · first | assumption | exact ⟨c0', c1'⟩ | exact ⟨j0, j1⟩ | exact ⟨keepCell (below1 _ _) j0, keepCell (below1 _ _) j1⟩ | exact ⟨keepCell (Below.refl _ _).drew c0', keepCell (Below.refl _ _).drew c1'⟩ | exact ⟨keepCell (below1 _ _).drew c0', keepCell (below1 _ _).drew c1'⟩ | exact ⟨keepCell (below2 _ _ _).drew c0', keepCell (below2 _ _ _).drew c1'⟩ | go_keep
                  clear hK K
                  refine wpAnyH_take (i := 7) (oi := { dst := some 95, op := Go.Op.indexAddr 47 (Go.Operand.tmp 90) (Go.Operand.tmp 94), type := 0, pos := "laws.go:2165", after := #[{ on := 2, ground := Go.Ground.data }, { on := 6, ground := Go.Ground.data }], guard := none }) (v := ?_) rfl (by kernel_rfl) (by kernel_rfl) (by kernel_rfl) (fun _ _ _ h => h) (Or.inl ⟨by rfl, ?hy5⟩) (by assumption) ?rest5
                  case hy5 => (intro w hSw; (try dsimp only at hSw); go_simp; try with_reducible rfl)
                  case' rest5 => (simp only [Act.put, List.setIfInBounds_toArray, List.set_cons_zero, List.set_cons_succ])
                  refine wpAnyH_ready (rs := [8, 14]) (by kernel_rfl) (by simp) ?_
                  refine AllReadyH.cons (o := { dst := some 96, op := Go.Op.load 2 (Go.Operand.tmp 95), type := 2, pos := "laws.go:2165", after := #[{ on := 7, ground := Go.Ground.data }], guard := none }) rfl (fun K hK => ?_) ?_
                  · go_simp
                    refine hK.out _ _ ?_ (fun hHeld => ?_)
                    · first | assumption | exact ⟨c0', c1'⟩ | exact ⟨j0, j1⟩ | exact ⟨keepCell (below1 _ _) j0, keepCell (below1 _ _) j1⟩ | exact ⟨keepCell (Below.refl _ _).drew c0', keepCell (Below.refl _ _).drew c1'⟩ | exact ⟨keepCell (below1 _ _).drew c0', keepCell (below1 _ _).drew c1'⟩ | exact ⟨keepCell (below2 _ _ _).drew c0', keepCell (below2 _ _ _).drew c1'⟩ | go_keep
                    clear hK K
                    refine wpAnyH_ready (rs := [9, 14]) (by kernel_rfl) (by simp) ?_
                    refine AllReadyH.cons (o := { dst := some 97, op := Go.Op.call { callee := Go.Callee.value (Go.Operand.func 15), args := #[Go.Operand.tmp 88, Go.Operand.tmp 89, Go.Operand.tmp 96], argTypes := #[38, 2, 2] }, type := 45, pos := "laws.go:2165", after := #[{ on := 0, ground := Go.Ground.data }, { on := 1, ground := Go.Ground.data }, { on := 8, ground := Go.Ground.data }, { on := 6, ground := Go.Ground.chain }], guard := none }) rfl (fun K hK => ?_) ?_
                    · go_simp; go_at_call 15; (with_reducible refine (CAl.out Rm cm ((wr.alloc (.cells #[.int .i64 1, .int .i64 2, .int .i64 4, .int .i64 8] 2)).drew) ((HRM.out.below (below1 _ _).drew).bks (Nat.zero_le _))).mono ?_); rintro e w3 ⟨R3, c3, rfl, ho3, hb3, hz3⟩; have hbw : Below wr.heap.size wr w3 := (below1 _ _).drew.trans (hb3.mono (by simp)); have j0 := keepCell hbw c0'; have j1 := keepCell hbw c1'; obtain ⟨g3, hg3, hl3, hn3⟩ := ho3.num2 hz3; have hrow : RowIn w3 M.free R3 g3 := ⟨hn3, hl3⟩; have hg4 : wr.heap.size ≤ g3 := (by simp at hg3; omega); have hg5 : wr.heap.size < g3 := (by simp at hg3; omega); dsimp only
                      refine hK.out _ _ ?_ (fun hHeld => ?_)
                      · first | assumption | exact ⟨c0', c1'⟩ | exact ⟨j0, j1⟩ | exact ⟨keepCell (below1 _ _) j0, keepCell (below1 _ _) j1⟩ | exact ⟨keepCell (Below.refl _ _).drew c0', keepCell (Below.refl _ _).drew c1'⟩ | exact ⟨keepCell (below1 _ _).drew c0', keepCell (below1 _ _).drew c1'⟩ | exact ⟨keepCell (below2 _ _ _).drew c0', keepCell (below2 _ _ _).drew c1'⟩ | go_keep
                      clear hK K
                      refine wpAnyH_take (i := 10) (oi := { dst := some 87, op := Go.Op.move (Go.Operand.tmp 97), type := 45, pos := "laws.go:2165", after := #[{ on := 9, ground := Go.Ground.data }], guard := none }) (v := ?_) rfl (by kernel_rfl) (by kernel_rfl) (by kernel_rfl) (fun _ _ _ h => h) (Or.inl ⟨by rfl, ?hy6⟩) (by assumption) ?rest6
                      case hy6 => (intro w hSw; (try dsimp only at hSw); go_simp; try with_reducible rfl)
                      case' rest6 => (simp only [Act.put, List.setIfInBounds_toArray, List.set_cons_zero, List.set_cons_succ])
                      refine wpAnyH_take (i := 11) (oi := { dst := some 98, op := Go.Op.extract (Go.Operand.tmp 87) 0, type := 38, pos := "laws.go:2165", after := #[{ on := 10, ground := Go.Ground.data }], guard := none }) (v := ?_) rfl (by kernel_rfl) (by kernel_rfl) (by kernel_rfl) (fun _ _ _ h => h) (Or.inl ⟨by rfl, ?hy7⟩) (by assumption) ?rest7
                      case hy7 => (intro w hSw; (try dsimp only at hSw); go_simp; try with_reducible rfl)
                      case' rest7 => (simp only [Act.put, List.setIfInBounds_toArray, List.set_cons_zero, List.set_cons_succ])
                      refine wpAnyH_take (i := 12) (oi := { dst := some 99, op := Go.Op.extract (Go.Operand.tmp 87) 1, type := 2, pos := "laws.go:2165", after := #[{ on := 10, ground := Go.Ground.data }, { on := 15, ground := Go.Ground.gcOnly Go.Departure.lateStores }], guard := none }) (v := ?_) rfl (by kernel_rfl) (by kernel_rfl) (by kernel_rfl) (fun _ _ _ h => h) (Or.inl ⟨by rfl, ?hy8⟩) (by assumption) ?rest8
                      case hy8 => (intro w hSw; (try dsimp only at hSw); go_simp; try with_reducible rfl)
                      case' rest8 => (simp only [Act.put, List.setIfInBounds_toArray, List.set_cons_zero, List.set_cons_succ])
                      refine wpAnyH_take (i := 13) (oi := { dst := some 100, op := Go.Op.extract (Go.Operand.tmp 87) 2, type := 2, pos := "laws.go:2165", after := #[{ on := 10, ground := Go.Ground.data }, { on := 16, ground := Go.Ground.gcOnly Go.Departure.lateStores }], guard := none }) (v := ?_) rfl (by kernel_rfl) (by kernel_rfl) (by kernel_rfl) (fun _ _ _ h => h) (Or.inl ⟨by rfl, ?hy9⟩) (by assumption) ?rest9
                      case hy9 => (intro w hSw; (try dsimp only at hSw); go_simp; try with_reducible rfl)
                      case' rest9 => (simp only [Act.put, List.setIfInBounds_toArray, List.set_cons_zero, List.set_cons_succ])
                      refine wpAnyH_ready (rs := [14]) (by kernel_rfl) (by simp) ?_
                      refine AllReadyH.cons (o := { dst := some 15, op := Go.Op.alloc 38, type := 0, pos := "laws.go:2165", after := #[], guard := none }) rfl (fun K hK => ?_) ?_
                      · go_simp
                        refine hK.out _ _ ?_ (fun hHeld => ?_)
                        · first | assumption | exact ⟨c0', c1'⟩ | exact ⟨j0, j1⟩ | exact ⟨keepCell (below1 _ _) j0, keepCell (below1 _ _) j1⟩ | exact ⟨keepCell (Below.refl _ _).drew c0', keepCell (Below.refl _ _).drew c1'⟩ | exact ⟨keepCell (below1 _ _).drew c0', keepCell (below1 _ _).drew c1'⟩ | exact ⟨keepCell (below2 _ _ _).drew c0', keepCell (below2 _ _ _).drew c1'⟩ | go_keep
                        clear hK K
                        refine wpAnyH_ready (rs := [15]) (by kernel_rfl) (by simp) ?_
                        refine AllReadyH.cons (o := { dst := none, op := Go.Op.store 38 (Go.Operand.tmp 15) (Go.Operand.tmp 98), type := 0, pos := "laws.go:2165", after := #[{ on := 14, ground := Go.Ground.data }, { on := 11, ground := Go.Ground.data }, { on := 9, ground := Go.Ground.chain }, { on := 0, ground := Go.Ground.phase }, { on := 1, ground := Go.Ground.phase }, { on := 2, ground := Go.Ground.phase }, { on := 3, ground := Go.Ground.phase }, { on := 4, ground := Go.Ground.phase }, { on := 5, ground := Go.Ground.phase }, { on := 6, ground := Go.Ground.phase }, { on := 7, ground := Go.Ground.phase }, { on := 8, ground := Go.Ground.phase }, { on := 9, ground := Go.Ground.phase }, { on := 10, ground := Go.Ground.phase }, { on := 11, ground := Go.Ground.phase }, { on := 12, ground := Go.Ground.textOnly Go.Departure.lateStores }, { on := 13, ground := Go.Ground.textOnly Go.Departure.lateStores }, { on := 14, ground := Go.Ground.phase }], guard := none }) rfl (fun K hK => ?_) ?_
                        · go_simp
                          refine hK.out _ _ ?_ (fun hHeld => ?_)
                          · first | assumption | exact ⟨c0', c1'⟩ | exact ⟨j0, j1⟩ | exact ⟨keepCell (below1 _ _) j0, keepCell (below1 _ _) j1⟩ | exact ⟨keepCell (Below.refl _ _).drew c0', keepCell (Below.refl _ _).drew c1'⟩ | exact ⟨keepCell (below1 _ _).drew c0', keepCell (below1 _ _).drew c1'⟩ | exact ⟨keepCell (below2 _ _ _).drew c0', keepCell (below2 _ _ _).drew c1'⟩ | go_keep
                          clear hK K
                          refine wpAnyH_take (i := 16) (oi := { dst := some 16, op := Go.Op.assign (Go.Operand.tmp 99), type := 2, pos := "laws.go:2165", after := #[{ on := 12, ground := Go.Ground.data }, { on := 15, ground := Go.Ground.chain }, { on := 0, ground := Go.Ground.phase }, { on := 1, ground := Go.Ground.phase }, { on := 2, ground := Go.Ground.phase }, { on := 3, ground := Go.Ground.phase }, { on := 4, ground := Go.Ground.phase }, { on := 5, ground := Go.Ground.phase }, { on := 6, ground := Go.Ground.phase }, { on := 7, ground := Go.Ground.phase }, { on := 8, ground := Go.Ground.phase }, { on := 9, ground := Go.Ground.phase }, { on := 10, ground := Go.Ground.phase }, { on := 11, ground := Go.Ground.phase }, { on := 12, ground := Go.Ground.phase }, { on := 13, ground := Go.Ground.textOnly Go.Departure.lateStores }, { on := 14, ground := Go.Ground.phase }, { on := 15, ground := Go.Ground.phase }], guard := none }) (v := ?_) rfl (by kernel_rfl) (by kernel_rfl) (by kernel_rfl) (fun _ _ _ h => h) (Or.inl ⟨by rfl, ?hy10⟩) (by assumption) ?rest10
                          case hy10 => (intro w hSw; (try dsimp only at hSw); go_simp; try with_reducible rfl)
                          case' rest10 => (simp only [Act.put, List.setIfInBounds_toArray, List.set_cons_zero, List.set_cons_succ])
                          refine wpAnyH_take (i := 17) (oi := { dst := some 17, op := Go.Op.assign (Go.Operand.tmp 100), type := 2, pos := "laws.go:2165", after := #[{ on := 13, ground := Go.Ground.data }, { on := 16, ground := Go.Ground.chain }, { on := 0, ground := Go.Ground.phase }, { on := 1, ground := Go.Ground.phase }, { on := 2, ground := Go.Ground.phase }, { on := 3, ground := Go.Ground.phase }, { on := 4, ground := Go.Ground.phase }, { on := 5, ground := Go.Ground.phase }, { on := 6, ground := Go.Ground.phase }, { on := 7, ground := Go.Ground.phase }, { on := 8, ground := Go.Ground.phase }, { on := 9, ground := Go.Ground.phase }, { on := 10, ground := Go.Ground.phase }, { on := 11, ground := Go.Ground.phase }, { on := 12, ground := Go.Ground.phase }, { on := 13, ground := Go.Ground.phase }, { on := 14, ground := Go.Ground.phase }, { on := 15, ground := Go.Ground.phase }, { on := 16, ground := Go.Ground.phase }], guard := none }) (v := ?_) rfl (by kernel_rfl) (by kernel_rfl) (by kernel_rfl) (fun _ _ _ h => h) (Or.inl ⟨by rfl, ?hy11⟩) (by assumption) ?rest11
                          case hy11 => (intro w hSw; (try dsimp only at hSw); go_simp; try with_reducible rfl)
                          case' rest11 => (simp only [Act.put, List.setIfInBounds_toArray, List.set_cons_zero, List.set_cons_succ])
                          refine wpAnyH_done (by kernel_rfl) ?_ _
                          go_wp2_with fail
                          go_meet
                          exact ⟨_, R3, c3, g3, rfl, rfl, rfl, hbw.size, by go_simp, by go_simp, hrow.below (below1 _ _), hg4, bchain hbw (below1 _ _) hbw.size⟩
                        exact AllReadyH.nil
                      exact AllReadyH.nil
                    refine AllReadyH.cons (o := { dst := some 15, op := Go.Op.alloc 38, type := 0, pos := "laws.go:2165", after := #[], guard := none }) rfl (fun K hK => ?_) ?_
                    · go_simp
                      refine hK.out _ _ ?_ (fun hHeld => ?_)
                      · first | assumption | exact ⟨c0', c1'⟩ | exact ⟨j0, j1⟩ | exact ⟨keepCell (below1 _ _) j0, keepCell (below1 _ _) j1⟩ | exact ⟨keepCell (Below.refl _ _).drew c0', keepCell (Below.refl _ _).drew c1'⟩ | exact ⟨keepCell (below1 _ _).drew c0', keepCell (below1 _ _).drew c1'⟩ | exact ⟨keepCell (below2 _ _ _).drew c0', keepCell (below2 _ _ _).drew c1'⟩ | go_keep
                      clear hK K
                      refine wpAnyH_ready (rs := [9]) (by kernel_rfl) (by simp) ?_
                      refine AllReadyH.cons (o := { dst := some 97, op := Go.Op.call { callee := Go.Callee.value (Go.Operand.func 15), args := #[Go.Operand.tmp 88, Go.Operand.tmp 89, Go.Operand.tmp 96], argTypes := #[38, 2, 2] }, type := 45, pos := "laws.go:2165", after := #[{ on := 0, ground := Go.Ground.data }, { on := 1, ground := Go.Ground.data }, { on := 8, ground := Go.Ground.data }, { on := 6, ground := Go.Ground.chain }], guard := none }) rfl (fun K hK => ?_) ?_
                      · go_simp; go_at_call 15; (with_reducible refine (CAl.out Rm cm (((wr.alloc (.cells #[.int .i64 1, .int .i64 2, .int .i64 4, .int .i64 8] 2)).alloc (.cells #[.string ⟨#[]⟩, .slice none 0 0] 38)).drew) ((HRM.out.below (below2 _ _ _).drew).bks (Nat.zero_le _))).mono ?_); rintro e w3 ⟨R3, c3, rfl, ho3, hb3, hz3⟩; have hbw : Below wr.heap.size wr w3 := (below2 _ _ _).drew.trans (hb3.mono (by simp; omega)); obtain ⟨xb0, xb1, xf⟩ := fresh2b hb3; have j0 := keepCell hbw c0'; have j1 := keepCell hbw c1'; obtain ⟨g3, hg3, hl3, hn3⟩ := ho3.num2 hz3; have hrow : RowIn w3 M.free R3 g3 := ⟨hn3, hl3⟩; have hg4 : wr.heap.size ≤ g3 := (by simp at hg3; omega); have hg5 : wr.heap.size < g3 := (by simp at hg3; omega); have hg6 : wr.heap.size + 1 < g3 := (by simp at hg3; omega); dsimp only
                        refine hK.out _ _ ?_ (fun hHeld => ?_)
                        · first | assumption | exact ⟨c0', c1'⟩ | exact ⟨j0, j1⟩ | exact ⟨keepCell (below1 _ _) j0, keepCell (below1 _ _) j1⟩ | exact ⟨keepCell (Below.refl _ _).drew c0', keepCell (Below.refl _ _).drew c1'⟩ | exact ⟨keepCell (below1 _ _).drew c0', keepCell (below1 _ _).drew c1'⟩ | exact ⟨keepCell (below2 _ _ _).drew c0', keepCell (below2 _ _ _).drew c1'⟩ | go_keep
                        clear hK K
                        refine wpAnyH_take (i := 10) (oi := { dst := some 87, op := Go.Op.move (Go.Operand.tmp 97), type := 45, pos := "laws.go:2165", after := #[{ on := 9, ground := Go.Ground.data }], guard := none }) (v := ?_) rfl (by kernel_rfl) (by kernel_rfl) (by kernel_rfl) (fun _ _ _ h => h) (Or.inl ⟨by rfl, ?hy12⟩) (by assumption) ?rest12
                        case hy12 => (intro w hSw; (try dsimp only at hSw); go_simp; try with_reducible rfl)
                        case' rest12 => (simp only [Act.put, List.setIfInBounds_toArray, List.set_cons_zero, List.set_cons_succ])
                        refine wpAnyH_take (i := 11) (oi := { dst := some 98, op := Go.Op.extract (Go.Operand.tmp 87) 0, type := 38, pos := "laws.go:2165", after := #[{ on := 10, ground := Go.Ground.data }], guard := none }) (v := ?_) rfl (by kernel_rfl) (by kernel_rfl) (by kernel_rfl) (fun _ _ _ h => h) (Or.inl ⟨by rfl, ?hy13⟩) (by assumption) ?rest13
                        case hy13 => (intro w hSw; (try dsimp only at hSw); go_simp; try with_reducible rfl)
                        case' rest13 => (simp only [Act.put, List.setIfInBounds_toArray, List.set_cons_zero, List.set_cons_succ])
                        refine wpAnyH_take (i := 12) (oi := { dst := some 99, op := Go.Op.extract (Go.Operand.tmp 87) 1, type := 2, pos := "laws.go:2165", after := #[{ on := 10, ground := Go.Ground.data }, { on := 15, ground := Go.Ground.gcOnly Go.Departure.lateStores }], guard := none }) (v := ?_) rfl (by kernel_rfl) (by kernel_rfl) (by kernel_rfl) (fun _ _ _ h => h) (Or.inl ⟨by rfl, ?hy14⟩) (by assumption) ?rest14
                        case hy14 => (intro w hSw; (try dsimp only at hSw); go_simp; try with_reducible rfl)
                        case' rest14 => (simp only [Act.put, List.setIfInBounds_toArray, List.set_cons_zero, List.set_cons_succ])
                        refine wpAnyH_take (i := 13) (oi := { dst := some 100, op := Go.Op.extract (Go.Operand.tmp 87) 2, type := 2, pos := "laws.go:2165", after := #[{ on := 10, ground := Go.Ground.data }, { on := 16, ground := Go.Ground.gcOnly Go.Departure.lateStores }], guard := none }) (v := ?_) rfl (by kernel_rfl) (by kernel_rfl) (by kernel_rfl) (fun _ _ _ h => h) (Or.inl ⟨by rfl, ?hy15⟩) (by assumption) ?rest15
                        case hy15 => (intro w hSw; (try dsimp only at hSw); go_simp; try with_reducible rfl)
                        case' rest15 => (simp only [Act.put, List.setIfInBounds_toArray, List.set_cons_zero, List.set_cons_succ])
                        refine wpAnyH_ready (rs := [15]) (by kernel_rfl) (by simp) ?_
                        refine AllReadyH.cons (o := { dst := none, op := Go.Op.store 38 (Go.Operand.tmp 15) (Go.Operand.tmp 98), type := 0, pos := "laws.go:2165", after := #[{ on := 14, ground := Go.Ground.data }, { on := 11, ground := Go.Ground.data }, { on := 9, ground := Go.Ground.chain }, { on := 0, ground := Go.Ground.phase }, { on := 1, ground := Go.Ground.phase }, { on := 2, ground := Go.Ground.phase }, { on := 3, ground := Go.Ground.phase }, { on := 4, ground := Go.Ground.phase }, { on := 5, ground := Go.Ground.phase }, { on := 6, ground := Go.Ground.phase }, { on := 7, ground := Go.Ground.phase }, { on := 8, ground := Go.Ground.phase }, { on := 9, ground := Go.Ground.phase }, { on := 10, ground := Go.Ground.phase }, { on := 11, ground := Go.Ground.phase }, { on := 12, ground := Go.Ground.textOnly Go.Departure.lateStores }, { on := 13, ground := Go.Ground.textOnly Go.Departure.lateStores }, { on := 14, ground := Go.Ground.phase }], guard := none }) rfl (fun K hK => ?_) ?_
                        · go_simp
                          refine hK.out _ _ ?_ (fun hHeld => ?_)
                          · first | assumption | exact ⟨c0', c1'⟩ | exact ⟨j0, j1⟩ | exact ⟨keepCell (below1 _ _) j0, keepCell (below1 _ _) j1⟩ | exact ⟨keepCell (Below.refl _ _).drew c0', keepCell (Below.refl _ _).drew c1'⟩ | exact ⟨keepCell (below1 _ _).drew c0', keepCell (below1 _ _).drew c1'⟩ | exact ⟨keepCell (below2 _ _ _).drew c0', keepCell (below2 _ _ _).drew c1'⟩ | go_keep
                          clear hK K
                          refine wpAnyH_take (i := 16) (oi := { dst := some 16, op := Go.Op.assign (Go.Operand.tmp 99), type := 2, pos := "laws.go:2165", after := #[{ on := 12, ground := Go.Ground.data }, { on := 15, ground := Go.Ground.chain }, { on := 0, ground := Go.Ground.phase }, { on := 1, ground := Go.Ground.phase }, { on := 2, ground := Go.Ground.phase }, { on := 3, ground := Go.Ground.phase }, { on := 4, ground := Go.Ground.phase }, { on := 5, ground := Go.Ground.phase }, { on := 6, ground := Go.Ground.phase }, { on := 7, ground := Go.Ground.phase }, { on := 8, ground := Go.Ground.phase }, { on := 9, ground := Go.Ground.phase }, { on := 10, ground := Go.Ground.phase }, { on := 11, ground := Go.Ground.phase }, { on := 12, ground := Go.Ground.phase }, { on := 13, ground := Go.Ground.textOnly Go.Departure.lateStores }, { on := 14, ground := Go.Ground.phase }, { on := 15, ground := Go.Ground.phase }], guard := none }) (v := ?_) rfl (by kernel_rfl) (by kernel_rfl) (by kernel_rfl) (fun _ _ _ h => h) (Or.inl ⟨by rfl, ?hy16⟩) (by assumption) ?rest16
                          case hy16 => (intro w hSw; (try dsimp only at hSw); go_simp; try with_reducible rfl)
                          case' rest16 => (simp only [Act.put, List.setIfInBounds_toArray, List.set_cons_zero, List.set_cons_succ])
                          refine wpAnyH_take (i := 17) (oi := { dst := some 17, op := Go.Op.assign (Go.Operand.tmp 100), type := 2, pos := "laws.go:2165", after := #[{ on := 13, ground := Go.Ground.data }, { on := 16, ground := Go.Ground.chain }, { on := 0, ground := Go.Ground.phase }, { on := 1, ground := Go.Ground.phase }, { on := 2, ground := Go.Ground.phase }, { on := 3, ground := Go.Ground.phase }, { on := 4, ground := Go.Ground.phase }, { on := 5, ground := Go.Ground.phase }, { on := 6, ground := Go.Ground.phase }, { on := 7, ground := Go.Ground.phase }, { on := 8, ground := Go.Ground.phase }, { on := 9, ground := Go.Ground.phase }, { on := 10, ground := Go.Ground.phase }, { on := 11, ground := Go.Ground.phase }, { on := 12, ground := Go.Ground.phase }, { on := 13, ground := Go.Ground.phase }, { on := 14, ground := Go.Ground.phase }, { on := 15, ground := Go.Ground.phase }, { on := 16, ground := Go.Ground.phase }], guard := none }) (v := ?_) rfl (by kernel_rfl) (by kernel_rfl) (by kernel_rfl) (fun _ _ _ h => h) (Or.inl ⟨by rfl, ?hy17⟩) (by assumption) ?rest17
                          case hy17 => (intro w hSw; (try dsimp only at hSw); go_simp; try with_reducible rfl)
                          case' rest17 => (simp only [Act.put, List.setIfInBounds_toArray, List.set_cons_zero, List.set_cons_succ])
                          refine wpAnyH_done (by kernel_rfl) ?_ _
                          go_wp2_with fail
                          go_meet
                          exact ⟨_, R3, c3, g3, rfl, rfl, rfl, by omega, (setTwo7 xb0 xb1).1, (setTwo7 xb0 xb1).2, hrow.same (by rw [Below.heap_setCell _ _ _ _ (by dsimp only; omega), Below.heap_setCell _ _ _ _ (by dsimp only; omega)]) (by simp), hg4, (hbw.setCell (by dsimp only; omega) _).setCell (by dsimp only; omega) _⟩
                        exact AllReadyH.nil
                      exact AllReadyH.nil
                    exact AllReadyH.nil
                  refine AllReadyH.cons (o := { dst := some 15, op := Go.Op.alloc 38, type := 0, pos := "laws.go:2165", after := #[], guard := none }) rfl (fun K hK => ?_) ?_
                  · go_simp
                    refine hK.out _ _ ?_ (fun hHeld => ?_)
                    · first | assumption | exact ⟨c0', c1'⟩ | exact ⟨j0, j1⟩ | exact ⟨keepCell (below1 _ _) j0, keepCell (below1 _ _) j1⟩ | exact ⟨keepCell (Below.refl _ _).drew c0', keepCell (Below.refl _ _).drew c1'⟩ | exact ⟨keepCell (below1 _ _).drew c0', keepCell (below1 _ _).drew c1'⟩ | exact ⟨keepCell (below2 _ _ _).drew c0', keepCell (below2 _ _ _).drew c1'⟩ | go_keep
                    clear hK K
                    refine wpAnyH_ready (rs := [8]) (by kernel_rfl) (by simp) ?_
                    refine AllReadyH.cons (o := { dst := some 96, op := Go.Op.load 2 (Go.Operand.tmp 95), type := 2, pos := "laws.go:2165", after := #[{ on := 7, ground := Go.Ground.data }], guard := none }) rfl (fun K hK => ?_) ?_
                    · go_simp
                      refine hK.out _ _ ?_ (fun hHeld => ?_)
                      · first | assumption | exact ⟨c0', c1'⟩ | exact ⟨j0, j1⟩ | exact ⟨keepCell (below1 _ _) j0, keepCell (below1 _ _) j1⟩ | exact ⟨keepCell (Below.refl _ _).drew c0', keepCell (Below.refl _ _).drew c1'⟩ | exact ⟨keepCell (below1 _ _).drew c0', keepCell (below1 _ _).drew c1'⟩ | exact ⟨keepCell (below2 _ _ _).drew c0', keepCell (below2 _ _ _).drew c1'⟩ | go_keep
                      clear hK K
                      refine wpAnyH_ready (rs := [9]) (by kernel_rfl) (by simp) ?_
                      refine AllReadyH.cons (o := { dst := some 97, op := Go.Op.call { callee := Go.Callee.value (Go.Operand.func 15), args := #[Go.Operand.tmp 88, Go.Operand.tmp 89, Go.Operand.tmp 96], argTypes := #[38, 2, 2] }, type := 45, pos := "laws.go:2165", after := #[{ on := 0, ground := Go.Ground.data }, { on := 1, ground := Go.Ground.data }, { on := 8, ground := Go.Ground.data }, { on := 6, ground := Go.Ground.chain }], guard := none }) rfl (fun K hK => ?_) ?_
                      · go_simp; go_at_call 15; (with_reducible refine (CAl.out Rm cm (((wr.alloc (.cells #[.int .i64 1, .int .i64 2, .int .i64 4, .int .i64 8] 2)).alloc (.cells #[.string ⟨#[]⟩, .slice none 0 0] 38)).drew) ((HRM.out.below (below2 _ _ _).drew).bks (Nat.zero_le _))).mono ?_); rintro e w3 ⟨R3, c3, rfl, ho3, hb3, hz3⟩; have hbw : Below wr.heap.size wr w3 := (below2 _ _ _).drew.trans (hb3.mono (by simp; omega)); obtain ⟨xb0, xb1, xf⟩ := fresh2b hb3; have j0 := keepCell hbw c0'; have j1 := keepCell hbw c1'; obtain ⟨g3, hg3, hl3, hn3⟩ := ho3.num2 hz3; have hrow : RowIn w3 M.free R3 g3 := ⟨hn3, hl3⟩; have hg4 : wr.heap.size ≤ g3 := (by simp at hg3; omega); have hg5 : wr.heap.size < g3 := (by simp at hg3; omega); have hg6 : wr.heap.size + 1 < g3 := (by simp at hg3; omega); dsimp only
                        refine hK.out _ _ ?_ (fun hHeld => ?_)
                        · first | assumption | exact ⟨c0', c1'⟩ | exact ⟨j0, j1⟩ | exact ⟨keepCell (below1 _ _) j0, keepCell (below1 _ _) j1⟩ | exact ⟨keepCell (Below.refl _ _).drew c0', keepCell (Below.refl _ _).drew c1'⟩ | exact ⟨keepCell (below1 _ _).drew c0', keepCell (below1 _ _).drew c1'⟩ | exact ⟨keepCell (below2 _ _ _).drew c0', keepCell (below2 _ _ _).drew c1'⟩ | go_keep
                        clear hK K
                        refine wpAnyH_take (i := 10) (oi := { dst := some 87, op := Go.Op.move (Go.Operand.tmp 97), type := 45, pos := "laws.go:2165", after := #[{ on := 9, ground := Go.Ground.data }], guard := none }) (v := ?_) rfl (by kernel_rfl) (by kernel_rfl) (by kernel_rfl) (fun _ _ _ h => h) (Or.inl ⟨by rfl, ?hy18⟩) (by assumption) ?rest18
                        case hy18 => (intro w hSw; (try dsimp only at hSw); go_simp; try with_reducible rfl)
                        case' rest18 => (simp only [Act.put, List.setIfInBounds_toArray, List.set_cons_zero, List.set_cons_succ])
                        refine wpAnyH_take (i := 11) (oi := { dst := some 98, op := Go.Op.extract (Go.Operand.tmp 87) 0, type := 38, pos := "laws.go:2165", after := #[{ on := 10, ground := Go.Ground.data }], guard := none }) (v := ?_) rfl (by kernel_rfl) (by kernel_rfl) (by kernel_rfl) (fun _ _ _ h => h) (Or.inl ⟨by rfl, ?hy19⟩) (by assumption) ?rest19
                        case hy19 => (intro w hSw; (try dsimp only at hSw); go_simp; try with_reducible rfl)
                        case' rest19 => (simp only [Act.put, List.setIfInBounds_toArray, List.set_cons_zero, List.set_cons_succ])
                        refine wpAnyH_take (i := 12) (oi := { dst := some 99, op := Go.Op.extract (Go.Operand.tmp 87) 1, type := 2, pos := "laws.go:2165", after := #[{ on := 10, ground := Go.Ground.data }, { on := 15, ground := Go.Ground.gcOnly Go.Departure.lateStores }], guard := none }) (v := ?_) rfl (by kernel_rfl) (by kernel_rfl) (by kernel_rfl) (fun _ _ _ h => h) (Or.inl ⟨by rfl, ?hy20⟩) (by assumption) ?rest20
                        case hy20 => (intro w hSw; (try dsimp only at hSw); go_simp; try with_reducible rfl)
                        case' rest20 => (simp only [Act.put, List.setIfInBounds_toArray, List.set_cons_zero, List.set_cons_succ])
                        refine wpAnyH_take (i := 13) (oi := { dst := some 100, op := Go.Op.extract (Go.Operand.tmp 87) 2, type := 2, pos := "laws.go:2165", after := #[{ on := 10, ground := Go.Ground.data }, { on := 16, ground := Go.Ground.gcOnly Go.Departure.lateStores }], guard := none }) (v := ?_) rfl (by kernel_rfl) (by kernel_rfl) (by kernel_rfl) (fun _ _ _ h => h) (Or.inl ⟨by rfl, ?hy21⟩) (by assumption) ?rest21
                        case hy21 => (intro w hSw; (try dsimp only at hSw); go_simp; try with_reducible rfl)
                        case' rest21 => (simp only [Act.put, List.setIfInBounds_toArray, List.set_cons_zero, List.set_cons_succ])
                        refine wpAnyH_ready (rs := [15]) (by kernel_rfl) (by simp) ?_
                        refine AllReadyH.cons (o := { dst := none, op := Go.Op.store 38 (Go.Operand.tmp 15) (Go.Operand.tmp 98), type := 0, pos := "laws.go:2165", after := #[{ on := 14, ground := Go.Ground.data }, { on := 11, ground := Go.Ground.data }, { on := 9, ground := Go.Ground.chain }, { on := 0, ground := Go.Ground.phase }, { on := 1, ground := Go.Ground.phase }, { on := 2, ground := Go.Ground.phase }, { on := 3, ground := Go.Ground.phase }, { on := 4, ground := Go.Ground.phase }, { on := 5, ground := Go.Ground.phase }, { on := 6, ground := Go.Ground.phase }, { on := 7, ground := Go.Ground.phase }, { on := 8, ground := Go.Ground.phase }, { on := 9, ground := Go.Ground.phase }, { on := 10, ground := Go.Ground.phase }, { on := 11, ground := Go.Ground.phase }, { on := 12, ground := Go.Ground.textOnly Go.Departure.lateStores }, { on := 13, ground := Go.Ground.textOnly Go.Departure.lateStores }, { on := 14, ground := Go.Ground.phase }], guard := none }) rfl (fun K hK => ?_) ?_
                        · go_simp
                          refine hK.out _ _ ?_ (fun hHeld => ?_)
                          · first | assumption | exact ⟨c0', c1'⟩ | exact ⟨j0, j1⟩ | exact ⟨keepCell (below1 _ _) j0, keepCell (below1 _ _) j1⟩ | exact ⟨keepCell (Below.refl _ _).drew c0', keepCell (Below.refl _ _).drew c1'⟩ | exact ⟨keepCell (below1 _ _).drew c0', keepCell (below1 _ _).drew c1'⟩ | exact ⟨keepCell (below2 _ _ _).drew c0', keepCell (below2 _ _ _).drew c1'⟩ | go_keep
                          clear hK K
                          refine wpAnyH_take (i := 16) (oi := { dst := some 16, op := Go.Op.assign (Go.Operand.tmp 99), type := 2, pos := "laws.go:2165", after := #[{ on := 12, ground := Go.Ground.data }, { on := 15, ground := Go.Ground.chain }, { on := 0, ground := Go.Ground.phase }, { on := 1, ground := Go.Ground.phase }, { on := 2, ground := Go.Ground.phase }, { on := 3, ground := Go.Ground.phase }, { on := 4, ground := Go.Ground.phase }, { on := 5, ground := Go.Ground.phase }, { on := 6, ground := Go.Ground.phase }, { on := 7, ground := Go.Ground.phase }, { on := 8, ground := Go.Ground.phase }, { on := 9, ground := Go.Ground.phase }, { on := 10, ground := Go.Ground.phase }, { on := 11, ground := Go.Ground.phase }, { on := 12, ground := Go.Ground.phase }, { on := 13, ground := Go.Ground.textOnly Go.Departure.lateStores }, { on := 14, ground := Go.Ground.phase }, { on := 15, ground := Go.Ground.phase }], guard := none }) (v := ?_) rfl (by kernel_rfl) (by kernel_rfl) (by kernel_rfl) (fun _ _ _ h => h) (Or.inl ⟨by rfl, ?hy22⟩) (by assumption) ?rest22
                          case hy22 => (intro w hSw; (try dsimp only at hSw); go_simp; try with_reducible rfl)
                          case' rest22 => (simp only [Act.put, List.setIfInBounds_toArray, List.set_cons_zero, List.set_cons_succ])
                          refine wpAnyH_take (i := 17) (oi := { dst := some 17, op := Go.Op.assign (Go.Operand.tmp 100), type := 2, pos := "laws.go:2165", after := #[{ on := 13, ground := Go.Ground.data }, { on := 16, ground := Go.Ground.chain }, { on := 0, ground := Go.Ground.phase }, { on := 1, ground := Go.Ground.phase }, { on := 2, ground := Go.Ground.phase }, { on := 3, ground := Go.Ground.phase }, { on := 4, ground := Go.Ground.phase }, { on := 5, ground := Go.Ground.phase }, { on := 6, ground := Go.Ground.phase }, { on := 7, ground := Go.Ground.phase }, { on := 8, ground := Go.Ground.phase }, { on := 9, ground := Go.Ground.phase }, { on := 10, ground := Go.Ground.phase }, { on := 11, ground := Go.Ground.phase }, { on := 12, ground := Go.Ground.phase }, { on := 13, ground := Go.Ground.phase }, { on := 14, ground := Go.Ground.phase }, { on := 15, ground := Go.Ground.phase }, { on := 16, ground := Go.Ground.phase }], guard := none }) (v := ?_) rfl (by kernel_rfl) (by kernel_rfl) (by kernel_rfl) (fun _ _ _ h => h) (Or.inl ⟨by rfl, ?hy23⟩) (by assumption) ?rest23
                          case hy23 => (intro w hSw; (try dsimp only at hSw); go_simp; try with_reducible rfl)
                          case' rest23 => (simp only [Act.put, List.setIfInBounds_toArray, List.set_cons_zero, List.set_cons_succ])
                          refine wpAnyH_done (by kernel_rfl) ?_ _
                          go_wp2_with fail
                          go_meet
                          exact ⟨_, R3, c3, g3, rfl, rfl, rfl, by omega, (setTwo7 xb0 xb1).1, (setTwo7 xb0 xb1).2, hrow.same (by rw [Below.heap_setCell _ _ _ _ (by dsimp only; omega), Below.heap_setCell _ _ _ _ (by dsimp only; omega)]) (by simp), hg4, (hbw.setCell (by dsimp only; omega) _).setCell (by dsimp only; omega) _⟩
                        exact AllReadyH.nil
                      exact AllReadyH.nil
                    exact AllReadyH.nil
                  exact AllReadyH.nil
                refine AllReadyH.cons (o := { dst := some 15, op := Go.Op.alloc 38, type := 0, pos := "laws.go:2165", after := #[], guard := none }) rfl (fun K hK => ?_) ?_
                · go_simp
                  refine hK.out _ _ ?_ (fun hHeld => ?_)
                  · first | assumption | exact ⟨c0', c1'⟩ | exact ⟨j0, j1⟩ | exact ⟨keepCell (below1 _ _) j0, keepCell (below1 _ _) j1⟩ | exact ⟨keepCell (Below.refl _ _).drew c0', keepCell (Below.refl _ _).drew c1'⟩ | exact ⟨keepCell (below1 _ _).drew c0', keepCell (below1 _ _).drew c1'⟩ | exact ⟨keepCell (below2 _ _ _).drew c0', keepCell (below2 _ _ _).drew c1'⟩ | go_keep
                  clear hK K
                  refine wpAnyH_ready (rs := [6]) (by kernel_rfl) (by simp) ?_
                  refine AllReadyH.cons (o := { dst := some 94, op := Go.Op.call { callee := Go.Callee.value (Go.Operand.func 13), args := #[Go.Operand.tmp 91, Go.Operand.tmp 93, Go.Operand.const (Go.Value.int Go.IntKind.i64 4)], argTypes := #[34, 3, 2] }, type := 2, pos := "laws.go:2165", after := #[{ on := 3, ground := Go.Ground.data }, { on := 5, ground := Go.Ground.data }], guard := none }) rfl (fun K hK => ?_) ?_
                  · go_simp; go_at_call 13; (with_reducible refine (CB.out (((wr.alloc (.cells #[.int .i64 1, .int .i64 2, .int .i64 4, .int .i64 8] 2)).alloc (.cells #[.string ⟨#[]⟩, .slice none 0 0] 38)).drew) (below2 _ _ _).drew).mono ?_); rintro e wz ⟨rfl, rfl⟩; dsimp only
                    refine hK.out _ _ ?_ (fun hHeld => ?_)
                    · first | assumption | exact ⟨c0', c1'⟩ | exact ⟨j0, j1⟩ | exact ⟨keepCell (below1 _ _) j0, keepCell (below1 _ _) j1⟩ | exact ⟨keepCell (Below.refl _ _).drew c0', keepCell (Below.refl _ _).drew c1'⟩ | exact ⟨keepCell (below1 _ _).drew c0', keepCell (below1 _ _).drew c1'⟩ | exact ⟨keepCell (below2 _ _ _).drew c0', keepCell (below2 _ _ _).drew c1'⟩ | go_keep
                    clear hK K
                    refine wpAnyH_take (i := 7) (oi := { dst := some 95, op := Go.Op.indexAddr 47 (Go.Operand.tmp 90) (Go.Operand.tmp 94), type := 0, pos := "laws.go:2165", after := #[{ on := 2, ground := Go.Ground.data }, { on := 6, ground := Go.Ground.data }], guard := none }) (v := ?_) rfl (by kernel_rfl) (by kernel_rfl) (by kernel_rfl) (fun _ _ _ h => h) (Or.inl ⟨by rfl, ?hy24⟩) (by assumption) ?rest24
                    case hy24 => (intro w hSw; (try dsimp only at hSw); go_simp; try with_reducible rfl)
                    case' rest24 => (simp only [Act.put, List.setIfInBounds_toArray, List.set_cons_zero, List.set_cons_succ])
                    refine wpAnyH_ready (rs := [8]) (by kernel_rfl) (by simp) ?_
                    refine AllReadyH.cons (o := { dst := some 96, op := Go.Op.load 2 (Go.Operand.tmp 95), type := 2, pos := "laws.go:2165", after := #[{ on := 7, ground := Go.Ground.data }], guard := none }) rfl (fun K hK => ?_) ?_
                    · go_simp
                      refine hK.out _ _ ?_ (fun hHeld => ?_)
                      · first | assumption | exact ⟨c0', c1'⟩ | exact ⟨j0, j1⟩ | exact ⟨keepCell (below1 _ _) j0, keepCell (below1 _ _) j1⟩ | exact ⟨keepCell (Below.refl _ _).drew c0', keepCell (Below.refl _ _).drew c1'⟩ | exact ⟨keepCell (below1 _ _).drew c0', keepCell (below1 _ _).drew c1'⟩ | exact ⟨keepCell (below2 _ _ _).drew c0', keepCell (below2 _ _ _).drew c1'⟩ | go_keep
                      clear hK K
                      refine wpAnyH_ready (rs := [9]) (by kernel_rfl) (by simp) ?_
                      refine AllReadyH.cons (o := { dst := some 97, op := Go.Op.call { callee := Go.Callee.value (Go.Operand.func 15), args := #[Go.Operand.tmp 88, Go.Operand.tmp 89, Go.Operand.tmp 96], argTypes := #[38, 2, 2] }, type := 45, pos := "laws.go:2165", after := #[{ on := 0, ground := Go.Ground.data }, { on := 1, ground := Go.Ground.data }, { on := 8, ground := Go.Ground.data }, { on := 6, ground := Go.Ground.chain }], guard := none }) rfl (fun K hK => ?_) ?_
                      · go_simp; go_at_call 15; (with_reducible refine (CAl.out Rm cm (((wr.alloc (.cells #[.int .i64 1, .int .i64 2, .int .i64 4, .int .i64 8] 2)).alloc (.cells #[.string ⟨#[]⟩, .slice none 0 0] 38)).drew) ((HRM.out.below (below2 _ _ _).drew).bks (Nat.zero_le _))).mono ?_); rintro e w3 ⟨R3, c3, rfl, ho3, hb3, hz3⟩; have hbw : Below wr.heap.size wr w3 := (below2 _ _ _).drew.trans (hb3.mono (by simp; omega)); obtain ⟨xb0, xb1, xf⟩ := fresh2b hb3; have j0 := keepCell hbw c0'; have j1 := keepCell hbw c1'; obtain ⟨g3, hg3, hl3, hn3⟩ := ho3.num2 hz3; have hrow : RowIn w3 M.free R3 g3 := ⟨hn3, hl3⟩; have hg4 : wr.heap.size ≤ g3 := (by simp at hg3; omega); have hg5 : wr.heap.size < g3 := (by simp at hg3; omega); have hg6 : wr.heap.size + 1 < g3 := (by simp at hg3; omega); dsimp only
                        refine hK.out _ _ ?_ (fun hHeld => ?_)
                        · first | assumption | exact ⟨c0', c1'⟩ | exact ⟨j0, j1⟩ | exact ⟨keepCell (below1 _ _) j0, keepCell (below1 _ _) j1⟩ | exact ⟨keepCell (Below.refl _ _).drew c0', keepCell (Below.refl _ _).drew c1'⟩ | exact ⟨keepCell (below1 _ _).drew c0', keepCell (below1 _ _).drew c1'⟩ | exact ⟨keepCell (below2 _ _ _).drew c0', keepCell (below2 _ _ _).drew c1'⟩ | go_keep
                        clear hK K
                        refine wpAnyH_take (i := 10) (oi := { dst := some 87, op := Go.Op.move (Go.Operand.tmp 97), type := 45, pos := "laws.go:2165", after := #[{ on := 9, ground := Go.Ground.data }], guard := none }) (v := ?_) rfl (by kernel_rfl) (by kernel_rfl) (by kernel_rfl) (fun _ _ _ h => h) (Or.inl ⟨by rfl, ?hy25⟩) (by assumption) ?rest25
                        case hy25 => (intro w hSw; (try dsimp only at hSw); go_simp; try with_reducible rfl)
                        case' rest25 => (simp only [Act.put, List.setIfInBounds_toArray, List.set_cons_zero, List.set_cons_succ])
                        refine wpAnyH_take (i := 11) (oi := { dst := some 98, op := Go.Op.extract (Go.Operand.tmp 87) 0, type := 38, pos := "laws.go:2165", after := #[{ on := 10, ground := Go.Ground.data }], guard := none }) (v := ?_) rfl (by kernel_rfl) (by kernel_rfl) (by kernel_rfl) (fun _ _ _ h => h) (Or.inl ⟨by rfl, ?hy26⟩) (by assumption) ?rest26
                        case hy26 => (intro w hSw; (try dsimp only at hSw); go_simp; try with_reducible rfl)
                        case' rest26 => (simp only [Act.put, List.setIfInBounds_toArray, List.set_cons_zero, List.set_cons_succ])
                        refine wpAnyH_take (i := 12) (oi := { dst := some 99, op := Go.Op.extract (Go.Operand.tmp 87) 1, type := 2, pos := "laws.go:2165", after := #[{ on := 10, ground := Go.Ground.data }, { on := 15, ground := Go.Ground.gcOnly Go.Departure.lateStores }], guard := none }) (v := ?_) rfl (by kernel_rfl) (by kernel_rfl) (by kernel_rfl) (fun _ _ _ h => h) (Or.inl ⟨by rfl, ?hy27⟩) (by assumption) ?rest27
                        case hy27 => (intro w hSw; (try dsimp only at hSw); go_simp; try with_reducible rfl)
                        case' rest27 => (simp only [Act.put, List.setIfInBounds_toArray, List.set_cons_zero, List.set_cons_succ])
                        refine wpAnyH_take (i := 13) (oi := { dst := some 100, op := Go.Op.extract (Go.Operand.tmp 87) 2, type := 2, pos := "laws.go:2165", after := #[{ on := 10, ground := Go.Ground.data }, { on := 16, ground := Go.Ground.gcOnly Go.Departure.lateStores }], guard := none }) (v := ?_) rfl (by kernel_rfl) (by kernel_rfl) (by kernel_rfl) (fun _ _ _ h => h) (Or.inl ⟨by rfl, ?hy28⟩) (by assumption) ?rest28
                        case hy28 => (intro w hSw; (try dsimp only at hSw); go_simp; try with_reducible rfl)
                        case' rest28 => (simp only [Act.put, List.setIfInBounds_toArray, List.set_cons_zero, List.set_cons_succ])
                        refine wpAnyH_ready (rs := [15]) (by kernel_rfl) (by simp) ?_
                        refine AllReadyH.cons (o := { dst := none, op := Go.Op.store 38 (Go.Operand.tmp 15) (Go.Operand.tmp 98), type := 0, pos := "laws.go:2165", after := #[{ on := 14, ground := Go.Ground.data }, { on := 11, ground := Go.Ground.data }, { on := 9, ground := Go.Ground.chain }, { on := 0, ground := Go.Ground.phase }, { on := 1, ground := Go.Ground.phase }, { on := 2, ground := Go.Ground.phase }, { on := 3, ground := Go.Ground.phase }, { on := 4, ground := Go.Ground.phase }, { on := 5, ground := Go.Ground.phase }, { on := 6, ground := Go.Ground.phase }, { on := 7, ground := Go.Ground.phase }, { on := 8, ground := Go.Ground.phase }, { on := 9, ground := Go.Ground.phase }, { on := 10, ground := Go.Ground.phase }, { on := 11, ground := Go.Ground.phase }, { on := 12, ground := Go.Ground.textOnly Go.Departure.lateStores }, { on := 13, ground := Go.Ground.textOnly Go.Departure.lateStores }, { on := 14, ground := Go.Ground.phase }], guard := none }) rfl (fun K hK => ?_) ?_
                        · go_simp
                          refine hK.out _ _ ?_ (fun hHeld => ?_)
                          · first | assumption | exact ⟨c0', c1'⟩ | exact ⟨j0, j1⟩ | exact ⟨keepCell (below1 _ _) j0, keepCell (below1 _ _) j1⟩ | exact ⟨keepCell (Below.refl _ _).drew c0', keepCell (Below.refl _ _).drew c1'⟩ | exact ⟨keepCell (below1 _ _).drew c0', keepCell (below1 _ _).drew c1'⟩ | exact ⟨keepCell (below2 _ _ _).drew c0', keepCell (below2 _ _ _).drew c1'⟩ | go_keep
                          clear hK K
                          refine wpAnyH_take (i := 16) (oi := { dst := some 16, op := Go.Op.assign (Go.Operand.tmp 99), type := 2, pos := "laws.go:2165", after := #[{ on := 12, ground := Go.Ground.data }, { on := 15, ground := Go.Ground.chain }, { on := 0, ground := Go.Ground.phase }, { on := 1, ground := Go.Ground.phase }, { on := 2, ground := Go.Ground.phase }, { on := 3, ground := Go.Ground.phase }, { on := 4, ground := Go.Ground.phase }, { on := 5, ground := Go.Ground.phase }, { on := 6, ground := Go.Ground.phase }, { on := 7, ground := Go.Ground.phase }, { on := 8, ground := Go.Ground.phase }, { on := 9, ground := Go.Ground.phase }, { on := 10, ground := Go.Ground.phase }, { on := 11, ground := Go.Ground.phase }, { on := 12, ground := Go.Ground.phase }, { on := 13, ground := Go.Ground.textOnly Go.Departure.lateStores }, { on := 14, ground := Go.Ground.phase }, { on := 15, ground := Go.Ground.phase }], guard := none }) (v := ?_) rfl (by kernel_rfl) (by kernel_rfl) (by kernel_rfl) (fun _ _ _ h => h) (Or.inl ⟨by rfl, ?hy29⟩) (by assumption) ?rest29
                          case hy29 => (intro w hSw; (try dsimp only at hSw); go_simp; try with_reducible rfl)
                          case' rest29 => (simp only [Act.put, List.setIfInBounds_toArray, List.set_cons_zero, List.set_cons_succ])
                          refine wpAnyH_take (i := 17) (oi := { dst := some 17, op := Go.Op.assign (Go.Operand.tmp 100), type := 2, pos := "laws.go:2165", after := #[{ on := 13, ground := Go.Ground.data }, { on := 16, ground := Go.Ground.chain }, { on := 0, ground := Go.Ground.phase }, { on := 1, ground := Go.Ground.phase }, { on := 2, ground := Go.Ground.phase }, { on := 3, ground := Go.Ground.phase }, { on := 4, ground := Go.Ground.phase }, { on := 5, ground := Go.Ground.phase }, { on := 6, ground := Go.Ground.phase }, { on := 7, ground := Go.Ground.phase }, { on := 8, ground := Go.Ground.phase }, { on := 9, ground := Go.Ground.phase }, { on := 10, ground := Go.Ground.phase }, { on := 11, ground := Go.Ground.phase }, { on := 12, ground := Go.Ground.phase }, { on := 13, ground := Go.Ground.phase }, { on := 14, ground := Go.Ground.phase }, { on := 15, ground := Go.Ground.phase }, { on := 16, ground := Go.Ground.phase }], guard := none }) (v := ?_) rfl (by kernel_rfl) (by kernel_rfl) (by kernel_rfl) (fun _ _ _ h => h) (Or.inl ⟨by rfl, ?hy30⟩) (by assumption) ?rest30
                          case hy30 => (intro w hSw; (try dsimp only at hSw); go_simp; try with_reducible rfl)
                          case' rest30 => (simp only [Act.put, List.setIfInBounds_toArray, List.set_cons_zero, List.set_cons_succ])
                          refine wpAnyH_done (by kernel_rfl) ?_ _
                          go_wp2_with fail
                          go_meet
                          exact ⟨_, R3, c3, g3, rfl, rfl, rfl, by omega, (setTwo7 xb0 xb1).1, (setTwo7 xb0 xb1).2, hrow.same (by rw [Below.heap_setCell _ _ _ _ (by dsimp only; omega), Below.heap_setCell _ _ _ _ (by dsimp only; omega)]) (by simp), hg4, (hbw.setCell (by dsimp only; omega) _).setCell (by dsimp only; omega) _⟩
                        exact AllReadyH.nil
                      exact AllReadyH.nil
                    exact AllReadyH.nil
                  exact AllReadyH.nil
                exact AllReadyH.nil
              refine AllReadyH.cons (o := { dst := some 94, op := Go.Op.call { callee := Go.Callee.value (Go.Operand.func 13), args := #[Go.Operand.tmp 91, Go.Operand.tmp 93, Go.Operand.const (Go.Value.int Go.IntKind.i64 4)], argTypes := #[34, 3, 2] }, type := 2, pos := "laws.go:2165", after := #[{ on := 3, ground := Go.Ground.data }, { on := 5, ground := Go.Ground.data }], guard := none }) rfl (fun K hK => ?_) ?_
              · go_simp; go_at_call 13; (with_reducible refine (CB.out (wr.drew) (Below.refl _ _).drew).mono ?_); rintro e wz ⟨rfl, rfl⟩; dsimp only
                refine hK.out _ _ ?_ (fun hHeld => ?_)
                · first | assumption | exact ⟨c0', c1'⟩ | exact ⟨j0, j1⟩ | exact ⟨keepCell (below1 _ _) j0, keepCell (below1 _ _) j1⟩ | exact ⟨keepCell (Below.refl _ _).drew c0', keepCell (Below.refl _ _).drew c1'⟩ | exact ⟨keepCell (below1 _ _).drew c0', keepCell (below1 _ _).drew c1'⟩ | exact ⟨keepCell (below2 _ _ _).drew c0', keepCell (below2 _ _ _).drew c1'⟩ | go_keep
                clear hK K
                refine wpAnyH_ready (rs := [2, 14]) (by kernel_rfl) (by simp) ?_
                refine AllReadyH.cons (o := { dst := some 90, op := Go.Op.buildSlice 47 4 #[(0, Go.Operand.const (Go.Value.int Go.IntKind.i64 1)), (1, Go.Operand.const (Go.Value.int Go.IntKind.i64 2)), (2, Go.Operand.const (Go.Value.int Go.IntKind.i64 4)), (3, Go.Operand.const (Go.Value.int Go.IntKind.i64 8))], type := 47, pos := "laws.go:2165", after := #[], guard := none }) rfl (fun K hK => ?_) ?_
                · go_simp
                  refine hK.out _ _ ?_ (fun hHeld => ?_)
                  · first | assumption | exact ⟨c0', c1'⟩ | exact ⟨j0, j1⟩ | exact ⟨keepCell (below1 _ _) j0, keepCell (below1 _ _) j1⟩ | exact ⟨keepCell (Below.refl _ _).drew c0', keepCell (Below.refl _ _).drew c1'⟩ | exact ⟨keepCell (below1 _ _).drew c0', keepCell (below1 _ _).drew c1'⟩ | exact ⟨keepCell (below2 _ _ _).drew c0', keepCell (below2 _ _ _).drew c1'⟩ | go_keep
                  clear hK K
                  refine wpAnyH_take (i := 7) (oi := { dst := some 95, op := Go.Op.indexAddr 47 (Go.Operand.tmp 90) (Go.Operand.tmp 94), type := 0, pos := "laws.go:2165", after := #[{ on := 2, ground := Go.Ground.data }, { on := 6, ground := Go.Ground.data }], guard := none }) (v := ?_) rfl (by kernel_rfl) (by kernel_rfl) (by kernel_rfl) (fun _ _ _ h => h) (Or.inl ⟨by rfl, ?hy31⟩) (by assumption) ?rest31
                  case hy31 => (intro w hSw; (try dsimp only at hSw); go_simp; try with_reducible rfl)
                  case' rest31 => (simp only [Act.put, List.setIfInBounds_toArray, List.set_cons_zero, List.set_cons_succ])
                  refine wpAnyH_ready (rs := [8, 14]) (by kernel_rfl) (by simp) ?_
                  refine AllReadyH.cons (o := { dst := some 96, op := Go.Op.load 2 (Go.Operand.tmp 95), type := 2, pos := "laws.go:2165", after := #[{ on := 7, ground := Go.Ground.data }], guard := none }) rfl (fun K hK => ?_) ?_
                  · go_simp
                    refine hK.out _ _ ?_ (fun hHeld => ?_)
                    · first | assumption | exact ⟨c0', c1'⟩ | exact ⟨j0, j1⟩ | exact ⟨keepCell (below1 _ _) j0, keepCell (below1 _ _) j1⟩ | exact ⟨keepCell (Below.refl _ _).drew c0', keepCell (Below.refl _ _).drew c1'⟩ | exact ⟨keepCell (below1 _ _).drew c0', keepCell (below1 _ _).drew c1'⟩ | exact ⟨keepCell (below2 _ _ _).drew c0', keepCell (below2 _ _ _).drew c1'⟩ | go_keep
                    clear hK K
                    refine wpAnyH_ready (rs := [9, 14]) (by kernel_rfl) (by simp) ?_
                    refine AllReadyH.cons (o := { dst := some 97, op := Go.Op.call { callee := Go.Callee.value (Go.Operand.func 15), args := #[Go.Operand.tmp 88, Go.Operand.tmp 89, Go.Operand.tmp 96], argTypes := #[38, 2, 2] }, type := 45, pos := "laws.go:2165", after := #[{ on := 0, ground := Go.Ground.data }, { on := 1, ground := Go.Ground.data }, { on := 8, ground := Go.Ground.data }, { on := 6, ground := Go.Ground.chain }], guard := none }) rfl (fun K hK => ?_) ?_
                    · go_simp; go_at_call 15; (with_reducible refine (CAl.out Rm cm ((wr.alloc (.cells #[.int .i64 1, .int .i64 2, .int .i64 4, .int .i64 8] 2)).drew) ((HRM.out.below (below1 _ _).drew).bks (Nat.zero_le _))).mono ?_); rintro e w3 ⟨R3, c3, rfl, ho3, hb3, hz3⟩; have hbw : Below wr.heap.size wr w3 := (below1 _ _).drew.trans (hb3.mono (by simp)); have j0 := keepCell hbw c0'; have j1 := keepCell hbw c1'; obtain ⟨g3, hg3, hl3, hn3⟩ := ho3.num2 hz3; have hrow : RowIn w3 M.free R3 g3 := ⟨hn3, hl3⟩; have hg4 : wr.heap.size ≤ g3 := (by simp at hg3; omega); have hg5 : wr.heap.size < g3 := (by simp at hg3; omega); dsimp only
                      refine hK.out _ _ ?_ (fun hHeld => ?_)
                      · first | assumption | exact ⟨c0', c1'⟩ | exact ⟨j0, j1⟩ | exact ⟨keepCell (below1 _ _) j0, keepCell (below1 _ _) j1⟩ | exact ⟨keepCell (Below.refl _ _).drew c0', keepCell (Below.refl _ _).drew c1'⟩ | exact ⟨keepCell (below1 _ _).drew c0', keepCell (below1 _ _).drew c1'⟩ | exact ⟨keepCell (below2 _ _ _).drew c0', keepCell (below2 _ _ _).drew c1'⟩ | go_keep
                      clear hK K
                      refine wpAnyH_take (i := 10) (oi := { dst := some 87, op := Go.Op.move (Go.Operand.tmp 97), type := 45, pos := "laws.go:2165", after := #[{ on := 9, ground := Go.Ground.data }], guard := none }) (v := ?_) rfl (by kernel_rfl) (by kernel_rfl) (by kernel_rfl) (fun _ _ _ h => h) (Or.inl ⟨by rfl, ?hy32⟩) (by assumption) ?rest32
                      case hy32 => (intro w hSw; (try dsimp only at hSw); go_simp; try with_reducible rfl)
                      case' rest32 => (simp only [Act.put, List.setIfInBounds_toArray, List.set_cons_zero, List.set_cons_succ])
                      refine wpAnyH_take (i := 11) (oi := { dst := some 98, op := Go.Op.extract (Go.Operand.tmp 87) 0, type := 38, pos := "laws.go:2165", after := #[{ on := 10, ground := Go.Ground.data }], guard := none }) (v := ?_) rfl (by kernel_rfl) (by kernel_rfl) (by kernel_rfl) (fun _ _ _ h => h) (Or.inl ⟨by rfl, ?hy33⟩) (by assumption) ?rest33
                      case hy33 => (intro w hSw; (try dsimp only at hSw); go_simp; try with_reducible rfl)
                      case' rest33 => (simp only [Act.put, List.setIfInBounds_toArray, List.set_cons_zero, List.set_cons_succ])
                      refine wpAnyH_take (i := 12) (oi := { dst := some 99, op := Go.Op.extract (Go.Operand.tmp 87) 1, type := 2, pos := "laws.go:2165", after := #[{ on := 10, ground := Go.Ground.data }, { on := 15, ground := Go.Ground.gcOnly Go.Departure.lateStores }], guard := none }) (v := ?_) rfl (by kernel_rfl) (by kernel_rfl) (by kernel_rfl) (fun _ _ _ h => h) (Or.inl ⟨by rfl, ?hy34⟩) (by assumption) ?rest34
                      case hy34 => (intro w hSw; (try dsimp only at hSw); go_simp; try with_reducible rfl)
                      case' rest34 => (simp only [Act.put, List.setIfInBounds_toArray, List.set_cons_zero, List.set_cons_succ])
                      refine wpAnyH_take (i := 13) (oi := { dst := some 100, op := Go.Op.extract (Go.Operand.tmp 87) 2, type := 2, pos := "laws.go:2165", after := #[{ on := 10, ground := Go.Ground.data }, { on := 16, ground := Go.Ground.gcOnly Go.Departure.lateStores }], guard := none }) (v := ?_) rfl (by kernel_rfl) (by kernel_rfl) (by kernel_rfl) (fun _ _ _ h => h) (Or.inl ⟨by rfl, ?hy35⟩) (by assumption) ?rest35
                      case hy35 => (intro w hSw; (try dsimp only at hSw); go_simp; try with_reducible rfl)
                      case' rest35 => (simp only [Act.put, List.setIfInBounds_toArray, List.set_cons_zero, List.set_cons_succ])
                      refine wpAnyH_ready (rs := [14]) (by kernel_rfl) (by simp) ?_
                      refine AllReadyH.cons (o := { dst := some 15, op := Go.Op.alloc 38, type := 0, pos := "laws.go:2165", after := #[], guard := none }) rfl (fun K hK => ?_) ?_
                      · go_simp
                        refine hK.out _ _ ?_ (fun hHeld => ?_)
                        · first | assumption | exact ⟨c0', c1'⟩ | exact ⟨j0, j1⟩ | exact ⟨keepCell (below1 _ _) j0, keepCell (below1 _ _) j1⟩ | exact ⟨keepCell (Below.refl _ _).drew c0', keepCell (Below.refl _ _).drew c1'⟩ | exact ⟨keepCell (below1 _ _).drew c0', keepCell (below1 _ _).drew c1'⟩ | exact ⟨keepCell (below2 _ _ _).drew c0', keepCell (below2 _ _ _).drew c1'⟩ | go_keep
                        clear hK K
                        refine wpAnyH_ready (rs := [15]) (by kernel_rfl) (by simp) ?_
                        refine AllReadyH.cons (o := { dst := none, op := Go.Op.store 38 (Go.Operand.tmp 15) (Go.Operand.tmp 98), type := 0, pos := "laws.go:2165", after := #[{ on := 14, ground := Go.Ground.data }, { on := 11, ground := Go.Ground.data }, { on := 9, ground := Go.Ground.chain }, { on := 0, ground := Go.Ground.phase }, { on := 1, ground := Go.Ground.phase }, { on := 2, ground := Go.Ground.phase }, { on := 3, ground := Go.Ground.phase }, { on := 4, ground := Go.Ground.phase }, { on := 5, ground := Go.Ground.phase }, { on := 6, ground := Go.Ground.phase }, { on := 7, ground := Go.Ground.phase }, { on := 8, ground := Go.Ground.phase }, { on := 9, ground := Go.Ground.phase }, { on := 10, ground := Go.Ground.phase }, { on := 11, ground := Go.Ground.phase }, { on := 12, ground := Go.Ground.textOnly Go.Departure.lateStores }, { on := 13, ground := Go.Ground.textOnly Go.Departure.lateStores }, { on := 14, ground := Go.Ground.phase }], guard := none }) rfl (fun K hK => ?_) ?_
                        · go_simp
                          refine hK.out _ _ ?_ (fun hHeld => ?_)
                          · first | assumption | exact ⟨c0', c1'⟩ | exact ⟨j0, j1⟩ | exact ⟨keepCell (below1 _ _) j0, keepCell (below1 _ _) j1⟩ | exact ⟨keepCell (Below.refl _ _).drew c0', keepCell (Below.refl _ _).drew c1'⟩ | exact ⟨keepCell (below1 _ _).drew c0', keepCell (below1 _ _).drew c1'⟩ | exact ⟨keepCell (below2 _ _ _).drew c0', keepCell (below2 _ _ _).drew c1'⟩ | go_keep
                          clear hK K
                          refine wpAnyH_take (i := 16) (oi := { dst := some 16, op := Go.Op.assign (Go.Operand.tmp 99), type := 2, pos := "laws.go:2165", after := #[{ on := 12, ground := Go.Ground.data }, { on := 15, ground := Go.Ground.chain }, { on := 0, ground := Go.Ground.phase }, { on := 1, ground := Go.Ground.phase }, { on := 2, ground := Go.Ground.phase }, { on := 3, ground := Go.Ground.phase }, { on := 4, ground := Go.Ground.phase }, { on := 5, ground := Go.Ground.phase }, { on := 6, ground := Go.Ground.phase }, { on := 7, ground := Go.Ground.phase }, { on := 8, ground := Go.Ground.phase }, { on := 9, ground := Go.Ground.phase }, { on := 10, ground := Go.Ground.phase }, { on := 11, ground := Go.Ground.phase }, { on := 12, ground := Go.Ground.phase }, { on := 13, ground := Go.Ground.textOnly Go.Departure.lateStores }, { on := 14, ground := Go.Ground.phase }, { on := 15, ground := Go.Ground.phase }], guard := none }) (v := ?_) rfl (by kernel_rfl) (by kernel_rfl) (by kernel_rfl) (fun _ _ _ h => h) (Or.inl ⟨by rfl, ?hy36⟩) (by assumption) ?rest36
                          case hy36 => (intro w hSw; (try dsimp only at hSw); go_simp; try with_reducible rfl)
                          case' rest36 => (simp only [Act.put, List.setIfInBounds_toArray, List.set_cons_zero, List.set_cons_succ])
                          refine wpAnyH_take (i := 17) (oi := { dst := some 17, op := Go.Op.assign (Go.Operand.tmp 100), type := 2, pos := "laws.go:2165", after := #[{ on := 13, ground := Go.Ground.data }, { on := 16, ground := Go.Ground.chain }, { on := 0, ground := Go.Ground.phase }, { on := 1, ground := Go.Ground.phase }, { on := 2, ground := Go.Ground.phase }, { on := 3, ground := Go.Ground.phase }, { on := 4, ground := Go.Ground.phase }, { on := 5, ground := Go.Ground.phase }, { on := 6, ground := Go.Ground.phase }, { on := 7, ground := Go.Ground.phase }, { on := 8, ground := Go.Ground.phase }, { on := 9, ground := Go.Ground.phase }, { on := 10, ground := Go.Ground.phase }, { on := 11, ground := Go.Ground.phase }, { on := 12, ground := Go.Ground.phase }, { on := 13, ground := Go.Ground.phase }, { on := 14, ground := Go.Ground.phase }, { on := 15, ground := Go.Ground.phase }, { on := 16, ground := Go.Ground.phase }], guard := none }) (v := ?_) rfl (by kernel_rfl) (by kernel_rfl) (by kernel_rfl) (fun _ _ _ h => h) (Or.inl ⟨by rfl, ?hy37⟩) (by assumption) ?rest37
                          case hy37 => (intro w hSw; (try dsimp only at hSw); go_simp; try with_reducible rfl)
                          case' rest37 => (simp only [Act.put, List.setIfInBounds_toArray, List.set_cons_zero, List.set_cons_succ])
                          refine wpAnyH_done (by kernel_rfl) ?_ _
                          go_wp2_with fail
                          go_meet
                          exact ⟨_, R3, c3, g3, rfl, rfl, rfl, hbw.size, by go_simp, by go_simp, hrow.below (below1 _ _), hg4, bchain hbw (below1 _ _) hbw.size⟩
                        exact AllReadyH.nil
                      exact AllReadyH.nil
                    refine AllReadyH.cons (o := { dst := some 15, op := Go.Op.alloc 38, type := 0, pos := "laws.go:2165", after := #[], guard := none }) rfl (fun K hK => ?_) ?_
                    · go_simp
                      refine hK.out _ _ ?_ (fun hHeld => ?_)
                      · first | assumption | exact ⟨c0', c1'⟩ | exact ⟨j0, j1⟩ | exact ⟨keepCell (below1 _ _) j0, keepCell (below1 _ _) j1⟩ | exact ⟨keepCell (Below.refl _ _).drew c0', keepCell (Below.refl _ _).drew c1'⟩ | exact ⟨keepCell (below1 _ _).drew c0', keepCell (below1 _ _).drew c1'⟩ | exact ⟨keepCell (below2 _ _ _).drew c0', keepCell (below2 _ _ _).drew c1'⟩ | go_keep
                      clear hK K
                      refine wpAnyH_ready (rs := [9]) (by kernel_rfl) (by simp) ?_
                      refine AllReadyH.cons (o := { dst := some 97, op := Go.Op.call { callee := Go.Callee.value (Go.Operand.func 15), args := #[Go.Operand.tmp 88, Go.Operand.tmp 89, Go.Operand.tmp 96], argTypes := #[38, 2, 2] }, type := 45, pos := "laws.go:2165", after := #[{ on := 0, ground := Go.Ground.data }, { on := 1, ground := Go.Ground.data }, { on := 8, ground := Go.Ground.data }, { on := 6, ground := Go.Ground.chain }], guard := none }) rfl (fun K hK => ?_) ?_
                      · go_simp; go_at_call 15; (with_reducible refine (CAl.out Rm cm (((wr.alloc (.cells #[.int .i64 1, .int .i64 2, .int .i64 4, .int .i64 8] 2)).alloc (.cells #[.string ⟨#[]⟩, .slice none 0 0] 38)).drew) ((HRM.out.below (below2 _ _ _).drew).bks (Nat.zero_le _))).mono ?_); rintro e w3 ⟨R3, c3, rfl, ho3, hb3, hz3⟩; have hbw : Below wr.heap.size wr w3 := (below2 _ _ _).drew.trans (hb3.mono (by simp; omega)); obtain ⟨xb0, xb1, xf⟩ := fresh2b hb3; have j0 := keepCell hbw c0'; have j1 := keepCell hbw c1'; obtain ⟨g3, hg3, hl3, hn3⟩ := ho3.num2 hz3; have hrow : RowIn w3 M.free R3 g3 := ⟨hn3, hl3⟩; have hg4 : wr.heap.size ≤ g3 := (by simp at hg3; omega); have hg5 : wr.heap.size < g3 := (by simp at hg3; omega); have hg6 : wr.heap.size + 1 < g3 := (by simp at hg3; omega); dsimp only
                        refine hK.out _ _ ?_ (fun hHeld => ?_)
                        · first | assumption | exact ⟨c0', c1'⟩ | exact ⟨j0, j1⟩ | exact ⟨keepCell (below1 _ _) j0, keepCell (below1 _ _) j1⟩ | exact ⟨keepCell (Below.refl _ _).drew c0', keepCell (Below.refl _ _).drew c1'⟩ | exact ⟨keepCell (below1 _ _).drew c0', keepCell (below1 _ _).drew c1'⟩ | exact ⟨keepCell (below2 _ _ _).drew c0', keepCell (below2 _ _ _).drew c1'⟩ | go_keep
                        clear hK K
                        refine wpAnyH_take (i := 10) (oi := { dst := some 87, op := Go.Op.move (Go.Operand.tmp 97), type := 45, pos := "laws.go:2165", after := #[{ on := 9, ground := Go.Ground.data }], guard := none }) (v := ?_) rfl (by kernel_rfl) (by kernel_rfl) (by kernel_rfl) (fun _ _ _ h => h) (Or.inl ⟨by rfl, ?hy38⟩) (by assumption) ?rest38
                        case hy38 => (intro w hSw; (try dsimp only at hSw); go_simp; try with_reducible rfl)
                        case' rest38 => (simp only [Act.put, List.setIfInBounds_toArray, List.set_cons_zero, List.set_cons_succ])
                        refine wpAnyH_take (i := 11) (oi := { dst := some 98, op := Go.Op.extract (Go.Operand.tmp 87) 0, type := 38, pos := "laws.go:2165", after := #[{ on := 10, ground := Go.Ground.data }], guard := none }) (v := ?_) rfl (by kernel_rfl) (by kernel_rfl) (by kernel_rfl) (fun _ _ _ h => h) (Or.inl ⟨by rfl, ?hy39⟩) (by assumption) ?rest39
                        case hy39 => (intro w hSw; (try dsimp only at hSw); go_simp; try with_reducible rfl)
                        case' rest39 => (simp only [Act.put, List.setIfInBounds_toArray, List.set_cons_zero, List.set_cons_succ])
                        refine wpAnyH_take (i := 12) (oi := { dst := some 99, op := Go.Op.extract (Go.Operand.tmp 87) 1, type := 2, pos := "laws.go:2165", after := #[{ on := 10, ground := Go.Ground.data }, { on := 15, ground := Go.Ground.gcOnly Go.Departure.lateStores }], guard := none }) (v := ?_) rfl (by kernel_rfl) (by kernel_rfl) (by kernel_rfl) (fun _ _ _ h => h) (Or.inl ⟨by rfl, ?hy40⟩) (by assumption) ?rest40
                        case hy40 => (intro w hSw; (try dsimp only at hSw); go_simp; try with_reducible rfl)
                        case' rest40 => (simp only [Act.put, List.setIfInBounds_toArray, List.set_cons_zero, List.set_cons_succ])
                        refine wpAnyH_take (i := 13) (oi := { dst := some 100, op := Go.Op.extract (Go.Operand.tmp 87) 2, type := 2, pos := "laws.go:2165", after := #[{ on := 10, ground := Go.Ground.data }, { on := 16, ground := Go.Ground.gcOnly Go.Departure.lateStores }], guard := none }) (v := ?_) rfl (by kernel_rfl) (by kernel_rfl) (by kernel_rfl) (fun _ _ _ h => h) (Or.inl ⟨by rfl, ?hy41⟩) (by assumption) ?rest41
                        case hy41 => (intro w hSw; (try dsimp only at hSw); go_simp; try with_reducible rfl)
                        case' rest41 => (simp only [Act.put, List.setIfInBounds_toArray, List.set_cons_zero, List.set_cons_succ])
                        refine wpAnyH_ready (rs := [15]) (by kernel_rfl) (by simp) ?_
                        refine AllReadyH.cons (o := { dst := none, op := Go.Op.store 38 (Go.Operand.tmp 15) (Go.Operand.tmp 98), type := 0, pos := "laws.go:2165", after := #[{ on := 14, ground := Go.Ground.data }, { on := 11, ground := Go.Ground.data }, { on := 9, ground := Go.Ground.chain }, { on := 0, ground := Go.Ground.phase }, { on := 1, ground := Go.Ground.phase }, { on := 2, ground := Go.Ground.phase }, { on := 3, ground := Go.Ground.phase }, { on := 4, ground := Go.Ground.phase }, { on := 5, ground := Go.Ground.phase }, { on := 6, ground := Go.Ground.phase }, { on := 7, ground := Go.Ground.phase }, { on := 8, ground := Go.Ground.phase }, { on := 9, ground := Go.Ground.phase }, { on := 10, ground := Go.Ground.phase }, { on := 11, ground := Go.Ground.phase }, { on := 12, ground := Go.Ground.textOnly Go.Departure.lateStores }, { on := 13, ground := Go.Ground.textOnly Go.Departure.lateStores }, { on := 14, ground := Go.Ground.phase }], guard := none }) rfl (fun K hK => ?_) ?_
                        · go_simp
                          refine hK.out _ _ ?_ (fun hHeld => ?_)
                          · first | assumption | exact ⟨c0', c1'⟩ | exact ⟨j0, j1⟩ | exact ⟨keepCell (below1 _ _) j0, keepCell (below1 _ _) j1⟩ | exact ⟨keepCell (Below.refl _ _).drew c0', keepCell (Below.refl _ _).drew c1'⟩ | exact ⟨keepCell (below1 _ _).drew c0', keepCell (below1 _ _).drew c1'⟩ | exact ⟨keepCell (below2 _ _ _).drew c0', keepCell (below2 _ _ _).drew c1'⟩ | go_keep
                          clear hK K
                          refine wpAnyH_take (i := 16) (oi := { dst := some 16, op := Go.Op.assign (Go.Operand.tmp 99), type := 2, pos := "laws.go:2165", after := #[{ on := 12, ground := Go.Ground.data }, { on := 15, ground := Go.Ground.chain }, { on := 0, ground := Go.Ground.phase }, { on := 1, ground := Go.Ground.phase }, { on := 2, ground := Go.Ground.phase }, { on := 3, ground := Go.Ground.phase }, { on := 4, ground := Go.Ground.phase }, { on := 5, ground := Go.Ground.phase }, { on := 6, ground := Go.Ground.phase }, { on := 7, ground := Go.Ground.phase }, { on := 8, ground := Go.Ground.phase }, { on := 9, ground := Go.Ground.phase }, { on := 10, ground := Go.Ground.phase }, { on := 11, ground := Go.Ground.phase }, { on := 12, ground := Go.Ground.phase }, { on := 13, ground := Go.Ground.textOnly Go.Departure.lateStores }, { on := 14, ground := Go.Ground.phase }, { on := 15, ground := Go.Ground.phase }], guard := none }) (v := ?_) rfl (by kernel_rfl) (by kernel_rfl) (by kernel_rfl) (fun _ _ _ h => h) (Or.inl ⟨by rfl, ?hy42⟩) (by assumption) ?rest42
                          case hy42 => (intro w hSw; (try dsimp only at hSw); go_simp; try with_reducible rfl)
                          case' rest42 => (simp only [Act.put, List.setIfInBounds_toArray, List.set_cons_zero, List.set_cons_succ])
                          refine wpAnyH_take (i := 17) (oi := { dst := some 17, op := Go.Op.assign (Go.Operand.tmp 100), type := 2, pos := "laws.go:2165", after := #[{ on := 13, ground := Go.Ground.data }, { on := 16, ground := Go.Ground.chain }, { on := 0, ground := Go.Ground.phase }, { on := 1, ground := Go.Ground.phase }, { on := 2, ground := Go.Ground.phase }, { on := 3, ground := Go.Ground.phase }, { on := 4, ground := Go.Ground.phase }, { on := 5, ground := Go.Ground.phase }, { on := 6, ground := Go.Ground.phase }, { on := 7, ground := Go.Ground.phase }, { on := 8, ground := Go.Ground.phase }, { on := 9, ground := Go.Ground.phase }, { on := 10, ground := Go.Ground.phase }, { on := 11, ground := Go.Ground.phase }, { on := 12, ground := Go.Ground.phase }, { on := 13, ground := Go.Ground.phase }, { on := 14, ground := Go.Ground.phase }, { on := 15, ground := Go.Ground.phase }, { on := 16, ground := Go.Ground.phase }], guard := none }) (v := ?_) rfl (by kernel_rfl) (by kernel_rfl) (by kernel_rfl) (fun _ _ _ h => h) (Or.inl ⟨by rfl, ?hy43⟩) (by assumption) ?rest43
                          case hy43 => (intro w hSw; (try dsimp only at hSw); go_simp; try with_reducible rfl)
                          case' rest43 => (simp only [Act.put, List.setIfInBounds_toArray, List.set_cons_zero, List.set_cons_succ])
                          refine wpAnyH_done (by kernel_rfl) ?_ _
                          go_wp2_with fail
                          go_meet
                          exact ⟨_, R3, c3, g3, rfl, rfl, rfl, by omega, (setTwo7 xb0 xb1).1, (setTwo7 xb0 xb1).2, hrow.same (by rw [Below.heap_setCell _ _ _ _ (by dsimp only; omega), Below.heap_setCell _ _ _ _ (by dsimp only; omega)]) (by simp), hg4, (hbw.setCell (by dsimp only; omega) _).setCell (by dsimp only; omega) _⟩
                        exact AllReadyH.nil
                      exact AllReadyH.nil
                    exact AllReadyH.nil
                  refine AllReadyH.cons (o := { dst := some 15, op := Go.Op.alloc 38, type := 0, pos := "laws.go:2165", after := #[], guard := none }) rfl (fun K hK => ?_) ?_
                  · go_simp
                    refine hK.out _ _ ?_ (fun hHeld => ?_)
                    · first | assumption | exact ⟨c0', c1'⟩ | exact ⟨j0, j1⟩ | exact ⟨keepCell (below1 _ _) j0, keepCell (below1 _ _) j1⟩ | exact ⟨keepCell (Below.refl _ _).drew c0', keepCell (Below.refl _ _).drew c1'⟩ | exact ⟨keepCell (below1 _ _).drew c0', keepCell (below1 _ _).drew c1'⟩ | exact ⟨keepCell (below2 _ _ _).drew c0', keepCell (below2 _ _ _).drew c1'⟩ | go_keep
                    clear hK K
                    refine wpAnyH_ready (rs := [8]) (by kernel_rfl) (by simp) ?_
                    refine AllReadyH.cons (o := { dst := some 96, op := Go.Op.load 2 (Go.Operand.tmp 95), type := 2, pos := "laws.go:2165", after := #[{ on := 7, ground := Go.Ground.data }], guard := none }) rfl (fun K hK => ?_) ?_
                    · go_simp
                      refine hK.out _ _ ?_ (fun hHeld => ?_)
                      · first | assumption | exact ⟨c0', c1'⟩ | exact ⟨j0, j1⟩ | exact ⟨keepCell (below1 _ _) j0, keepCell (below1 _ _) j1⟩ | exact ⟨keepCell (Below.refl _ _).drew c0', keepCell (Below.refl _ _).drew c1'⟩ | exact ⟨keepCell (below1 _ _).drew c0', keepCell (below1 _ _).drew c1'⟩ | exact ⟨keepCell (below2 _ _ _).drew c0', keepCell (below2 _ _ _).drew c1'⟩ | go_keep
                      clear hK K
                      refine wpAnyH_ready (rs := [9]) (by kernel_rfl) (by simp) ?_
                      refine AllReadyH.cons (o := { dst := some 97, op := Go.Op.call { callee := Go.Callee.value (Go.Operand.func 15), args := #[Go.Operand.tmp 88, Go.Operand.tmp 89, Go.Operand.tmp 96], argTypes := #[38, 2, 2] }, type := 45, pos := "laws.go:2165", after := #[{ on := 0, ground := Go.Ground.data }, { on := 1, ground := Go.Ground.data }, { on := 8, ground := Go.Ground.data }, { on := 6, ground := Go.Ground.chain }], guard := none }) rfl (fun K hK => ?_) ?_
                      · go_simp; go_at_call 15; (with_reducible refine (CAl.out Rm cm (((wr.alloc (.cells #[.int .i64 1, .int .i64 2, .int .i64 4, .int .i64 8] 2)).alloc (.cells #[.string ⟨#[]⟩, .slice none 0 0] 38)).drew) ((HRM.out.below (below2 _ _ _).drew).bks (Nat.zero_le _))).mono ?_); rintro e w3 ⟨R3, c3, rfl, ho3, hb3, hz3⟩; have hbw : Below wr.heap.size wr w3 := (below2 _ _ _).drew.trans (hb3.mono (by simp; omega)); obtain ⟨xb0, xb1, xf⟩ := fresh2b hb3; have j0 := keepCell hbw c0'; have j1 := keepCell hbw c1'; obtain ⟨g3, hg3, hl3, hn3⟩ := ho3.num2 hz3; have hrow : RowIn w3 M.free R3 g3 := ⟨hn3, hl3⟩; have hg4 : wr.heap.size ≤ g3 := (by simp at hg3; omega); have hg5 : wr.heap.size < g3 := (by simp at hg3; omega); have hg6 : wr.heap.size + 1 < g3 := (by simp at hg3; omega); dsimp only
                        refine hK.out _ _ ?_ (fun hHeld => ?_)
                        · first | assumption | exact ⟨c0', c1'⟩ | exact ⟨j0, j1⟩ | exact ⟨keepCell (below1 _ _) j0, keepCell (below1 _ _) j1⟩ | exact ⟨keepCell (Below.refl _ _).drew c0', keepCell (Below.refl _ _).drew c1'⟩ | exact ⟨keepCell (below1 _ _).drew c0', keepCell (below1 _ _).drew c1'⟩ | exact ⟨keepCell (below2 _ _ _).drew c0', keepCell (below2 _ _ _).drew c1'⟩ | go_keep
                        clear hK K
                        refine wpAnyH_take (i := 10) (oi := { dst := some 87, op := Go.Op.move (Go.Operand.tmp 97), type := 45, pos := "laws.go:2165", after := #[{ on := 9, ground := Go.Ground.data }], guard := none }) (v := ?_) rfl (by kernel_rfl) (by kernel_rfl) (by kernel_rfl) (fun _ _ _ h => h) (Or.inl ⟨by rfl, ?hy44⟩) (by assumption) ?rest44
                        case hy44 => (intro w hSw; (try dsimp only at hSw); go_simp; try with_reducible rfl)
                        case' rest44 => (simp only [Act.put, List.setIfInBounds_toArray, List.set_cons_zero, List.set_cons_succ])
                        refine wpAnyH_take (i := 11) (oi := { dst := some 98, op := Go.Op.extract (Go.Operand.tmp 87) 0, type := 38, pos := "laws.go:2165", after := #[{ on := 10, ground := Go.Ground.data }], guard := none }) (v := ?_) rfl (by kernel_rfl) (by kernel_rfl) (by kernel_rfl) (fun _ _ _ h => h) (Or.inl ⟨by rfl, ?hy45⟩) (by assumption) ?rest45
                        case hy45 => (intro w hSw; (try dsimp only at hSw); go_simp; try with_reducible rfl)
                        case' rest45 => (simp only [Act.put, List.setIfInBounds_toArray, List.set_cons_zero, List.set_cons_succ])
                        refine wpAnyH_take (i := 12) (oi := { dst := some 99, op := Go.Op.extract (Go.Operand.tmp 87) 1, type := 2, pos := "laws.go:2165", after := #[{ on := 10, ground := Go.Ground.data }, { on := 15, ground := Go.Ground.gcOnly Go.Departure.lateStores }], guard := none }) (v := ?_) rfl (by kernel_rfl) (by kernel_rfl) (by kernel_rfl) (fun _ _ _ h => h) (Or.inl ⟨by rfl, ?hy46⟩) (by assumption) ?rest46
                        case hy46 => (intro w hSw; (try dsimp only at hSw); go_simp; try with_reducible rfl)
                        case' rest46 => (simp only [Act.put, List.setIfInBounds_toArray, List.set_cons_zero, List.set_cons_succ])
                        refine wpAnyH_take (i := 13) (oi := { dst := some 100, op := Go.Op.extract (Go.Operand.tmp 87) 2, type := 2, pos := "laws.go:2165", after := #[{ on := 10, ground := Go.Ground.data }, { on := 16, ground := Go.Ground.gcOnly Go.Departure.lateStores }], guard := none }) (v := ?_) rfl (by kernel_rfl) (by kernel_rfl) (by kernel_rfl) (fun _ _ _ h => h) (Or.inl ⟨by rfl, ?hy47⟩) (by assumption) ?rest47
                        case hy47 => (intro w hSw; (try dsimp only at hSw); go_simp; try with_reducible rfl)
                        case' rest47 => (simp only [Act.put, List.setIfInBounds_toArray, List.set_cons_zero, List.set_cons_succ])
                        refine wpAnyH_ready (rs := [15]) (by kernel_rfl) (by simp) ?_
                        refine AllReadyH.cons (o := { dst := none, op := Go.Op.store 38 (Go.Operand.tmp 15) (Go.Operand.tmp 98), type := 0, pos := "laws.go:2165", after := #[{ on := 14, ground := Go.Ground.data }, { on := 11, ground := Go.Ground.data }, { on := 9, ground := Go.Ground.chain }, { on := 0, ground := Go.Ground.phase }, { on := 1, ground := Go.Ground.phase }, { on := 2, ground := Go.Ground.phase }, { on := 3, ground := Go.Ground.phase }, { on := 4, ground := Go.Ground.phase }, { on := 5, ground := Go.Ground.phase }, { on := 6, ground := Go.Ground.phase }, { on := 7, ground := Go.Ground.phase }, { on := 8, ground := Go.Ground.phase }, { on := 9, ground := Go.Ground.phase }, { on := 10, ground := Go.Ground.phase }, { on := 11, ground := Go.Ground.phase }, { on := 12, ground := Go.Ground.textOnly Go.Departure.lateStores }, { on := 13, ground := Go.Ground.textOnly Go.Departure.lateStores }, { on := 14, ground := Go.Ground.phase }], guard := none }) rfl (fun K hK => ?_) ?_
                        · go_simp
                          refine hK.out _ _ ?_ (fun hHeld => ?_)
                          · first | assumption | exact ⟨c0', c1'⟩ | exact ⟨j0, j1⟩ | exact ⟨keepCell (below1 _ _) j0, keepCell (below1 _ _) j1⟩ | exact ⟨keepCell (Below.refl _ _).drew c0', keepCell (Below.refl _ _).drew c1'⟩ | exact ⟨keepCell (below1 _ _).drew c0', keepCell (below1 _ _).drew c1'⟩ | exact ⟨keepCell (below2 _ _ _).drew c0', keepCell (below2 _ _ _).drew c1'⟩ | go_keep
                          clear hK K
                          refine wpAnyH_take (i := 16) (oi := { dst := some 16, op := Go.Op.assign (Go.Operand.tmp 99), type := 2, pos := "laws.go:2165", after := #[{ on := 12, ground := Go.Ground.data }, { on := 15, ground := Go.Ground.chain }, { on := 0, ground := Go.Ground.phase }, { on := 1, ground := Go.Ground.phase }, { on := 2, ground := Go.Ground.phase }, { on := 3, ground := Go.Ground.phase }, { on := 4, ground := Go.Ground.phase }, { on := 5, ground := Go.Ground.phase }, { on := 6, ground := Go.Ground.phase }, { on := 7, ground := Go.Ground.phase }, { on := 8, ground := Go.Ground.phase }, { on := 9, ground := Go.Ground.phase }, { on := 10, ground := Go.Ground.phase }, { on := 11, ground := Go.Ground.phase }, { on := 12, ground := Go.Ground.phase }, { on := 13, ground := Go.Ground.textOnly Go.Departure.lateStores }, { on := 14, ground := Go.Ground.phase }, { on := 15, ground := Go.Ground.phase }], guard := none }) (v := ?_) rfl (by kernel_rfl) (by kernel_rfl) (by kernel_rfl) (fun _ _ _ h => h) (Or.inl ⟨by rfl, ?hy48⟩) (by assumption) ?rest48
                          case hy48 => (intro w hSw; (try dsimp only at hSw); go_simp; try with_reducible rfl)
                          case' rest48 => (simp only [Act.put, List.setIfInBounds_toArray, List.set_cons_zero, List.set_cons_succ])
                          refine wpAnyH_take (i := 17) (oi := { dst := some 17, op := Go.Op.assign (Go.Operand.tmp 100), type := 2, pos := "laws.go:2165", after := #[{ on := 13, ground := Go.Ground.data }, { on := 16, ground := Go.Ground.chain }, { on := 0, ground := Go.Ground.phase }, { on := 1, ground := Go.Ground.phase }, { on := 2, ground := Go.Ground.phase }, { on := 3, ground := Go.Ground.phase }, { on := 4, ground := Go.Ground.phase }, { on := 5, ground := Go.Ground.phase }, { on := 6, ground := Go.Ground.phase }, { on := 7, ground := Go.Ground.phase }, { on := 8, ground := Go.Ground.phase }, { on := 9, ground := Go.Ground.phase }, { on := 10, ground := Go.Ground.phase }, { on := 11, ground := Go.Ground.phase }, { on := 12, ground := Go.Ground.phase }, { on := 13, ground := Go.Ground.phase }, { on := 14, ground := Go.Ground.phase }, { on := 15, ground := Go.Ground.phase }, { on := 16, ground := Go.Ground.phase }], guard := none }) (v := ?_) rfl (by kernel_rfl) (by kernel_rfl) (by kernel_rfl) (fun _ _ _ h => h) (Or.inl ⟨by rfl, ?hy49⟩) (by assumption) ?rest49
                          case hy49 => (intro w hSw; (try dsimp only at hSw); go_simp; try with_reducible rfl)
                          case' rest49 => (simp only [Act.put, List.setIfInBounds_toArray, List.set_cons_zero, List.set_cons_succ])
                          refine wpAnyH_done (by kernel_rfl) ?_ _
                          go_wp2_with fail
                          go_meet
                          exact ⟨_, R3, c3, g3, rfl, rfl, rfl, by omega, (setTwo7 xb0 xb1).1, (setTwo7 xb0 xb1).2, hrow.same (by rw [Below.heap_setCell _ _ _ _ (by dsimp only; omega), Below.heap_setCell _ _ _ _ (by dsimp only; omega)]) (by simp), hg4, (hbw.setCell (by dsimp only; omega) _).setCell (by dsimp only; omega) _⟩
                        exact AllReadyH.nil
                      exact AllReadyH.nil
                    exact AllReadyH.nil
                  exact AllReadyH.nil
                refine AllReadyH.cons (o := { dst := some 15, op := Go.Op.alloc 38, type := 0, pos := "laws.go:2165", after := #[], guard := none }) rfl (fun K hK => ?_) ?_
                · go_simp
                  refine hK.out _ _ ?_ (fun hHeld => ?_)
                  · first | assumption | exact ⟨c0', c1'⟩ | exact ⟨j0, j1⟩ | exact ⟨keepCell (below1 _ _) j0, keepCell (below1 _ _) j1⟩ | exact ⟨keepCell (Below.refl _ _).drew c0', keepCell (Below.refl _ _).drew c1'⟩ | exact ⟨keepCell (below1 _ _).drew c0', keepCell (below1 _ _).drew c1'⟩ | exact ⟨keepCell (below2 _ _ _).drew c0', keepCell (below2 _ _ _).drew c1'⟩ | go_keep
                  clear hK K
                  refine wpAnyH_ready (rs := [2]) (by kernel_rfl) (by simp) ?_
                  refine AllReadyH.cons (o := { dst := some 90, op := Go.Op.buildSlice 47 4 #[(0, Go.Operand.const (Go.Value.int Go.IntKind.i64 1)), (1, Go.Operand.const (Go.Value.int Go.IntKind.i64 2)), (2, Go.Operand.const (Go.Value.int Go.IntKind.i64 4)), (3, Go.Operand.const (Go.Value.int Go.IntKind.i64 8))], type := 47, pos := "laws.go:2165", after := #[], guard := none }) rfl (fun K hK => ?_) ?_
                  · go_simp
                    refine hK.out _ _ ?_ (fun hHeld => ?_)
                    · first | assumption | exact ⟨c0', c1'⟩ | exact ⟨j0, j1⟩ | exact ⟨keepCell (below1 _ _) j0, keepCell (below1 _ _) j1⟩ | exact ⟨keepCell (Below.refl _ _).drew c0', keepCell (Below.refl _ _).drew c1'⟩ | exact ⟨keepCell (below1 _ _).drew c0', keepCell (below1 _ _).drew c1'⟩ | exact ⟨keepCell (below2 _ _ _).drew c0', keepCell (below2 _ _ _).drew c1'⟩ | go_keep
                    clear hK K
                    refine wpAnyH_take (i := 7) (oi := { dst := some 95, op := Go.Op.indexAddr 47 (Go.Operand.tmp 90) (Go.Operand.tmp 94), type := 0, pos := "laws.go:2165", after := #[{ on := 2, ground := Go.Ground.data }, { on := 6, ground := Go.Ground.data }], guard := none }) (v := ?_) rfl (by kernel_rfl) (by kernel_rfl) (by kernel_rfl) (fun _ _ _ h => h) (Or.inl ⟨by rfl, ?hy50⟩) (by assumption) ?rest50
                    case hy50 => (intro w hSw; (try dsimp only at hSw); go_simp; try with_reducible rfl)
                    case' rest50 => (simp only [Act.put, List.setIfInBounds_toArray, List.set_cons_zero, List.set_cons_succ])
                    refine wpAnyH_ready (rs := [8]) (by kernel_rfl) (by simp) ?_
                    refine AllReadyH.cons (o := { dst := some 96, op := Go.Op.load 2 (Go.Operand.tmp 95), type := 2, pos := "laws.go:2165", after := #[{ on := 7, ground := Go.Ground.data }], guard := none }) rfl (fun K hK => ?_) ?_
                    · go_simp
                      refine hK.out _ _ ?_ (fun hHeld => ?_)
                      · first | assumption | exact ⟨c0', c1'⟩ | exact ⟨j0, j1⟩ | exact ⟨keepCell (below1 _ _) j0, keepCell (below1 _ _) j1⟩ | exact ⟨keepCell (Below.refl _ _).drew c0', keepCell (Below.refl _ _).drew c1'⟩ | exact ⟨keepCell (below1 _ _).drew c0', keepCell (below1 _ _).drew c1'⟩ | exact ⟨keepCell (below2 _ _ _).drew c0', keepCell (below2 _ _ _).drew c1'⟩ | go_keep
                      clear hK K
                      refine wpAnyH_ready (rs := [9]) (by kernel_rfl) (by simp) ?_
                      refine AllReadyH.cons (o := { dst := some 97, op := Go.Op.call { callee := Go.Callee.value (Go.Operand.func 15), args := #[Go.Operand.tmp 88, Go.Operand.tmp 89, Go.Operand.tmp 96], argTypes := #[38, 2, 2] }, type := 45, pos := "laws.go:2165", after := #[{ on := 0, ground := Go.Ground.data }, { on := 1, ground := Go.Ground.data }, { on := 8, ground := Go.Ground.data }, { on := 6, ground := Go.Ground.chain }], guard := none }) rfl (fun K hK => ?_) ?_
                      · go_simp; go_at_call 15; (with_reducible refine (CAl.out Rm cm (((wr.alloc (.cells #[.string ⟨#[]⟩, .slice none 0 0] 38)).alloc (.cells #[.int .i64 1, .int .i64 2, .int .i64 4, .int .i64 8] 2)).drew) ((HRM.out.below (below2 _ _ _).drew).bks (Nat.zero_le _))).mono ?_); rintro e w3 ⟨R3, c3, rfl, ho3, hb3, hz3⟩; have hbw : Below wr.heap.size wr w3 := (below2 _ _ _).drew.trans (hb3.mono (by simp; omega)); obtain ⟨xb0, xb1, xf⟩ := fresh2c hb3; have j0 := keepCell hbw c0'; have j1 := keepCell hbw c1'; obtain ⟨g3, hg3, hl3, hn3⟩ := ho3.num2 hz3; have hrow : RowIn w3 M.free R3 g3 := ⟨hn3, hl3⟩; have hg4 : wr.heap.size ≤ g3 := (by simp at hg3; omega); have hg5 : wr.heap.size < g3 := (by simp at hg3; omega); have hg6 : wr.heap.size + 1 < g3 := (by simp at hg3; omega); dsimp only
                        refine hK.out _ _ ?_ (fun hHeld => ?_)
                        · first | assumption | exact ⟨c0', c1'⟩ | exact ⟨j0, j1⟩ | exact ⟨keepCell (below1 _ _) j0, keepCell (below1 _ _) j1⟩ | exact ⟨keepCell (Below.refl _ _).drew c0', keepCell (Below.refl _ _).drew c1'⟩ | exact ⟨keepCell (below1 _ _).drew c0', keepCell (below1 _ _).drew c1'⟩ | exact ⟨keepCell (below2 _ _ _).drew c0', keepCell (below2 _ _ _).drew c1'⟩ | go_keep
                        clear hK K
                        refine wpAnyH_take (i := 10) (oi := { dst := some 87, op := Go.Op.move (Go.Operand.tmp 97), type := 45, pos := "laws.go:2165", after := #[{ on := 9, ground := Go.Ground.data }], guard := none }) (v := ?_) rfl (by kernel_rfl) (by kernel_rfl) (by kernel_rfl) (fun _ _ _ h => h) (Or.inl ⟨by rfl, ?hy51⟩) (by assumption) ?rest51
                        case hy51 => (intro w hSw; (try dsimp only at hSw); go_simp; try with_reducible rfl)
                        case' rest51 => (simp only [Act.put, List.setIfInBounds_toArray, List.set_cons_zero, List.set_cons_succ])
                        refine wpAnyH_take (i := 11) (oi := { dst := some 98, op := Go.Op.extract (Go.Operand.tmp 87) 0, type := 38, pos := "laws.go:2165", after := #[{ on := 10, ground := Go.Ground.data }], guard := none }) (v := ?_) rfl (by kernel_rfl) (by kernel_rfl) (by kernel_rfl) (fun _ _ _ h => h) (Or.inl ⟨by rfl, ?hy52⟩) (by assumption) ?rest52
                        case hy52 => (intro w hSw; (try dsimp only at hSw); go_simp; try with_reducible rfl)
                        case' rest52 => (simp only [Act.put, List.setIfInBounds_toArray, List.set_cons_zero, List.set_cons_succ])
                        refine wpAnyH_take (i := 12) (oi := { dst := some 99, op := Go.Op.extract (Go.Operand.tmp 87) 1, type := 2, pos := "laws.go:2165", after := #[{ on := 10, ground := Go.Ground.data }, { on := 15, ground := Go.Ground.gcOnly Go.Departure.lateStores }], guard := none }) (v := ?_) rfl (by kernel_rfl) (by kernel_rfl) (by kernel_rfl) (fun _ _ _ h => h) (Or.inl ⟨by rfl, ?hy53⟩) (by assumption) ?rest53
                        case hy53 => (intro w hSw; (try dsimp only at hSw); go_simp; try with_reducible rfl)
                        case' rest53 => (simp only [Act.put, List.setIfInBounds_toArray, List.set_cons_zero, List.set_cons_succ])
                        refine wpAnyH_take (i := 13) (oi := { dst := some 100, op := Go.Op.extract (Go.Operand.tmp 87) 2, type := 2, pos := "laws.go:2165", after := #[{ on := 10, ground := Go.Ground.data }, { on := 16, ground := Go.Ground.gcOnly Go.Departure.lateStores }], guard := none }) (v := ?_) rfl (by kernel_rfl) (by kernel_rfl) (by kernel_rfl) (fun _ _ _ h => h) (Or.inl ⟨by rfl, ?hy54⟩) (by assumption) ?rest54
                        case hy54 => (intro w hSw; (try dsimp only at hSw); go_simp; try with_reducible rfl)
                        case' rest54 => (simp only [Act.put, List.setIfInBounds_toArray, List.set_cons_zero, List.set_cons_succ])
                        refine wpAnyH_ready (rs := [15]) (by kernel_rfl) (by simp) ?_
                        refine AllReadyH.cons (o := { dst := none, op := Go.Op.store 38 (Go.Operand.tmp 15) (Go.Operand.tmp 98), type := 0, pos := "laws.go:2165", after := #[{ on := 14, ground := Go.Ground.data }, { on := 11, ground := Go.Ground.data }, { on := 9, ground := Go.Ground.chain }, { on := 0, ground := Go.Ground.phase }, { on := 1, ground := Go.Ground.phase }, { on := 2, ground := Go.Ground.phase }, { on := 3, ground := Go.Ground.phase }, { on := 4, ground := Go.Ground.phase }, { on := 5, ground := Go.Ground.phase }, { on := 6, ground := Go.Ground.phase }, { on := 7, ground := Go.Ground.phase }, { on := 8, ground := Go.Ground.phase }, { on := 9, ground := Go.Ground.phase }, { on := 10, ground := Go.Ground.phase }, { on := 11, ground := Go.Ground.phase }, { on := 12, ground := Go.Ground.textOnly Go.Departure.lateStores }, { on := 13, ground := Go.Ground.textOnly Go.Departure.lateStores }, { on := 14, ground := Go.Ground.phase }], guard := none }) rfl (fun K hK => ?_) ?_
                        · go_simp
                          refine hK.out _ _ ?_ (fun hHeld => ?_)
                          · first | assumption | exact ⟨c0', c1'⟩ | exact ⟨j0, j1⟩ | exact ⟨keepCell (below1 _ _) j0, keepCell (below1 _ _) j1⟩ | exact ⟨keepCell (Below.refl _ _).drew c0', keepCell (Below.refl _ _).drew c1'⟩ | exact ⟨keepCell (below1 _ _).drew c0', keepCell (below1 _ _).drew c1'⟩ | exact ⟨keepCell (below2 _ _ _).drew c0', keepCell (below2 _ _ _).drew c1'⟩ | go_keep
                          clear hK K
                          refine wpAnyH_take (i := 16) (oi := { dst := some 16, op := Go.Op.assign (Go.Operand.tmp 99), type := 2, pos := "laws.go:2165", after := #[{ on := 12, ground := Go.Ground.data }, { on := 15, ground := Go.Ground.chain }, { on := 0, ground := Go.Ground.phase }, { on := 1, ground := Go.Ground.phase }, { on := 2, ground := Go.Ground.phase }, { on := 3, ground := Go.Ground.phase }, { on := 4, ground := Go.Ground.phase }, { on := 5, ground := Go.Ground.phase }, { on := 6, ground := Go.Ground.phase }, { on := 7, ground := Go.Ground.phase }, { on := 8, ground := Go.Ground.phase }, { on := 9, ground := Go.Ground.phase }, { on := 10, ground := Go.Ground.phase }, { on := 11, ground := Go.Ground.phase }, { on := 12, ground := Go.Ground.phase }, { on := 13, ground := Go.Ground.textOnly Go.Departure.lateStores }, { on := 14, ground := Go.Ground.phase }, { on := 15, ground := Go.Ground.phase }], guard := none }) (v := ?_) rfl (by kernel_rfl) (by kernel_rfl) (by kernel_rfl) (fun _ _ _ h => h) (Or.inl ⟨by rfl, ?hy55⟩) (by assumption) ?rest55
                          case hy55 => (intro w hSw; (try dsimp only at hSw); go_simp; try with_reducible rfl)
                          case' rest55 => (simp only [Act.put, List.setIfInBounds_toArray, List.set_cons_zero, List.set_cons_succ])
                          refine wpAnyH_take (i := 17) (oi := { dst := some 17, op := Go.Op.assign (Go.Operand.tmp 100), type := 2, pos := "laws.go:2165", after := #[{ on := 13, ground := Go.Ground.data }, { on := 16, ground := Go.Ground.chain }, { on := 0, ground := Go.Ground.phase }, { on := 1, ground := Go.Ground.phase }, { on := 2, ground := Go.Ground.phase }, { on := 3, ground := Go.Ground.phase }, { on := 4, ground := Go.Ground.phase }, { on := 5, ground := Go.Ground.phase }, { on := 6, ground := Go.Ground.phase }, { on := 7, ground := Go.Ground.phase }, { on := 8, ground := Go.Ground.phase }, { on := 9, ground := Go.Ground.phase }, { on := 10, ground := Go.Ground.phase }, { on := 11, ground := Go.Ground.phase }, { on := 12, ground := Go.Ground.phase }, { on := 13, ground := Go.Ground.phase }, { on := 14, ground := Go.Ground.phase }, { on := 15, ground := Go.Ground.phase }, { on := 16, ground := Go.Ground.phase }], guard := none }) (v := ?_) rfl (by kernel_rfl) (by kernel_rfl) (by kernel_rfl) (fun _ _ _ h => h) (Or.inl ⟨by rfl, ?hy56⟩) (by assumption) ?rest56
                          case hy56 => (intro w hSw; (try dsimp only at hSw); go_simp; try with_reducible rfl)
                          case' rest56 => (simp only [Act.put, List.setIfInBounds_toArray, List.set_cons_zero, List.set_cons_succ])
                          refine wpAnyH_done (by kernel_rfl) ?_ _
                          go_wp2_with fail
                          go_meet
                          exact ⟨_, R3, c3, g3, rfl, rfl, rfl, by omega, (setTwo7 xb0 xb1).1, (setTwo7 xb0 xb1).2, hrow.same (by rw [Below.heap_setCell _ _ _ _ (by dsimp only; omega), Below.heap_setCell _ _ _ _ (by dsimp only; omega)]) (by simp), hg4, (hbw.setCell (by dsimp only; omega) _).setCell (by dsimp only; omega) _⟩
                        exact AllReadyH.nil
                      exact AllReadyH.nil
                    exact AllReadyH.nil
                  exact AllReadyH.nil
                exact AllReadyH.nil
              refine AllReadyH.cons (o := { dst := some 15, op := Go.Op.alloc 38, type := 0, pos := "laws.go:2165", after := #[], guard := none }) rfl (fun K hK => ?_) ?_
              · go_simp
                refine hK.out _ _ ?_ (fun hHeld => ?_)
                · first | assumption | exact ⟨c0', c1'⟩ | exact ⟨j0, j1⟩ | exact ⟨keepCell (below1 _ _) j0, keepCell (below1 _ _) j1⟩ | exact ⟨keepCell (Below.refl _ _).drew c0', keepCell (Below.refl _ _).drew c1'⟩ | exact ⟨keepCell (below1 _ _).drew c0', keepCell (below1 _ _).drew c1'⟩ | exact ⟨keepCell (below2 _ _ _).drew c0', keepCell (below2 _ _ _).drew c1'⟩ | go_keep
                clear hK K
                refine wpAnyH_ready (rs := [2, 6]) (by kernel_rfl) (by simp) ?_
                refine AllReadyH.cons (o := { dst := some 90, op := Go.Op.buildSlice 47 4 #[(0, Go.Operand.const (Go.Value.int Go.IntKind.i64 1)), (1, Go.Operand.const (Go.Value.int Go.IntKind.i64 2)), (2, Go.Operand.const (Go.Value.int Go.IntKind.i64 4)), (3, Go.Operand.const (Go.Value.int Go.IntKind.i64 8))], type := 47, pos := "laws.go:2165", after := #[], guard := none }) rfl (fun K hK => ?_) ?_
                · go_simp
                  refine hK.out _ _ ?_ (fun hHeld => ?_)
                  · first | assumption | exact ⟨c0', c1'⟩ | exact ⟨j0, j1⟩ | exact ⟨keepCell (below1 _ _) j0, keepCell (below1 _ _) j1⟩ | exact ⟨keepCell (Below.refl _ _).drew c0', keepCell (Below.refl _ _).drew c1'⟩ | exact ⟨keepCell (below1 _ _).drew c0', keepCell (below1 _ _).drew c1'⟩ | exact ⟨keepCell (below2 _ _ _).drew c0', keepCell (below2 _ _ _).drew c1'⟩ | go_keep
                  clear hK K
                  refine wpAnyH_ready (rs := [6]) (by kernel_rfl) (by simp) ?_
                  refine AllReadyH.cons (o := { dst := some 94, op := Go.Op.call { callee := Go.Callee.value (Go.Operand.func 13), args := #[Go.Operand.tmp 91, Go.Operand.tmp 93, Go.Operand.const (Go.Value.int Go.IntKind.i64 4)], argTypes := #[34, 3, 2] }, type := 2, pos := "laws.go:2165", after := #[{ on := 3, ground := Go.Ground.data }, { on := 5, ground := Go.Ground.data }], guard := none }) rfl (fun K hK => ?_) ?_
                  · go_simp; go_at_call 13; (with_reducible refine (CB.out (((wr.alloc (.cells #[.string ⟨#[]⟩, .slice none 0 0] 38)).alloc (.cells #[.int .i64 1, .int .i64 2, .int .i64 4, .int .i64 8] 2)).drew) (below2 _ _ _).drew).mono ?_); rintro e wz ⟨rfl, rfl⟩; dsimp only
                    refine hK.out _ _ ?_ (fun hHeld => ?_)
                    · first | assumption | exact ⟨c0', c1'⟩ | exact ⟨j0, j1⟩ | exact ⟨keepCell (below1 _ _) j0, keepCell (below1 _ _) j1⟩ | exact ⟨keepCell (Below.refl _ _).drew c0', keepCell (Below.refl _ _).drew c1'⟩ | exact ⟨keepCell (below1 _ _).drew c0', keepCell (below1 _ _).drew c1'⟩ | exact ⟨keepCell (below2 _ _ _).drew c0', keepCell (below2 _ _ _).drew c1'⟩ | go_keep
                    clear hK K
                    refine wpAnyH_take (i := 7) (oi := { dst := some 95, op := Go.Op.indexAddr 47 (Go.Operand.tmp 90) (Go.Operand.tmp 94), type := 0, pos := "laws.go:2165", after := #[{ on := 2, ground := Go.Ground.data }, { on := 6, ground := Go.Ground.data }], guard := none }) (v := ?_) rfl (by kernel_rfl) (by kernel_rfl) (by kernel_rfl) (fun _ _ _ h => h) (Or.inl ⟨by rfl, ?hy57⟩) (by assumption) ?rest57
                    case hy57 => (intro w hSw; (try dsimp only at hSw); go_simp; try with_reducible rfl)
                    case' rest57 => (simp only [Act.put, List.setIfInBounds_toArray, List.set_cons_zero, List.set_cons_succ])
                    refine wpAnyH_ready (rs := [8]) (by kernel_rfl) (by simp) ?_
                    refine AllReadyH.cons (o := { dst := some 96, op := Go.Op.load 2 (Go.Operand.tmp 95), type := 2, pos := "laws.go:2165", after := #[{ on := 7, ground := Go.Ground.data }], guard := none }) rfl (fun K hK => ?_) ?_
                    · go_simp
                      refine hK.out _ _ ?_ (fun hHeld => ?_)
                      · first | assumption | exact ⟨c0', c1'⟩ | exact ⟨j0, j1⟩ | exact ⟨keepCell (below1 _ _) j0, keepCell (below1 _ _) j1⟩ | exact ⟨keepCell (Below.refl _ _).drew c0', keepCell (Below.refl _ _).drew c1'⟩ | exact ⟨keepCell (below1 _ _).drew c0', keepCell (below1 _ _).drew c1'⟩ | exact ⟨keepCell (below2 _ _ _).drew c0', keepCell (below2 _ _ _).drew c1'⟩ | go_keep
                      clear hK K
                      refine wpAnyH_ready (rs := [9]) (by kernel_rfl) (by simp) ?_
                      refine AllReadyH.cons (o := { dst := some 97, op := Go.Op.call { callee := Go.Callee.value (Go.Operand.func 15), args := #[Go.Operand.tmp 88, Go.Operand.tmp 89, Go.Operand.tmp 96], argTypes := #[38, 2, 2] }, type := 45, pos := "laws.go:2165", after := #[{ on := 0, ground := Go.Ground.data }, { on := 1, ground := Go.Ground.data }, { on := 8, ground := Go.Ground.data }, { on := 6, ground := Go.Ground.chain }], guard := none }) rfl (fun K hK => ?_) ?_
                      · go_simp; go_at_call 15; (with_reducible refine (CAl.out Rm cm (((wr.alloc (.cells #[.string ⟨#[]⟩, .slice none 0 0] 38)).alloc (.cells #[.int .i64 1, .int .i64 2, .int .i64 4, .int .i64 8] 2)).drew) ((HRM.out.below (below2 _ _ _).drew).bks (Nat.zero_le _))).mono ?_); rintro e w3 ⟨R3, c3, rfl, ho3, hb3, hz3⟩; have hbw : Below wr.heap.size wr w3 := (below2 _ _ _).drew.trans (hb3.mono (by simp; omega)); obtain ⟨xb0, xb1, xf⟩ := fresh2c hb3; have j0 := keepCell hbw c0'; have j1 := keepCell hbw c1'; obtain ⟨g3, hg3, hl3, hn3⟩ := ho3.num2 hz3; have hrow : RowIn w3 M.free R3 g3 := ⟨hn3, hl3⟩; have hg4 : wr.heap.size ≤ g3 := (by simp at hg3; omega); have hg5 : wr.heap.size < g3 := (by simp at hg3; omega); have hg6 : wr.heap.size + 1 < g3 := (by simp at hg3; omega); dsimp only
                        refine hK.out _ _ ?_ (fun hHeld => ?_)
                        · first | assumption | exact ⟨c0', c1'⟩ | exact ⟨j0, j1⟩ | exact ⟨keepCell (below1 _ _) j0, keepCell (below1 _ _) j1⟩ | exact ⟨keepCell (Below.refl _ _).drew c0', keepCell (Below.refl _ _).drew c1'⟩ | exact ⟨keepCell (below1 _ _).drew c0', keepCell (below1 _ _).drew c1'⟩ | exact ⟨keepCell (below2 _ _ _).drew c0', keepCell (below2 _ _ _).drew c1'⟩ | go_keep
                        clear hK K
                        refine wpAnyH_take (i := 10) (oi := { dst := some 87, op := Go.Op.move (Go.Operand.tmp 97), type := 45, pos := "laws.go:2165", after := #[{ on := 9, ground := Go.Ground.data }], guard := none }) (v := ?_) rfl (by kernel_rfl) (by kernel_rfl) (by kernel_rfl) (fun _ _ _ h => h) (Or.inl ⟨by rfl, ?hy58⟩) (by assumption) ?rest58
                        case hy58 => (intro w hSw; (try dsimp only at hSw); go_simp; try with_reducible rfl)
                        case' rest58 => (simp only [Act.put, List.setIfInBounds_toArray, List.set_cons_zero, List.set_cons_succ])
                        refine wpAnyH_take (i := 11) (oi := { dst := some 98, op := Go.Op.extract (Go.Operand.tmp 87) 0, type := 38, pos := "laws.go:2165", after := #[{ on := 10, ground := Go.Ground.data }], guard := none }) (v := ?_) rfl (by kernel_rfl) (by kernel_rfl) (by kernel_rfl) (fun _ _ _ h => h) (Or.inl ⟨by rfl, ?hy59⟩) (by assumption) ?rest59
                        case hy59 => (intro w hSw; (try dsimp only at hSw); go_simp; try with_reducible rfl)
                        case' rest59 => (simp only [Act.put, List.setIfInBounds_toArray, List.set_cons_zero, List.set_cons_succ])
                        refine wpAnyH_take (i := 12) (oi := { dst := some 99, op := Go.Op.extract (Go.Operand.tmp 87) 1, type := 2, pos := "laws.go:2165", after := #[{ on := 10, ground := Go.Ground.data }, { on := 15, ground := Go.Ground.gcOnly Go.Departure.lateStores }], guard := none }) (v := ?_) rfl (by kernel_rfl) (by kernel_rfl) (by kernel_rfl) (fun _ _ _ h => h) (Or.inl ⟨by rfl, ?hy60⟩) (by assumption) ?rest60
                        case hy60 => (intro w hSw; (try dsimp only at hSw); go_simp; try with_reducible rfl)
                        case' rest60 => (simp only [Act.put, List.setIfInBounds_toArray, List.set_cons_zero, List.set_cons_succ])
                        refine wpAnyH_take (i := 13) (oi := { dst := some 100, op := Go.Op.extract (Go.Operand.tmp 87) 2, type := 2, pos := "laws.go:2165", after := #[{ on := 10, ground := Go.Ground.data }, { on := 16, ground := Go.Ground.gcOnly Go.Departure.lateStores }], guard := none }) (v := ?_) rfl (by kernel_rfl) (by kernel_rfl) (by kernel_rfl) (fun _ _ _ h => h) (Or.inl ⟨by rfl, ?hy61⟩) (by assumption) ?rest61
                        case hy61 => (intro w hSw; (try dsimp only at hSw); go_simp; try with_reducible rfl)
                        case' rest61 => (simp only [Act.put, List.setIfInBounds_toArray, List.set_cons_zero, List.set_cons_succ])
                        refine wpAnyH_ready (rs := [15]) (by kernel_rfl) (by simp) ?_
                        refine AllReadyH.cons (o := { dst := none, op := Go.Op.store 38 (Go.Operand.tmp 15) (Go.Operand.tmp 98), type := 0, pos := "laws.go:2165", after := #[{ on := 14, ground := Go.Ground.data }, { on := 11, ground := Go.Ground.data }, { on := 9, ground := Go.Ground.chain }, { on := 0, ground := Go.Ground.phase }, { on := 1, ground := Go.Ground.phase }, { on := 2, ground := Go.Ground.phase }, { on := 3, ground := Go.Ground.phase }, { on := 4, ground := Go.Ground.phase }, { on := 5, ground := Go.Ground.phase }, { on := 6, ground := Go.Ground.phase }, { on := 7, ground := Go.Ground.phase }, { on := 8, ground := Go.Ground.phase }, { on := 9, ground := Go.Ground.phase }, { on := 10, ground := Go.Ground.phase }, { on := 11, ground := Go.Ground.phase }, { on := 12, ground := Go.Ground.textOnly Go.Departure.lateStores }, { on := 13, ground := Go.Ground.textOnly Go.Departure.lateStores }, { on := 14, ground := Go.Ground.phase }], guard := none }) rfl (fun K hK => ?_) ?_
                        · go_simp
                          refine hK.out _ _ ?_ (fun hHeld => ?_)
                          · first | assumption | exact ⟨c0', c1'⟩ | exact ⟨j0, j1⟩ | exact ⟨keepCell (below1 _ _) j0, keepCell (below1 _ _) j1⟩ | exact ⟨keepCell (Below.refl _ _).drew c0', keepCell (Below.refl _ _).drew c1'⟩ | exact ⟨keepCell (below1 _ _).drew c0', keepCell (below1 _ _).drew c1'⟩ | exact ⟨keepCell (below2 _ _ _).drew c0', keepCell (below2 _ _ _).drew c1'⟩ | go_keep
                          clear hK K
                          refine wpAnyH_take (i := 16) (oi := { dst := some 16, op := Go.Op.assign (Go.Operand.tmp 99), type := 2, pos := "laws.go:2165", after := #[{ on := 12, ground := Go.Ground.data }, { on := 15, ground := Go.Ground.chain }, { on := 0, ground := Go.Ground.phase }, { on := 1, ground := Go.Ground.phase }, { on := 2, ground := Go.Ground.phase }, { on := 3, ground := Go.Ground.phase }, { on := 4, ground := Go.Ground.phase }, { on := 5, ground := Go.Ground.phase }, { on := 6, ground := Go.Ground.phase }, { on := 7, ground := Go.Ground.phase }, { on := 8, ground := Go.Ground.phase }, { on := 9, ground := Go.Ground.phase }, { on := 10, ground := Go.Ground.phase }, { on := 11, ground := Go.Ground.phase }, { on := 12, ground := Go.Ground.phase }, { on := 13, ground := Go.Ground.textOnly Go.Departure.lateStores }, { on := 14, ground := Go.Ground.phase }, { on := 15, ground := Go.Ground.phase }], guard := none }) (v := ?_) rfl (by kernel_rfl) (by kernel_rfl) (by kernel_rfl) (fun _ _ _ h => h) (Or.inl ⟨by rfl, ?hy62⟩) (by assumption) ?rest62
                          case hy62 => (intro w hSw; (try dsimp only at hSw); go_simp; try with_reducible rfl)
                          case' rest62 => (simp only [Act.put, List.setIfInBounds_toArray, List.set_cons_zero, List.set_cons_succ])
                          refine wpAnyH_take (i := 17) (oi := { dst := some 17, op := Go.Op.assign (Go.Operand.tmp 100), type := 2, pos := "laws.go:2165", after := #[{ on := 13, ground := Go.Ground.data }, { on := 16, ground := Go.Ground.chain }, { on := 0, ground := Go.Ground.phase }, { on := 1, ground := Go.Ground.phase }, { on := 2, ground := Go.Ground.phase }, { on := 3, ground := Go.Ground.phase }, { on := 4, ground := Go.Ground.phase }, { on := 5, ground := Go.Ground.phase }, { on := 6, ground := Go.Ground.phase }, { on := 7, ground := Go.Ground.phase }, { on := 8, ground := Go.Ground.phase }, { on := 9, ground := Go.Ground.phase }, { on := 10, ground := Go.Ground.phase }, { on := 11, ground := Go.Ground.phase }, { on := 12, ground := Go.Ground.phase }, { on := 13, ground := Go.Ground.phase }, { on := 14, ground := Go.Ground.phase }, { on := 15, ground := Go.Ground.phase }, { on := 16, ground := Go.Ground.phase }], guard := none }) (v := ?_) rfl (by kernel_rfl) (by kernel_rfl) (by kernel_rfl) (fun _ _ _ h => h) (Or.inl ⟨by rfl, ?hy63⟩) (by assumption) ?rest63
                          case hy63 => (intro w hSw; (try dsimp only at hSw); go_simp; try with_reducible rfl)
                          case' rest63 => (simp only [Act.put, List.setIfInBounds_toArray, List.set_cons_zero, List.set_cons_succ])
                          refine wpAnyH_done (by kernel_rfl) ?_ _
                          go_wp2_with fail
                          go_meet
                          exact ⟨_, R3, c3, g3, rfl, rfl, rfl, by omega, (setTwo7 xb0 xb1).1, (setTwo7 xb0 xb1).2, hrow.same (by rw [Below.heap_setCell _ _ _ _ (by dsimp only; omega), Below.heap_setCell _ _ _ _ (by dsimp only; omega)]) (by simp), hg4, (hbw.setCell (by dsimp only; omega) _).setCell (by dsimp only; omega) _⟩
                        exact AllReadyH.nil
                      exact AllReadyH.nil
                    exact AllReadyH.nil
                  exact AllReadyH.nil
                refine AllReadyH.cons (o := { dst := some 94, op := Go.Op.call { callee := Go.Callee.value (Go.Operand.func 13), args := #[Go.Operand.tmp 91, Go.Operand.tmp 93, Go.Operand.const (Go.Value.int Go.IntKind.i64 4)], argTypes := #[34, 3, 2] }, type := 2, pos := "laws.go:2165", after := #[{ on := 3, ground := Go.Ground.data }, { on := 5, ground := Go.Ground.data }], guard := none }) rfl (fun K hK => ?_) ?_
                · go_simp; go_at_call 13; (with_reducible refine (CB.out ((wr.alloc (.cells #[.string ⟨#[]⟩, .slice none 0 0] 38)).drew) (below1 _ _).drew).mono ?_); rintro e wz ⟨rfl, rfl⟩; dsimp only
                  refine hK.out _ _ ?_ (fun hHeld => ?_)
                  · first | assumption | exact ⟨c0', c1'⟩ | exact ⟨j0, j1⟩ | exact ⟨keepCell (below1 _ _) j0, keepCell (below1 _ _) j1⟩ | exact ⟨keepCell (Below.refl _ _).drew c0', keepCell (Below.refl _ _).drew c1'⟩ | exact ⟨keepCell (below1 _ _).drew c0', keepCell (below1 _ _).drew c1'⟩ | exact ⟨keepCell (below2 _ _ _).drew c0', keepCell (below2 _ _ _).drew c1'⟩ | go_keep
                  clear hK K
                  refine wpAnyH_ready (rs := [2]) (by kernel_rfl) (by simp) ?_
                  refine AllReadyH.cons (o := { dst := some 90, op := Go.Op.buildSlice 47 4 #[(0, Go.Operand.const (Go.Value.int Go.IntKind.i64 1)), (1, Go.Operand.const (Go.Value.int Go.IntKind.i64 2)), (2, Go.Operand.const (Go.Value.int Go.IntKind.i64 4)), (3, Go.Operand.const (Go.Value.int Go.IntKind.i64 8))], type := 47, pos := "laws.go:2165", after := #[], guard := none }) rfl (fun K hK => ?_) ?_
                  · go_simp
                    refine hK.out _ _ ?_ (fun hHeld => ?_)
                    · first | assumption | exact ⟨c0', c1'⟩ | exact ⟨j0, j1⟩ | exact ⟨keepCell (below1 _ _) j0, keepCell (below1 _ _) j1⟩ | exact ⟨keepCell (Below.refl _ _).drew c0', keepCell (Below.refl _ _).drew c1'⟩ | exact ⟨keepCell (below1 _ _).drew c0', keepCell (below1 _ _).drew c1'⟩ | exact ⟨keepCell (below2 _ _ _).drew c0', keepCell (below2 _ _ _).drew c1'⟩ | go_keep
                    clear hK K
                    refine wpAnyH_take (i := 7) (oi := { dst := some 95, op := Go.Op.indexAddr 47 (Go.Operand.tmp 90) (Go.Operand.tmp 94), type := 0, pos := "laws.go:2165", after := #[{ on := 2, ground := Go.Ground.data }, { on := 6, ground := Go.Ground.data }], guard := none }) (v := ?_) rfl (by kernel_rfl) (by kernel_rfl) (by kernel_rfl) (fun _ _ _ h => h) (Or.inl ⟨by rfl, ?hy64⟩) (by assumption) ?rest64
                    case hy64 => (intro w hSw; (try dsimp only at hSw); go_simp; try with_reducible rfl)
                    case' rest64 => (simp only [Act.put, List.setIfInBounds_toArray, List.set_cons_zero, List.set_cons_succ])
                    refine wpAnyH_ready (rs := [8]) (by kernel_rfl) (by simp) ?_
                    refine AllReadyH.cons (o := { dst := some 96, op := Go.Op.load 2 (Go.Operand.tmp 95), type := 2, pos := "laws.go:2165", after := #[{ on := 7, ground := Go.Ground.data }], guard := none }) rfl (fun K hK => ?_) ?_
                    · go_simp
                      refine hK.out _ _ ?_ (fun hHeld => ?_)
                      · first | assumption | exact ⟨c0', c1'⟩ | exact ⟨j0, j1⟩ | exact ⟨keepCell (below1 _ _) j0, keepCell (below1 _ _) j1⟩ | exact ⟨keepCell (Below.refl _ _).drew c0', keepCell (Below.refl _ _).drew c1'⟩ | exact ⟨keepCell (below1 _ _).drew c0', keepCell (below1 _ _).drew c1'⟩ | exact ⟨keepCell (below2 _ _ _).drew c0', keepCell (below2 _ _ _).drew c1'⟩ | go_keep
                      clear hK K
                      refine wpAnyH_ready (rs := [9]) (by kernel_rfl) (by simp) ?_
                      refine AllReadyH.cons (o := { dst := some 97, op := Go.Op.call { callee := Go.Callee.value (Go.Operand.func 15), args := #[Go.Operand.tmp 88, Go.Operand.tmp 89, Go.Operand.tmp 96], argTypes := #[38, 2, 2] }, type := 45, pos := "laws.go:2165", after := #[{ on := 0, ground := Go.Ground.data }, { on := 1, ground := Go.Ground.data }, { on := 8, ground := Go.Ground.data }, { on := 6, ground := Go.Ground.chain }], guard := none }) rfl (fun K hK => ?_) ?_
                      · go_simp; go_at_call 15; (with_reducible refine (CAl.out Rm cm (((wr.alloc (.cells #[.string ⟨#[]⟩, .slice none 0 0] 38)).alloc (.cells #[.int .i64 1, .int .i64 2, .int .i64 4, .int .i64 8] 2)).drew) ((HRM.out.below (below2 _ _ _).drew).bks (Nat.zero_le _))).mono ?_); rintro e w3 ⟨R3, c3, rfl, ho3, hb3, hz3⟩; have hbw : Below wr.heap.size wr w3 := (below2 _ _ _).drew.trans (hb3.mono (by simp; omega)); obtain ⟨xb0, xb1, xf⟩ := fresh2c hb3; have j0 := keepCell hbw c0'; have j1 := keepCell hbw c1'; obtain ⟨g3, hg3, hl3, hn3⟩ := ho3.num2 hz3; have hrow : RowIn w3 M.free R3 g3 := ⟨hn3, hl3⟩; have hg4 : wr.heap.size ≤ g3 := (by simp at hg3; omega); have hg5 : wr.heap.size < g3 := (by simp at hg3; omega); have hg6 : wr.heap.size + 1 < g3 := (by simp at hg3; omega); dsimp only
                        refine hK.out _ _ ?_ (fun hHeld => ?_)
                        · first | assumption | exact ⟨c0', c1'⟩ | exact ⟨j0, j1⟩ | exact ⟨keepCell (below1 _ _) j0, keepCell (below1 _ _) j1⟩ | exact ⟨keepCell (Below.refl _ _).drew c0', keepCell (Below.refl _ _).drew c1'⟩ | exact ⟨keepCell (below1 _ _).drew c0', keepCell (below1 _ _).drew c1'⟩ | exact ⟨keepCell (below2 _ _ _).drew c0', keepCell (below2 _ _ _).drew c1'⟩ | go_keep
                        clear hK K
                        refine wpAnyH_take (i := 10) (oi := { dst := some 87, op := Go.Op.move (Go.Operand.tmp 97), type := 45, pos := "laws.go:2165", after := #[{ on := 9, ground := Go.Ground.data }], guard := none }) (v := ?_) rfl (by kernel_rfl) (by kernel_rfl) (by kernel_rfl) (fun _ _ _ h => h) (Or.inl ⟨by rfl, ?hy65⟩) (by assumption) ?rest65
                        case hy65 => (intro w hSw; (try dsimp only at hSw); go_simp; try with_reducible rfl)
                        case' rest65 => (simp only [Act.put, List.setIfInBounds_toArray, List.set_cons_zero, List.set_cons_succ])
                        refine wpAnyH_take (i := 11) (oi := { dst := some 98, op := Go.Op.extract (Go.Operand.tmp 87) 0, type := 38, pos := "laws.go:2165", after := #[{ on := 10, ground := Go.Ground.data }], guard := none }) (v := ?_) rfl (by kernel_rfl) (by kernel_rfl) (by kernel_rfl) (fun _ _ _ h => h) (Or.inl ⟨by rfl, ?hy66⟩) (by assumption) ?rest66
                        case hy66 => (intro w hSw; (try dsimp only at hSw); go_simp; try with_reducible rfl)
                        case' rest66 => (simp only [Act.put, List.setIfInBounds_toArray, List.set_cons_zero, List.set_cons_succ])
                        refine wpAnyH_take (i := 12) (oi := { dst := some 99, op := Go.Op.extract (Go.Operand.tmp 87) 1, type := 2, pos := "laws.go:2165", after := #[{ on := 10, ground := Go.Ground.data }, { on := 15, ground := Go.Ground.gcOnly Go.Departure.lateStores }], guard := none }) (v := ?_) rfl (by kernel_rfl) (by kernel_rfl) (by kernel_rfl) (fun _ _ _ h => h) (Or.inl ⟨by rfl, ?hy67⟩) (by assumption) ?rest67
                        case hy67 => (intro w hSw; (try dsimp only at hSw); go_simp; try with_reducible rfl)
                        case' rest67 => (simp only [Act.put, List.setIfInBounds_toArray, List.set_cons_zero, List.set_cons_succ])
                        refine wpAnyH_take (i := 13) (oi := { dst := some 100, op := Go.Op.extract (Go.Operand.tmp 87) 2, type := 2, pos := "laws.go:2165", after := #[{ on := 10, ground := Go.Ground.data }, { on := 16, ground := Go.Ground.gcOnly Go.Departure.lateStores }], guard := none }) (v := ?_) rfl (by kernel_rfl) (by kernel_rfl) (by kernel_rfl) (fun _ _ _ h => h) (Or.inl ⟨by rfl, ?hy68⟩) (by assumption) ?rest68
                        case hy68 => (intro w hSw; (try dsimp only at hSw); go_simp; try with_reducible rfl)
                        case' rest68 => (simp only [Act.put, List.setIfInBounds_toArray, List.set_cons_zero, List.set_cons_succ])
                        refine wpAnyH_ready (rs := [15]) (by kernel_rfl) (by simp) ?_
                        refine AllReadyH.cons (o := { dst := none, op := Go.Op.store 38 (Go.Operand.tmp 15) (Go.Operand.tmp 98), type := 0, pos := "laws.go:2165", after := #[{ on := 14, ground := Go.Ground.data }, { on := 11, ground := Go.Ground.data }, { on := 9, ground := Go.Ground.chain }, { on := 0, ground := Go.Ground.phase }, { on := 1, ground := Go.Ground.phase }, { on := 2, ground := Go.Ground.phase }, { on := 3, ground := Go.Ground.phase }, { on := 4, ground := Go.Ground.phase }, { on := 5, ground := Go.Ground.phase }, { on := 6, ground := Go.Ground.phase }, { on := 7, ground := Go.Ground.phase }, { on := 8, ground := Go.Ground.phase }, { on := 9, ground := Go.Ground.phase }, { on := 10, ground := Go.Ground.phase }, { on := 11, ground := Go.Ground.phase }, { on := 12, ground := Go.Ground.textOnly Go.Departure.lateStores }, { on := 13, ground := Go.Ground.textOnly Go.Departure.lateStores }, { on := 14, ground := Go.Ground.phase }], guard := none }) rfl (fun K hK => ?_) ?_
                        · go_simp
                          refine hK.out _ _ ?_ (fun hHeld => ?_)
                          · first | assumption | exact ⟨c0', c1'⟩ | exact ⟨j0, j1⟩ | exact ⟨keepCell (below1 _ _) j0, keepCell (below1 _ _) j1⟩ | exact ⟨keepCell (Below.refl _ _).drew c0', keepCell (Below.refl _ _).drew c1'⟩ | exact ⟨keepCell (below1 _ _).drew c0', keepCell (below1 _ _).drew c1'⟩ | exact ⟨keepCell (below2 _ _ _).drew c0', keepCell (below2 _ _ _).drew c1'⟩ | go_keep
                          clear hK K
                          refine wpAnyH_take (i := 16) (oi := { dst := some 16, op := Go.Op.assign (Go.Operand.tmp 99), type := 2, pos := "laws.go:2165", after := #[{ on := 12, ground := Go.Ground.data }, { on := 15, ground := Go.Ground.chain }, { on := 0, ground := Go.Ground.phase }, { on := 1, ground := Go.Ground.phase }, { on := 2, ground := Go.Ground.phase }, { on := 3, ground := Go.Ground.phase }, { on := 4, ground := Go.Ground.phase }, { on := 5, ground := Go.Ground.phase }, { on := 6, ground := Go.Ground.phase }, { on := 7, ground := Go.Ground.phase }, { on := 8, ground := Go.Ground.phase }, { on := 9, ground := Go.Ground.phase }, { on := 10, ground := Go.Ground.phase }, { on := 11, ground := Go.Ground.phase }, { on := 12, ground := Go.Ground.phase }, { on := 13, ground := Go.Ground.textOnly Go.Departure.lateStores }, { on := 14, ground := Go.Ground.phase }, { on := 15, ground := Go.Ground.phase }], guard := none }) (v := ?_) rfl (by kernel_rfl) (by kernel_rfl) (by kernel_rfl) (fun _ _ _ h => h) (Or.inl ⟨by rfl, ?hy69⟩) (by assumption) ?rest69
                          case hy69 => (intro w hSw; (try dsimp only at hSw); go_simp; try with_reducible rfl)
                          case' rest69 => (simp only [Act.put, List.setIfInBounds_toArray, List.set_cons_zero, List.set_cons_succ])
                          refine wpAnyH_take (i := 17) (oi := { dst := some 17, op := Go.Op.assign (Go.Operand.tmp 100), type := 2, pos := "laws.go:2165", after := #[{ on := 13, ground := Go.Ground.data }, { on := 16, ground := Go.Ground.chain }, { on := 0, ground := Go.Ground.phase }, { on := 1, ground := Go.Ground.phase }, { on := 2, ground := Go.Ground.phase }, { on := 3, ground := Go.Ground.phase }, { on := 4, ground := Go.Ground.phase }, { on := 5, ground := Go.Ground.phase }, { on := 6, ground := Go.Ground.phase }, { on := 7, ground := Go.Ground.phase }, { on := 8, ground := Go.Ground.phase }, { on := 9, ground := Go.Ground.phase }, { on := 10, ground := Go.Ground.phase }, { on := 11, ground := Go.Ground.phase }, { on := 12, ground := Go.Ground.phase }, { on := 13, ground := Go.Ground.phase }, { on := 14, ground := Go.Ground.phase }, { on := 15, ground := Go.Ground.phase }, { on := 16, ground := Go.Ground.phase }], guard := none }) (v := ?_) rfl (by kernel_rfl) (by kernel_rfl) (by kernel_rfl) (fun _ _ _ h => h) (Or.inl ⟨by rfl, ?hy70⟩) (by assumption) ?rest70
                          case hy70 => (intro w hSw; (try dsimp only at hSw); go_simp; try with_reducible rfl)
                          case' rest70 => (simp only [Act.put, List.setIfInBounds_toArray, List.set_cons_zero, List.set_cons_succ])
                          refine wpAnyH_done (by kernel_rfl) ?_ _
                          go_wp2_with fail
                          go_meet
                          exact ⟨_, R3, c3, g3, rfl, rfl, rfl, by omega, (setTwo7 xb0 xb1).1, (setTwo7 xb0 xb1).2, hrow.same (by rw [Below.heap_setCell _ _ _ _ (by dsimp only; omega), Below.heap_setCell _ _ _ _ (by dsimp only; omega)]) (by simp), hg4, (hbw.setCell (by dsimp only; omega) _).setCell (by dsimp only; omega) _⟩
                        exact AllReadyH.nil
                      exact AllReadyH.nil
                    exact AllReadyH.nil
                  exact AllReadyH.nil
                exact AllReadyH.nil
              exact AllReadyH.nil
            case rest =>
              obtain ⟨X, R3, c3, g3, rfl, rfl, rfl, hX, x0, x1, hrow, hg3, hb⟩ := hcut
              have HFc := Lib.hid (HF.out.below hb)
              have HBc := Lib.hid hb
              have HROW := Lib.hid hrow
              clear hb hrow xn0 xn1 c0' c1'
              by_cases hkk : kk = 0
              · subst hkk
                obtain ⟨F', hM, hall⟩ : ∃ F', M = ⟨Z, F'⟩ ∧ allocL s al F = some (p, F') := by
                  rcases HRES.out with h | ⟨_, h⟩
                  · exact absurd rfl h
                  · exact h
                subst hM
                obtain ⟨p0, p1, _, hov, hinv2⟩ := HI.out.take HS1.out.1 (by have := HAL.out; omega) hall
                have HOV := Lib.hid hov
                have HI2 := Lib.hid hinv2
                have hp400 : p + s ≤ 400 := by have := HN8.out; omega
                have hs24 := HS1.out
                clear hov hinv2 hall
                go_wp2_with fail
                go_loopw [18] (fun v18 wr2 => ∃ k : Nat, v18 = .int .i64 k ∧ k ≤ tk.length ∧ Below wc.heap.size wc wr2) (fun v _ => tk.length - (intOf v).toNat)
                case atStart => exact ⟨0, rfl, Nat.zero_le _, Below.refl _ _⟩
                case round =>
                  obtain ⟨k, rfl, hk, hb2⟩ := hrel
                  have HF2 := Lib.hid (HFc.out.below hb2)
                  have HB2 := Lib.hid hb2
                  by_cases hkl : k < tk.length
                  · obtain ⟨t, ht⟩ : ∃ t, tk[k]? = some t := ⟨_, List.getElem?_eq_getElem hkl⟩
                    have htm : t ∈ tk := List.mem_of_getElem? ht
                    obtain ⟨gt, gt1, gt2, hnt⟩ := HF2.out.own.nums
                    obtain ⟨hR, _, hct⟩ := hnt (by rw [bkNums_len]; omega)
                    obtain ⟨n0, n1⟩ := bkNums_get ht
                    have t0 := hct _ _ n0
                    have t1 := hct _ _ n1
                    have hov := HOV.out t htm
                    have hin := HI.out.inn t htm
                    have hN := HN8.out
                    have hki : (k : Int) < (tk.length : Int) := by omega
                    have hkz : (0 : Int) ≤ (k : Int) := by omega
                    have hk24 : k ≤ 24 := by omega
                    have hw1 : IntKind.i64.wrap (t.pos + t.size) = t.pos + t.size := IntWalk.i64_in _ (by omega)
                    have hw2 : IntKind.i64.wrap (p + s) = p + s := IntWalk.i64_in _ (by omega)
                    subst hR
                    clear hnt hct n0 n1 ht htm hb2
                    by_cases h1 : p < t.pos + t.size
                    · have h2 : ¬ t.pos < p + s := fun h => hov ⟨h1, h⟩
                      go_wp2_with fail
                      have d1 : decide (p < t.pos + t.size) = true := decide_eq_true (by omega)
                      have d2 : decide (t.pos < p + s) = false := decide_eq_false (by omega)
                      go_quiet (fail)
                      go_wp2_with fail
                      go_roundw
                      case rel => exact ⟨k + 1, by go_num, by omega, ⟨HB2.out.os, HB2.out.tape, HB2.out.output, HB2.out.size, HB2.out.block⟩⟩
                      case measure => simp [intOf]; omega
                    · go_wp2_with fail
                      have d1 : decide (p < t.pos + t.size) = false := decide_eq_false (by omega)
                      go_quiet (fail)
                      go_wp2_with fail
                      go_roundw
                      case rel => exact ⟨k + 1, by go_num, by omega, ⟨HB2.out.os, HB2.out.tape, HB2.out.output, HB2.out.size, HB2.out.block⟩⟩
                      case measure => simp [intOf]; omega
                  · obtain rfl : k = tk.length := by omega
                    have hkf : ¬ (tk.length : Int) < (tk.length : Int) := by omega
                    have x2 := keepCell hb2 x0
                    have x3 := keepCell hb2 x1
                    have y0 := HF2.out.m0
                    have y1 := HF2.out.m1
                    have yf0 := HF2.out.f0
                    have yf1 := HF2.out.f1
                    have HF3 := Lib.hid (HF2.out.store c3 (HROW.out.below hb2) (by omega) (fun k' hk' => by have := (HF.out.sep k' hk').2.2.2.2; omega))
                    obtain ⟨W5, hW5⟩ : ∃ W5, (wr.setCell ⟨G, 0, none⟩ (.string Z)).setCell ⟨G, 1, none⟩ (.slice R3 F'.length c3) = W5 := ⟨_, rfl⟩
                    have hz5 : W5.heap.size = wr.heap.size := by rw [← hW5]; simp
                    have HF3 := HF3.out
                    rw [hW5] at HF3
                    have A1 := fun ty => app1t HF3.own HF3.bel.size (by omega) ⟨p, s⟩ ty
                    dsimp only at A1
                    rw [hz5, ← hW5] at A1
                    have A1 := Lib.hid A1
                    have HW5 := Lib.hid hW5
                    have HZ5 := Lib.hid hz5
                    have HF3 := Lib.hid HF3
                    clear hb2 x0 x1 hW5 hz5
                    go_wp2_with (at_builtin; refine wpAppEx7 _ rfl _ _ 36 rfl (.slice Rt tk.length ct) (.slice (some ⟨wr.heap.size, 0, none⟩) 1 1) rfl rfl A1.out ?_; rintro v' w6 ⟨R6, c6, rfl, ho6, hg6, hw6⟩)
                    rw [HW5.out] at hg6
                    have hz5 := HZ5.out
                    have hsz : W.heap.size ≤ W5.heap.size := HF3.out.bel.size
                    have hlen : (tk ++ [(⟨p, s⟩ : Bk)]).length = tk.length + 1 := by simp
                    have hBg : Below W.heap.size W5 w6 := ((Below.refl _ W5).alloc hsz _).grown hg6 (by simp; omega) HF3.out.own.blk
                    have ho7 : OwnBk w6 W.heap.size (tk ++ [(⟨p, s⟩ : Bk)]) R6 (tk ++ [(⟨p, s⟩ : Bk)]).length c6 := by
                      rw [hlen]
                      exact ho6
                    have HF9 := HF3.out.take (fun k' h hne => (hg6.block k' (by simp; omega) (fun e => hne e.symm)).trans ((below1 W5 _).block k' h)) hBg (by have := hg6.size; simp at this; omega) ho7 (fun k' hk' => ⟨by
                      rw [hlen] at hk'
                      rcases hw6 with e | e
                      · exact .inl (e.symm.trans hk')
                      · rw [e] at hk'
                        injection hk' with hk'
                        exact .inr (by omega), (ho7.2.lt k' hk').2⟩)
                    exact ⟨⟨i + 1, F', tk ++ [(⟨p, s⟩ : Bk)], R3, c3, g3, R6, c6, by go_num, by omega, by rw [hlen], by rw [hlen]; omega, HI2.out, HF9⟩, by simp [intOf]; omega⟩
              · have hkk2 : (kk == 0) = false := beq_eq_false_iff_ne.mpr hkk
                clear x0 x1
                go_wp2_with fail
                go_roundw
                case rel => exact ⟨i + 1, F, tk, Rm, cm, gm, Rt, ct, by go_num, by omega, rfl, by omega, HI.out, HFc.out⟩
                case measure => simp [intOf]; omega
      · have h24i : ¬ (i : Int) < 24 := by omega
        go_wp2_with fail
        go_loopw [19] (fun v19 wr2 => ∃ (k : Nat) (F2 : List Bk) (Rm2 : Option Addr) (cm2 gm2 : Nat), v19 = .int .i64 k ∧ k ≤ tk.length ∧ FreeInv (8 + 8 * r) F2 (tk.drop k) ∧ FS W G Z N Rw cw gw F2 tk Rm2 cm2 gm2 Rt ct wr2) (fun v _ => tk.length - (intOf v).toNat)
        case atStart => exact ⟨0, F, Rm, cm, gm, rfl, Nat.zero_le _, by simpa using HI.out, HF.out⟩
        case round =>
          obtain ⟨k, F2, Rm2, cm2, gm2, rfl, hk, hinv, hfs⟩ := hrel
          have HF2 := Lib.hid hfs
          by_cases hkl : k < tk.length
          · obtain ⟨t, ht⟩ : ∃ t, tk[k]? = some t := ⟨_, List.getElem?_eq_getElem hkl⟩
            obtain ⟨gt, gt1, gt2, hnt⟩ := HF2.out.own.nums
            obtain ⟨hR, _, hct⟩ := hnt (by rw [bkNums_len]; omega)
            obtain ⟨n0, n1⟩ := bkNums_get ht
            have t0 := hct _ _ n0
            have t1 := hct _ _ n1
            rw [drop_cons ht, ← List.nil_append (t :: tk.drop (k + 1))] at hinv
            have CR := Lib.hid (fun w (h : Bks w 0 F2 Rm2) => rel_step hinv HZS.out (by have := HN8.out; omega) Rm2 cm2 w h)
            have HG := Lib.hid hinv.give.2
            have hki : (k : Int) < (tk.length : Int) := by omega
            have hkz : (0 : Int) ≤ (k : Int) := by omega
            subst hR
            have c0' := HF2.out.m0
            have c1' := HF2.out.m1
            have HRM : Hid (Nums wr (bkNums F2) Rm2 gm2) := Lib.hid HF2.out.rm.1
            clear hnt hct n0 n1 ht hinv hfs
            go_wp2_with fail
            have xn0 := World.new_ne wr _ c0'
            have xn1 := World.new_ne wr _ t0
            go_cut [20, 21] from 140 to 163 (fun x12 x13 w' => ∃ (X : Nat) (R3 : Option Addr) (c3 g3 : Nat), x12 = .pointer (some ⟨X, 0, none⟩) ∧ x13 = .int .i64 0 ∧ wr.heap.size ≤ X ∧ w'.cell? ⟨X, 0, none⟩ = some (.string Z) ∧ w'.cell? ⟨X, 1, none⟩ = some (.slice R3 (giveL t F2).length c3) ∧ RowIn w' (giveL t F2) R3 g3 ∧ wr.heap.size ≤ g3 ∧ Below wr.heap.size wr w')
            case first =>
              go_region_held3 (fun w' => w'.cell? ⟨G, 0, none⟩ = some (.string Z) ∧ w'.cell? ⟨G, 1, none⟩ = some (.slice Rm2 F2.length cm2) ∧ w'.cell? ⟨gt, k * 2, none⟩ = some (.int .i64 t.pos) ∧ w'.cell? ⟨gt, k * 2 + 1, none⟩ = some (.int .i64 t.size))
                (first | assumption | (exact ⟨c0', c1', t0, t1⟩) | (exact ⟨j0, j1, j2, j3⟩) | (exact ⟨keepCell (below1 _ _) j0, keepCell (below1 _ _) j1, keepCell (below1 _ _) j2, keepCell (below1 _ _) j3⟩) | (exact ⟨keepCell (below1 _ _).drew c0', keepCell (below1 _ _).drew c1', keepCell (below1 _ _).drew t0, keepCell (below1 _ _).drew t1⟩) | (exact ⟨keepCell (below1 _ _) c0', keepCell (below1 _ _) c1', keepCell (below1 _ _) t0, keepCell (below1 _ _) t1⟩) | (go_keep))
                (first
                  | (go_simp; go_at_call 14; (with_reducible refine (CR.out wr.drew ((HRM.out.below (Below.refl _ _).drew).bks (Nat.zero_le _))).mono ?_); rintro e w3 ⟨R3, c3, rfl, ho3, hb3, hz3⟩; have hbw : Below wr.heap.size wr w3 := (Below.refl _ _).drew.trans hb3; have j0 := keepCell hbw c0'; have j1 := keepCell hbw c1'; have j2 := keepCell hbw t0; have j3 := keepCell hbw t1; obtain ⟨g3, hg3, hl3, hn3⟩ := ho3.num2 hz3; have hrow : RowIn w3 (giveL t F2) R3 g3 := ⟨hn3, hl3⟩; have hg4 : wr.heap.size ≤ g3 := hg3; dsimp only)
                  | (go_simp; go_at_call 14; (with_reducible refine (CR.out ((wr.alloc (.cells #[.string ⟨#[]⟩, .slice none 0 0] 38)).drew) ((HRM.out.below (below1 _ _).drew).bks (Nat.zero_le _))).mono ?_); rintro e w3 ⟨R3, c3, rfl, ho3, hb3, hz3⟩; have hbw : Below wr.heap.size wr w3 := (below1 _ _).drew.trans (hb3.mono (by simp)); have j0 := keepCell hbw c0'; have j1 := keepCell hbw c1'; have j2 := keepCell hbw t0; have j3 := keepCell hbw t1; obtain ⟨g3, hg3, hl3, hn3⟩ := ho3.num2 hz3; have hrow : RowIn w3 (giveL t F2) R3 g3 := ⟨hn3, hl3⟩; have hg4 : wr.heap.size ≤ g3 := (by simp at hg3; omega); have hg5 : wr.heap.size < g3 := (by simp at hg3; omega); obtain ⟨xb0, xb1, xf⟩ := fresh2 hb3; dsimp only))
              all_goals go_wp2_with fail
              all_goals go_meet
              all_goals first
                | exact ⟨_, R3, c3, g3, rfl, rfl, hbw.size, by go_simp, by go_simp, hrow.below (below1 _ _), hg4, bchain hbw (below1 _ _) hbw.size⟩
                | exact ⟨_, R3, c3, g3, rfl, rfl, Nat.le_refl _, (setTwo7 xb0 xb1).1, (setTwo7 xb0 xb1).2, hrow.same (by rw [Below.heap_setCell _ _ _ _ (by dsimp only; omega), Below.heap_setCell _ _ _ _ (by dsimp only; omega)]) (by simp), hg4, (hbw.setCell (Nat.le_refl _) _).setCell (Nat.le_refl _) _⟩
            case rest =>
              obtain ⟨X, R3, c3, g3, rfl, rfl, hX, x0, x1, hrow, hg3, hb⟩ := hcut
              have hfs2 := HF2.out.below hb
              have hGl := HF2.out.lt
              have y0 := hfs2.m0
              have y1 := hfs2.m1
              have yf0 := hfs2.f0
              have yf1 := hfs2.f1
              have HF3 := Lib.hid (hfs2.store c3 hrow (by omega) (fun k' hk' => by have := (HF2.out.sep k' hk').2.2.2.2; omega))
              clear hfs2 hrow hb xn0 xn1 t0 t1 c0' c1'
              go_wp2_with fail
              go_roundw
              case rel => exact ⟨k + 1, giveL t F2, R3, c3, g3, by go_num, by omega, HG.out, HF3.out⟩
              case measure => simp [intOf]; omega
          · obtain rfl : k = tk.length := by omega
            have hkf : ¬ (tk.length : Int) < (tk.length : Int) := by omega
            have hinv2 := hinv
            rw [List.drop_length] at hinv2
            obtain rfl : F2 = N := HEND.out F2 hinv2
            have y0 := HF2.out.m0
            have y1 := HF2.out.m1
            have y2 := HF2.out.q0
            have y3 := HF2.out.q1
            have hme := hinv2.me HZS.out (by have := HN8.out; omega)
            have hb1 : Bks wr 0 F2 Rm2 := HF2.out.rm.1.bks (Nat.zero_le _)
            have hb2 : Bks wr 0 F2 Rw := HF2.out.rw_.1.bks (Nat.zero_le _)
            have C1 := Lib.hid (implSameMemory_any ⟨Z, F2⟩ ⟨Z, F2⟩ hme.1 Rm2 cm2 Rw cw 0 0 wr hb1 hb2)
            have HB1 := Lib.hid hb1
            have HB2 := Lib.hid hb2
            have HM := Lib.hid hme.1
            clear hb1 hb2 hme hinv hinv2 hfs
            go_wp2_with fail
            go_at_call 16
            refine C1.out.mono ?_
            rintro e w5 ⟨v, rfl, hv, hb5⟩
            obtain rfl : v = true := hv.2 ⟨rfl, rfl⟩
            have y0 := keepCell hb5 y0
            have y1 := keepCell hb5 y1
            have y2 := keepCell hb5 y2
            have y3 := keepCell hb5 y3
            have C2 := Lib.hid (specSameMemory_any ⟨Z, F2⟩ ⟨Z, F2⟩ HM.out Rm2 cm2 Rw cw 0 0 w5 (Bks.below HB1.out hb5) (Bks.below HB2.out hb5))
            have HB5 := Lib.hid (bchain HF2.out.bel hb5 HF2.out.bel.size)
            clear hv hb5 C1
            go_wp2_with fail
            go_at_call 17
            refine C2.out.mono ?_
            rintro e w6 ⟨v, rfl, hv, hb6⟩
            obtain rfl : v = true := hv.2 ⟨rfl, rfl⟩
            have HB6 := Lib.hid (bchain HB5.out hb6 HB5.out.size)
            clear hv hb6
            go_wp2_with fail
            go_ret
            exact ⟨rfl, HB6.out⟩
end Go.Proofs.Ytoeofhhmkkpjbaa
