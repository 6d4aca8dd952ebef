/-
  The walk of the program's GrowMem.
-/
import Derived.Test.YtoeofhhmkkpjbaaMeGrP
import Derived.Test.YtoeofhhmkkpjbaaMeReI
namespace Go.Proofs.Ytoeofhhmkkpjbaa
open Go.ChangeShapes Go.WideShapes Go.ChangeAt Go.RowKit Go.Deep

set_option maxRecDepth 100000 in
set_option maxHeartbeats 2000000 in
theorem implGr_bad (x : Me) (hT : x.wt ≤ 1048576) (hfin : x.Fin) (R : Option Addr) (c : Nat) (m : Int) (hno : memOk x = false) (lo : Nat) (w : World) (h : Me.At w lo x R) :
    Calls Try.prog 33 #[.agg #[.string x.bytes, .slice R x.free.length c], .int .i64 m] w (MeAns2 noMe 1 w) := by
  have CM := fun W (h : Me.At W lo x R) => implMemoryOk_any x hT hfin R c lo W h
  rw [hno] at CM
  have CM := Lib.hid CM
  have H := Lib.hid h
  clear h hno hfin hT
  go_enter Try.func33, Try.ntmps33
  go_wp2_with fail
  have F0 := Lib.hid (Fr.new w x R c)
  go_at_call 34
  refine (CM.out _ (Me.At.below H.out F0.out.hb)).mono ?_
  rintro e w1 ⟨rfl, hb1⟩
  have F1 := Lib.hid (F0.out.below hb1)
  have q0 := F1.out.q0
  have q1 := F1.out.q1
  have qf := F1.out.qf
  clear hb1
  go_wp2_with fail
  obtain ⟨s0, s1, s2⟩ := F1.out.ret (.string ⟨#[]⟩) (.slice none 0 0)
  refine bodyPost_ret (v := .tuple #[.agg #[.string ⟨#[]⟩, .slice none 0 0], .int .i64 1]) (by simp [results, Try.results33, go_sem, s0, s1]) rfl ?_
  exact ⟨none, 0, rfl, ownBk_nil _ _, s2⟩
set_option maxRecDepth 100000 in
set_option maxHeartbeats 2000000 in
theorem implGr_neg (x : Me) (hT : x.wt ≤ 1048576) (hfin : x.Fin) (R : Option Addr) (c : Nat) (m : Int) (hok : memOk x = true) (hm : m < 0) (lo : Nat) (w : World) (h : Me.At w lo x R) :
    Calls Try.prog 33 #[.agg #[.string x.bytes, .slice R x.free.length c], .int .i64 m] w (MeAns2 noMe 2 w) := by
  have CM := fun W (h : Me.At W lo x R) => implMemoryOk_any x hT hfin R c lo W h
  rw [hok] at CM
  have CM := Lib.hid CM
  have H := Lib.hid h
  clear h hok hfin hT
  go_enter Try.func33, Try.ntmps33
  go_wp2_with fail
  have F0 := Lib.hid (Fr.new w x R c)
  go_at_call 34
  refine (CM.out _ (Me.At.below H.out F0.out.hb)).mono ?_
  rintro e w1 ⟨rfl, hb1⟩
  have F1 := Lib.hid (F0.out.below hb1)
  have q0 := F1.out.q0
  have q1 := F1.out.q1
  have qf := F1.out.qf
  clear hb1
  go_wp2_with fail
  obtain ⟨s0, s1, s2⟩ := F1.out.ret (.string ⟨#[]⟩) (.slice none 0 0)
  refine bodyPost_ret (v := .tuple #[.agg #[.string ⟨#[]⟩, .slice none 0 0], .int .i64 2]) (by simp [results, Try.results33, go_sem, s0, s1]) rfl ?_
  exact ⟨none, 0, rfl, ownBk_nil _ _, s2⟩
set_option maxRecDepth 100000 in
set_option maxHeartbeats 2000000 in
theorem implGr_many (x : Me) (hT : x.wt ≤ 1048576) (hfin : x.Fin) (R : Option Addr) (c : Nat) (m : Int) (hok : memOk x = true) (hm : ¬ m < 0) (hm2 : 4096 - (x.bytes.size : Int) < m) (lo : Nat) (w : World) (h : Me.At w lo x R) :
    Calls Try.prog 33 #[.agg #[.string x.bytes, .slice R x.free.length c], .int .i64 m] w (MeAns2 noMe 4 w) := by
  have CM := fun W (h : Me.At W lo x R) => implMemoryOk_any x hT hfin R c lo W h
  rw [hok] at CM
  have CM := Lib.hid CM
  have H := Lib.hid h
  have hbb := (memOk_iff.1 hok).1
  have hw0 : IntKind.i64.wrap (4096 - (x.bytes.size : Int)) = 4096 - (x.bytes.size : Int) := IntWalk.i64_in _ (by omega)
  clear h hok hfin hT
  go_enter Try.func33, Try.ntmps33
  go_wp2_with fail
  have F0 := Lib.hid (Fr.new w x R c)
  go_at_call 34
  refine (CM.out _ (Me.At.below H.out F0.out.hb)).mono ?_
  rintro e w1 ⟨rfl, hb1⟩
  have F1 := Lib.hid (F0.out.below hb1)
  have k0 := F1.out.k0
  have k1 := F1.out.k1
  have q0 := F1.out.q0
  have q1 := F1.out.q1
  have qf := F1.out.qf
  clear hb1
  go_wp2_with fail
  obtain ⟨s0, s1, s2⟩ := F1.out.ret (.string ⟨#[]⟩) (.slice none 0 0)
  refine bodyPost_ret (v := .tuple #[.agg #[.string ⟨#[]⟩, .slice none 0 0], .int .i64 4]) (by simp [results, Try.results33, go_sem, s0, s1]) rfl ?_
  exact ⟨none, 0, rfl, ownBk_nil _ _, s2⟩
set_option maxRecDepth 100000 in
set_option maxHeartbeats 2000000 in
theorem implGr_yes (x : Me) (hT : x.wt ≤ 1048576) (hfin : x.Fin) (R : Option Addr) (c : Nat) (m : Nat) (hok : memOk x = true) (hm2 : (m : Int) ≤ 4096 - (x.bytes.size : Int)) (lo : Nat) (w : World) (h : Me.At w lo x R) :
    Calls Try.prog 33 #[.agg #[.string x.bytes, .slice R x.free.length c], .int .i64 m] w (MeAns2 ⟨x.bytes ++ zeroB (m : Int).toNat, growL x m⟩ 0 w) := by
  have CM := fun W (h : Me.At W lo x R) => implMemoryOk_any x hT hfin R c lo W h
  rw [hok] at CM
  have CM := Lib.hid CM
  have H := Lib.hid h
  have hsm := ok_sm hok
  have hbb := (memOk_iff.1 hok).1
  have hln := memOk_len hok
  have HOK := Lib.hid (memOk_iff.1 hok).2
  have HSM := Lib.hid hsm
  have hw0 : IntKind.i64.wrap (4096 - (x.bytes.size : Int)) = 4096 - (x.bytes.size : Int) := IntWalk.i64_in _ (by omega)
  have hw1 : IntKind.i64.wrap ((x.bytes.size : Int) + (m : Int)) = (x.bytes.size : Int) + (m : Int) := IntWalk.i64_in _ (by omega)
  obtain ⟨hA8, hAn⟩ := growAt_in x
  have HTK := Lib.hid (fun s => grow_taken hok (growAt x) s hAn)
  have hAle : growAt x ≤ 4096 := by unfold growAt; split <;> omega
  have hgl := growL_len x m
  have hGR : growL x m = if growAt x < (x.bytes.size : Int) + m then giveL ⟨growAt x, (x.bytes.size : Int) + m - growAt x⟩ x.free else x.free := rfl
  have hAc : ((8 : Int) < (x.bytes.size : Int) ∧ growAt x = x.bytes.size) ∨ (¬ (8 : Int) < (x.bytes.size : Int) ∧ growAt x = 8) := by unfold growAt; split <;> simp_all
  obtain ⟨A, hA⟩ : ∃ A, growAt x = A := ⟨_, rfl⟩
  obtain ⟨G, hG⟩ : ∃ G, growL x m = G := ⟨_, rfl⟩
  obtain ⟨Z, hZ⟩ : ∃ Z, zeroB m = Z := ⟨_, rfl⟩
  have hzs : Z.size = m := by rw [← hZ, zeroB_size]
  rw [hG] at hgl hGR ⊢
  rw [hA] at HTK hA8 hAn hAle hGR hAc
  rw [Int.toNat_natCast, hZ]
  have HGL : Hid (G.length ≤ 4097) := Lib.hid (by omega)
  have HGR := Lib.hid hGR
  have hw2 : IntKind.i64.wrap ((x.bytes.size : Int) + (m : Int) - A) = (x.bytes.size : Int) + (m : Int) - A := IntWalk.i64_in _ (by omega)
  have hm1 : ¬ 9223372036854775807 < x.bytes.size + Z.size := by omega
  have hm3 : ¬ 4096 - (x.bytes.size : Int) < (m : Int) := by omega
  have CRP := fun W => repeat_any m (by omega) W
  rw [hZ] at CRP
  have CRP := Lib.hid CRP
  have CO := Lib.hid (fun W (h : Bks W lo x.free R) => chainOf_any x.free (by omega) R c lo W h)
  have CB := Lib.hid (fun B l g0 tl hl0 W h => before_any B l g0 ⟨0, 0⟩ tl hl0 A (by simp only; omega) W h)
  have CGV := Lib.hid (fun B xs ys g b hs hb hy W hB h => giveC B xs ys g b A ((x.bytes.size : Int) + m - A) hs hb (by unfold Bk.Sm; simp only; omega) (by omega) hy W hB h)
  clear h hok hfin hT hsm hbb hln hA hG hZ hzs hgl hGR
  go_enter Try.func33, Try.ntmps33
  go_wp2_with fail
  have F0 := Lib.hid (Fr.new w x R c)
  go_at_call 34
  refine (CM.out _ (Me.At.below H.out F0.out.hb)).mono ?_
  rintro e w1 ⟨rfl, hb1⟩
  have F1 := Lib.hid (F0.out.below hb1)
  have k0 := F1.out.k0
  have k1 := F1.out.k1
  clear hb1
  go_wp2_with fail
  go_at_call 37
  refine (CO.out _ (Me.At.below H.out F1.out.hb)).mono ?_
  rintro e w3 ⟨rfl, tl, hch, htl, hb3⟩
  obtain ⟨g0, hg0⟩ : ∃ g0, w1.heap.size = g0 := ⟨_, rfl⟩
  rw [hg0] at hch
  have HZ2 := Lib.hid F1.out.hz
  have F3 := Lib.hid (F1.out.below hb3)
  have HC3 := Lib.hid hch
  have HTL := Lib.hid htl
  have HB3 := Lib.hid hb3
  have HG0 := Lib.hid hg0
  rw [hg0]
  clear hch htl hb3 hg0
  replace k0 := F3.out.k0
  replace k1 := F3.out.k1
  have hmx : max (x.bytes.size : Int) 8 = A := by omega
  by_cases hgt : A < (x.bytes.size : Int) + (m : Int)
  · skip
    go_wp2_with fail
    go_at_call 38
    refine (CB.out _ _ _ _ rfl _ HC3.out).mono ?_
    rintro e w4 ⟨xs, ys, g, b, hl, rfl, hx, hy, hb4⟩
    have F4 := Lib.hid (F3.out.below hb4)
    have hch4 := HC3.out.below hb4
    rw [hl] at hch4
    have HC4 := Lib.hid hch4
    have RP := rel_pure hl (s := (x.bytes.size : Int) + m - A) hA8 (by omega) (by rw [HTL.out]; exact HOK.out) hx hy
    rw [HTL.out] at RP
    have HRP := Lib.hid RP
    obtain ⟨hbs, hys⟩ := mem_sm hl HTL.out HSM.out
    have HG4 := Lib.hid (Nat.le_trans (Nat.le_of_eq HG0.out.symm) (Nat.le_trans HB3.out.size hb4.size))
    have HBS := Lib.hid hbs
    have HYS := Lib.hid hys
    have hGE : giveL ⟨A, (x.bytes.size : Int) + m - A⟩ x.free = G := (HGR.out.trans (if_pos hgt)).symm
    have HGE := Lib.hid hGE
    clear RP hb4 hl hx hy hch4 hbs hys hGE
    go_wp2_with fail
    go_at_call 40
    refine (CGV.out g0 xs ys g b (by omega) HBS.out.1 (fun y hy => HYS.out y (List.mem_of_head? hy)) w4 HG4.out HC4.out).mono ?_
    rintro e w6 ⟨rfl, ⟨l6, ⟨b', zs, rfl, hz⟩, hch6⟩, hb6, hB6⟩
    obtain ⟨tl', b0, hl', htl'⟩ := HRP.out.2 (HTK.out _) b' zs hz
    rw [hl'] at hch6
    rw [HGE.out] at htl'
    have F6 := Lib.hid (F4.out.belowB hb6 (by rw [← HG0.out]; exact HZ2.out))
    have HC6 := Lib.hid hch6
    have q0 := F6.out.q0
    have q1 := F6.out.q1
    have qf := F6.out.qf
    clear hz hch6 hb6 hB6 hl'
    have hlen : tl'.length = G.length := by rw [← htl', List.length_map]
    have CBL := fun W h => blocks_any g0 g0 b0 tl' (by rw [hlen]; have := HGL.out; omega) W h
    rw [htl', hlen] at CBL
    have CBL := Lib.hid CBL
    replace k0 := F6.out.k0
    replace k1 := F6.out.k1
    replace q0 := F6.out.q0
    replace q1 := F6.out.q1
    replace qf := F6.out.qf
    have HZ6 := Lib.hid F6.out.hz
    clear htl' hlen
    go_wp2_with fail
    go_region_held3 (fun w' => w'.cell? ⟨w.heap.size, 0, none⟩ = some (.string x.bytes))
      (first | assumption | (exact (World.cell?_setCell_far _ _ _ _ (by simp)).trans ((World.cell?_setCell_far _ _ _ _ (by simp)).trans p0)) | fail)
      (first
        | (go_at_call 61; refine (CRP.out _).mono ?_; rintro e wA ⟨rfl, hbA⟩; have hbwA : Below w6.heap.size w6 wA := (by first | exact (Below.refl w6.heap.size w6).drew.trans hbA | exact hbwB.trans (hbA.mono hbwB.size)); have F7 := Lib.hid (F6.out.below hbwA); have p0 := F7.out.k0; have p1 := F7.out.k1; have r0 := F7.out.q0; have r1 := F7.out.q1; have rf := F7.out.qf; (try have HO7 := Lib.hid (HO7.out.keep hbA)))
        | (go_at_call 41; refine (CBL.out _ (HC6.out.below (by first | exact (Below.refl _ w6).drew | exact hbwA))).mono ?_; rintro e wB ⟨R7, c7, rfl, ho7, hbB⟩; have hbwB : Below w6.heap.size w6 wB := (by first | exact (Below.refl w6.heap.size w6).drew.trans hbB | exact hbwA.trans (hbB.mono hbwA.size)); have HO7 := Lib.hid (ho7.down (show w.heap.size + 2 ≤ _ from by first | (simpa using HZ6.out) | exact F7.out.hz)); have F7 := Lib.hid (F6.out.below hbwB); have p0 := F7.out.k0; have p1 := F7.out.k1; have r0 := F7.out.q0; have r1 := F7.out.q1; have rf := F7.out.qf))
    all_goals go_wp2_with fail
    all_goals (
      obtain ⟨s0, s1, s2⟩ := F7.out.ret (.string (x.bytes ++ Z)) (.slice R7 G.length c7)
      refine bodyPost_ret (v := .tuple #[.agg #[.string (x.bytes ++ Z), .slice R7 G.length c7], .int .i64 0]) (by simp [results, Try.results33, go_sem, s0, s1]) rfl ?_
      exact ⟨R7, c7, rfl, (HO7.out.ret (Nat.le_refl _) _ _), s2⟩)
  · skip
    have htl' : tl.map Prod.snd = G := HTL.out.trans (HGR.out.trans (if_neg hgt)).symm
    have q0 := F3.out.q0
    have q1 := F3.out.q1
    have qf := F3.out.qf
    have hlen : tl.length = G.length := by rw [← htl', List.length_map]
    have CBL := fun W h => blocks_any g0 g0 ⟨0, 0⟩ tl (by rw [hlen]; have := HGL.out; omega) W h
    rw [htl', hlen] at CBL
    have CBL := Lib.hid CBL
    replace k0 := F3.out.k0
    replace k1 := F3.out.k1
    replace q0 := F3.out.q0
    replace q1 := F3.out.q1
    replace qf := F3.out.qf
    have HZ6 := Lib.hid F3.out.hz
    clear htl' hlen
    go_wp2_with fail
    go_region_held3 (fun w' => w'.cell? ⟨w.heap.size, 0, none⟩ = some (.string x.bytes))
      (first | assumption | (exact (World.cell?_setCell_far _ _ _ _ (by simp)).trans ((World.cell?_setCell_far _ _ _ _ (by simp)).trans p0)) | fail)
      (first
        | (go_at_call 61; refine (CRP.out _).mono ?_; rintro e wA ⟨rfl, hbA⟩; have hbwA : Below w3.heap.size w3 wA := (by first | exact (Below.refl w3.heap.size w3).drew.trans hbA | exact hbwB.trans (hbA.mono hbwB.size)); have F7 := Lib.hid (F3.out.below hbwA); have p0 := F7.out.k0; have p1 := F7.out.k1; have r0 := F7.out.q0; have r1 := F7.out.q1; have rf := F7.out.qf; (try have HO7 := Lib.hid (HO7.out.keep hbA)))
        | (go_at_call 41; refine (CBL.out _ (HC3.out.below (by first | exact (Below.refl _ w3).drew | exact hbwA))).mono ?_; rintro e wB ⟨R7, c7, rfl, ho7, hbB⟩; have hbwB : Below w3.heap.size w3 wB := (by first | exact (Below.refl w3.heap.size w3).drew.trans hbB | exact hbwA.trans (hbB.mono hbwA.size)); have HO7 := Lib.hid (ho7.down (show w.heap.size + 2 ≤ _ from by first | (simpa using HZ6.out) | exact F7.out.hz)); have F7 := Lib.hid (F3.out.below hbwB); have p0 := F7.out.k0; have p1 := F7.out.k1; have r0 := F7.out.q0; have r1 := F7.out.q1; have rf := F7.out.qf))
    all_goals go_wp2_with fail
    all_goals (
      obtain ⟨s0, s1, s2⟩ := F7.out.ret (.string (x.bytes ++ Z)) (.slice R7 G.length c7)
      refine bodyPost_ret (v := .tuple #[.agg #[.string (x.bytes ++ Z), .slice R7 G.length c7], .int .i64 0]) (by simp [results, Try.results33, go_sem, s0, s1]) rfl ?_
      exact ⟨R7, c7, rfl, (HO7.out.ret (Nat.le_refl _) _ _), s2⟩)
theorem implGrowMem_any (x : Me) (hT : x.wt ≤ 1048576) (hfin : x.Fin) (R : Option Addr) (c : Nat) (m : Int) (lo : Nat) (w : World) (h : Me.At w lo x R) :
    Calls Try.prog 33 #[.agg #[.string x.bytes, .slice R x.free.length c], .int .i64 m] w (MeAns2 (memGrow x m).1 (memGrow x m).2 w) := by
  unfold memGrow
  by_cases hok : memOk x = true
  · rw [if_pos hok]
    by_cases hm : m < 0
    · rw [if_pos hm]
      exact implGr_neg x hT hfin R c m hok hm lo w h
    · rw [if_neg hm]
      by_cases hm2 : 4096 - (x.bytes.size : Int) < m
      · rw [if_pos hm2]
        exact implGr_many x hT hfin R c m hok hm hm2 lo w h
      · rw [if_neg hm2]
        obtain ⟨k, rfl⟩ := Int.eq_ofNat_of_zero_le (show 0 ≤ m by omega)
        exact implGr_yes x hT hfin R c k hok (by omega) lo w h
  · rw [if_neg hok]
    exact implGr_bad x hT hfin R c m (by simpa using hok) lo w h
end Go.Proofs.Ytoeofhhmkkpjbaa
