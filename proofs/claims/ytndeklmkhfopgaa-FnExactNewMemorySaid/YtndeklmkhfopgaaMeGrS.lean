/-
  The walk of the model's GrowMem.
-/
import Derived.Test.YtndeklmkhfopgaaMeGrI
import Derived.Test.YtndeklmkhfopgaaMeWrS
import Derived.Laws.IdiomStrings
namespace Go.Proofs.Ytndeklmkhfopgaa
open Go.ChangeShapes Go.WideShapes Go.ChangeAt Go.RowKit Go.Deep

theorem conv8d (n g : Nat) (W : World) (hg : W.heap.size = g) : (convert 95 9 (.slice (some ⟨g, 0, none⟩) n n)).run Try.prog (W.alloc (.cells (zCells n) 5)).drew = .ok (.string (zeroB n)) (W.alloc (.cells (zCells n) 5)).drew := by
  subst hg
  have hb := run_convert_bytes_back (P := Try.prog) (W.alloc (.cells (zCells n) 5)).drew 95 9 5 ⟨W.heap.size, 0, none⟩ n (List.replicate n 0) Try.underlying95 Try.underlying5 Try.underlying9 (fun j hj => by
    have hadd : (⟨W.heap.size, 0, none⟩ : Addr).add j = ⟨W.heap.size, j, none⟩ := by unfold Addr.add; split <;> simp_all
    rw [List.length_replicate] at hj
    rw [hadd]
    have hh := heap_alloc_new W (.cells (zCells n) 5)
    show (W.alloc (.cells (zCells n) 5)).cell? _ = _
    simp only [World.cell?, hh]
    simp [zCells, hj])
  rw [List.length_replicate] at hb
  exact hb
theorem OwnBk.cap7 {w : World} {base : Nat} {xs : List Bk} {R : Option Addr} {c : Nat} (h : OwnBk w base xs R xs.length c) : xs.length ≤ c := by
  rcases h.2.2 with ⟨e, e2⟩ | ⟨g, cap', cur, e, hg, hb, h1, _⟩
  · omega
  · injection e with e1 e2 e3
    omega
theorem l00Max_l (a b : Int) (h : b < a) (w : World) : Calls Try.prog 88 #[.int .i64 a, .int .i64 b] w fun e w' => e = .returned (.int .i64 a) ∧ Below w.heap.size w w' := by
  go_enter Try.func88, Try.ntmps88
  go_wp2_with fail
  go_ret
  exact ⟨rfl, Below.refl _ _⟩
theorem l00Max_r (a b : Int) (h : ¬ b < a) (w : World) : Calls Try.prog 88 #[.int .i64 a, .int .i64 b] w fun e w' => e = .returned (.int .i64 b) ∧ Below w.heap.size w w' := by
  go_enter Try.func88, Try.ntmps88
  go_wp2_with fail
  go_ret
  exact ⟨rfl, Below.refl _ _⟩
set_option maxRecDepth 100000 in
set_option maxHeartbeats 2000000 in
theorem specGr_bad (x : Me) (hT : x.wt ≤ 1048576) (hfin : x.Fin) (R : Option Addr) (c : Nat) (m : Int) (hno : memOk x = false) (lo : Nat) (w : World) (h : Me.At w lo x R) :
    Calls Try.prog 38 #[.agg #[.string x.bytes, .slice R x.free.length c], .int .i64 m] w (MeAns2 noMe 1 w) := by
  have CM := fun W (h : Me.At W lo x R) => specMemoryOk_any x hT hfin R c lo W h
  rw [hno] at CM
  have CM := Lib.hid CM
  have H := Lib.hid h
  have hlen0 := (Me.parts_le hT).1
  have h63 : ¬ 9223372036854775807 < x.bytes.size := by omega
  clear h hno hfin hT
  go_enter Try.func38, Try.ntmps38
  go_wp2_with fail
  have F0 := Lib.hid (Fr.new w x R c)
  go_at_call 65
  refine (CM.out _ (Me.At.below H.out F0.out.hb)).mono ?_
  rintro e w1 ⟨rfl, hb1⟩
  have F1 := Lib.hid (F0.out.below hb1)
  have q0 := F1.out.q0
  have q1 := F1.out.q1
  have qf := F1.out.qf
  clear hb1
  go_wp2_with fail
  obtain ⟨s0, s1, s2⟩ := F1.out.ret (.string ⟨#[]⟩) (.slice none 0 0)
  refine bodyPost_ret (v := .tuple #[.agg #[.string ⟨#[]⟩, .slice none 0 0], .int .i64 1]) (by simp [results, Try.results38, go_sem, s0, s1]) rfl ?_
  exact ⟨none, 0, rfl, ownBk_nil _ _, s2⟩
set_option maxRecDepth 100000 in
set_option maxHeartbeats 2000000 in
theorem specGr_neg (x : Me) (hT : x.wt ≤ 1048576) (hfin : x.Fin) (R : Option Addr) (c : Nat) (m : Int) (hok : memOk x = true) (hm : m < 0) (lo : Nat) (w : World) (h : Me.At w lo x R) :
    Calls Try.prog 38 #[.agg #[.string x.bytes, .slice R x.free.length c], .int .i64 m] w (MeAns2 noMe 2 w) := by
  have CM := fun W (h : Me.At W lo x R) => specMemoryOk_any x hT hfin R c lo W h
  rw [hok] at CM
  have CM := Lib.hid CM
  have H := Lib.hid h
  have hlen0 := (Me.parts_le hT).1
  have h63 : ¬ 9223372036854775807 < x.bytes.size := by omega
  clear h hok hfin hT
  go_enter Try.func38, Try.ntmps38
  go_wp2_with fail
  have F0 := Lib.hid (Fr.new w x R c)
  go_at_call 65
  refine (CM.out _ (Me.At.below H.out F0.out.hb)).mono ?_
  rintro e w1 ⟨rfl, hb1⟩
  have F1 := Lib.hid (F0.out.below hb1)
  have q0 := F1.out.q0
  have q1 := F1.out.q1
  have qf := F1.out.qf
  clear hb1
  go_wp2_with fail
  obtain ⟨s0, s1, s2⟩ := F1.out.ret (.string ⟨#[]⟩) (.slice none 0 0)
  refine bodyPost_ret (v := .tuple #[.agg #[.string ⟨#[]⟩, .slice none 0 0], .int .i64 2]) (by simp [results, Try.results38, go_sem, s0, s1]) rfl ?_
  exact ⟨none, 0, rfl, ownBk_nil _ _, s2⟩
set_option maxRecDepth 100000 in
set_option maxHeartbeats 2000000 in
theorem specGr_many (x : Me) (hT : x.wt ≤ 1048576) (hfin : x.Fin) (R : Option Addr) (c : Nat) (m : Int) (hok : memOk x = true) (hm : ¬ m < 0) (hm2 : 4096 - (x.bytes.size : Int) < m) (lo : Nat) (w : World) (h : Me.At w lo x R) :
    Calls Try.prog 38 #[.agg #[.string x.bytes, .slice R x.free.length c], .int .i64 m] w (MeAns2 noMe 4 w) := by
  have CM := fun W (h : Me.At W lo x R) => specMemoryOk_any x hT hfin R c lo W h
  rw [hok] at CM
  have CM := Lib.hid CM
  have H := Lib.hid h
  have hlen0 := (Me.parts_le hT).1
  have h63 : ¬ 9223372036854775807 < x.bytes.size := by omega
  have hbb := (memOk_iff.1 hok).1
  have hw0 : IntKind.i64.wrap (4096 - (x.bytes.size : Int)) = 4096 - (x.bytes.size : Int) := IntWalk.i64_in _ (by omega)
  clear h hok hfin hT
  go_enter Try.func38, Try.ntmps38
  go_wp2_with fail
  have F0 := Lib.hid (Fr.new w x R c)
  go_at_call 65
  refine (CM.out _ (Me.At.below H.out F0.out.hb)).mono ?_
  rintro e w1 ⟨rfl, hb1⟩
  have F1 := Lib.hid (F0.out.below hb1)
  have k0 := F1.out.k0
  have k1 := F1.out.k1
  have q0 := F1.out.q0
  have q1 := F1.out.q1
  have qf := F1.out.qf
  clear hb1
  go_wp2_with fail
  obtain ⟨s0, s1, s2⟩ := F1.out.ret (.string ⟨#[]⟩) (.slice none 0 0)
  refine bodyPost_ret (v := .tuple #[.agg #[.string ⟨#[]⟩, .slice none 0 0], .int .i64 4]) (by simp [results, Try.results38, go_sem, s0, s1]) rfl ?_
  exact ⟨none, 0, rfl, ownBk_nil _ _, s2⟩
set_option maxRecDepth 100000 in
set_option maxHeartbeats 2000000 in
theorem specGr_yes (x : Me) (hT : x.wt ≤ 1048576) (hfin : x.Fin) (R : Option Addr) (c : Nat) (m : Nat) (hok : memOk x = true) (hm2 : (m : Int) ≤ 4096 - (x.bytes.size : Int)) (lo : Nat) (w : World) (h : Me.At w lo x R) :
    Calls Try.prog 38 #[.agg #[.string x.bytes, .slice R x.free.length c], .int .i64 m] w (MeAns2 ⟨x.bytes ++ zeroB (m : Int).toNat, growL x m⟩ 0 w) := by
  have CM := fun W (h : Me.At W lo x R) => specMemoryOk_any x hT hfin R c lo W h
  rw [hok] at CM
  have CM := Lib.hid CM
  have H := Lib.hid h
  have hlen0 := (Me.parts_le hT).1
  have h63 : ¬ 9223372036854775807 < x.bytes.size := by omega
  have hsm := ok_sm hok
  have hbb := (memOk_iff.1 hok).1
  have hln := memOk_len hok
  have HOK := Lib.hid (memOk_iff.1 hok).2
  have HSM := Lib.hid hsm
  have hw0 : IntKind.i64.wrap (4096 - (x.bytes.size : Int)) = 4096 - (x.bytes.size : Int) := IntWalk.i64_in _ (by omega)
  have hw1 : IntKind.i64.wrap ((x.bytes.size : Int) + (m : Int)) = (x.bytes.size : Int) + (m : Int) := IntWalk.i64_in _ (by omega)
  obtain ⟨hA8, hAn⟩ := growAt_in x
  have HTK := Lib.hid (fun s => grow_taken hok (growAt x) s hAn)
  have hAle : growAt x ≤ 4096 := by unfold growAt; split <;> omega
  have hgl := growL_len x m
  have hGR : growL x m = if growAt x < (x.bytes.size : Int) + m then giveL ⟨growAt x, (x.bytes.size : Int) + m - growAt x⟩ x.free else x.free := rfl
  have hAc : ((8 : Int) < (x.bytes.size : Int) ∧ growAt x = x.bytes.size) ∨ (¬ (8 : Int) < (x.bytes.size : Int) ∧ growAt x = 8) := by unfold growAt; split <;> simp_all
  obtain ⟨A, hA⟩ : ∃ A, growAt x = A := ⟨_, rfl⟩
  obtain ⟨G, hG⟩ : ∃ G, growL x m = G := ⟨_, rfl⟩
  obtain ⟨Z, hZ⟩ : ∃ Z, zeroB m = Z := ⟨_, rfl⟩
  have hzs : Z.size = m := by rw [← hZ, zeroB_size]
  rw [hG] at hgl hGR ⊢
  rw [hA] at HTK hA8 hAn hAle hGR hAc
  rw [Int.toNat_natCast, hZ]
  have HGL : Hid (G.length ≤ 4097) := Lib.hid (by omega)
  have HGR := Lib.hid hGR
  have hw2 : IntKind.i64.wrap ((x.bytes.size : Int) + (m : Int) - A) = (x.bytes.size : Int) + (m : Int) - A := IntWalk.i64_in _ (by omega)
  have hm1 : ¬ 9223372036854775807 < x.bytes.size + Z.size := by omega
  have hm3 : ¬ 4096 - (x.bytes.size : Int) < (m : Int) := by omega
  have CC := Lib.hid (fun W (h : Me.At W lo x R) => l10Own_any x (by omega) R c lo W h)
  have CMX : Hid (∀ W : World, Calls Try.prog 88 #[.int .i64 (x.bytes.size : Int), .int .i64 8] W fun e w' => e = .returned (.int .i64 A) ∧ Below W.heap.size W w') := Lib.hid (fun W => by
    rcases hAc with ⟨h1, h2⟩ | ⟨h1, h2⟩
    · rw [h2]
      exact l00Max_l _ _ h1 W
    · rw [h2]
      exact l00Max_r _ _ h1 W)
  have CG := Lib.hid (fun (hgt : A < (x.bytes.size : Int) + (m : Int)) (R' : Option Addr) (c' lo' : Nat) (hcap : x.free.length ≤ c') W (h : Bks W lo' x.free R') => l10Give_any ⟨A, (x.bytes.size : Int) + m - A⟩ (by unfold Bk.Sm; simp only; omega) x.free (by omega) (fun y hy => (hsm y hy).1) R' c' lo' hcap W h)
  have hmk := make8 m (by omega)
  have hcv := conv8d m
  rw [hZ] at hcv
  clear h hok hfin hT hsm hbb hln hA hG hZ hzs hgl hGR hAc
  go_enter Try.func38, Try.ntmps38
  go_wp2_with fail
  have F0 := Lib.hid (Fr.new w x R c)
  go_at_call 65
  refine (CM.out _ (Me.At.below H.out F0.out.hb)).mono ?_
  rintro e w1 ⟨rfl, hb1⟩
  have F1 := Lib.hid (F0.out.below hb1)
  have k0 := F1.out.k0
  have k1 := F1.out.k1
  clear hb1
  go_wp2_with fail
  go_at_call 82
  refine (CC.out _ (Me.At.below H.out F1.out.hb)).mono ?_
  rintro e w5 ⟨R5, c5, rfl, ho5, hb5⟩
  have F5 := Lib.hid (F1.out.below hb5)
  have HO5 := Lib.hid ho5
  have HZ1 := Lib.hid F1.out.hz
  replace k0 := F5.out.k0
  clear k1 ho5 hb5
  have hzne : w.heap.size + 1 ≠ w5.heap.size := by have := F5.out.hz; omega
  have hzne0 : w.heap.size ≠ w5.heap.size := by have := F5.out.hz; omega
  have k06 := fun o => keepCell (below1 w5 o) k0
  have k07 := fun o o2 => keepCell (below2 w5 o o2) k0
  go_wp2_with fail
  go_region
  have hb9 : Below w5.heap.size w5 ((w5.alloc (.cells #[.string (x.bytes ++ Z), .slice R5 x.free.length c5] 50)).alloc (.cells (zCells m) 5)).drew := (below2 _ _ _).drew
  have d0 : ((w5.alloc (.cells #[.string (x.bytes ++ Z), .slice R5 x.free.length c5] 50)).alloc (.cells (zCells m) 5)).drew.cell? ⟨w5.heap.size, 0, none⟩ = some (.string (x.bytes ++ Z)) := by go_simp
  have d1 : ((w5.alloc (.cells #[.string (x.bytes ++ Z), .slice R5 x.free.length c5] 50)).alloc (.cells (zCells m) 5)).drew.cell? ⟨w5.heap.size, 1, none⟩ = some (.slice R5 x.free.length c5) := by go_simp
  have df : ∀ o, ((w5.alloc (.cells #[.string (x.bytes ++ Z), .slice R5 x.free.length c5] 50)).alloc (.cells (zCells m) 5)).drew.frozen? ⟨w5.heap.size, o, none⟩ = false := fun o => by go_simp
  obtain ⟨W9, hW9⟩ : ∃ W, ((w5.alloc (.cells #[.string (x.bytes ++ Z), .slice R5 x.free.length c5] 50)).alloc (.cells (zCells m) 5)).drew = W := ⟨_, rfl⟩
  rw [hW9] at hb9 d0 d1 df ⊢
  have F9 := Lib.hid (F5.out.below hb9)
  have HO9 := Lib.hid (HO5.out.keep hb9)
  have HD0 := Lib.hid d0
  have HD1 := Lib.hid d1
  clear hW9 hb9 k06 k07 k0 hcv hmk d0 d1
  go_wp2_with fail
  go_at_call 88
  refine (CMX.out _).mono ?_
  rintro e w10 ⟨rfl, hb10⟩
  have F10 := Lib.hid (F9.out.below hb10)
  have HO10 := Lib.hid (HO9.out.keep hb10)
  have d0 := keepCell hb10 HD0.out
  have d1 := keepCell hb10 HD1.out
  have hlt9 := World.block_lt_of_cell? _ _ HD0.out
  have df10 : ∀ o, w10.frozen? ⟨w5.heap.size, o, none⟩ = false := fun o => (hb10.frozen (p := ⟨w5.heap.size, o, none⟩) hlt9).trans (df o)
  have hlt10 := World.block_lt_of_cell? _ _ d0
  have HLT := Lib.hid hlt10
  clear hb10 df hlt9 hlt10
  by_cases hgt : A < (x.bytes.size : Int) + (m : Int)
  · have hGE : giveL ⟨A, (x.bytes.size : Int) + m - A⟩ x.free = G := (HGR.out.trans (if_pos hgt)).symm
    have CG2 := CG.out hgt
    rw [hGE] at CG2
    have CG2 := Lib.hid CG2
    obtain ⟨gn, _, _, hnn⟩ := HO10.out.nums
    have HBK := Lib.hid (hnn.bks (lo := 0) (Nat.zero_le _))
    clear hnn hGE
    go_wp2_with fail
    go_at_call 85
    refine (CG2.out _ _ _ HO10.out.cap7 _ HBK.out).mono ?_
    rintro e w11 ⟨R11, c11, rfl, ho11, hb11⟩
    have HO11 := Lib.hid (ho11.far ⟨w5.heap.size, 1, none⟩ HLT.out (.slice R11 G.length c11))
    have F11 := Lib.hid ((F10.out.below hb11).belowB ((Below.refl w5.heap.size w11).setCell (p := ⟨w5.heap.size, 1, none⟩) (Nat.le_refl _) (.slice R11 G.length c11)) F5.out.hz)
    have HZ10 := Lib.hid F10.out.hz
    have e0 := keepCell hb11 d0
    have e1 := keepCell hb11 d1
    have ef : ∀ o, w11.frozen? ⟨w5.heap.size, o, none⟩ = false := fun o => (hb11.frozen (p := ⟨w5.heap.size, o, none⟩) HLT.out).trans (df10 o)
    have q0 := F11.out.q0
    have q1 := F11.out.q1
    have qf := F11.out.qf
    clear hb11 ho11 d0 d1 df10
    go_wp2_with fail
    obtain ⟨s0, s1, s2⟩ := F11.out.ret (.string (x.bytes ++ Z)) (.slice R11 G.length c11)
    refine bodyPost_ret (v := .tuple #[.agg #[.string (x.bytes ++ Z), .slice R11 G.length c11], .int .i64 0]) (by simp [results, Try.results38, go_sem, s0, s1]) rfl ?_
    exact ⟨R11, c11, rfl, (HO11.out.ret HZ10.out _ _), s2⟩
  · have HGE : Hid (x.free = G) := Lib.hid (HGR.out.trans (if_neg hgt)).symm
    have q0 := F10.out.q0
    have q1 := F10.out.q1
    have qf := F10.out.qf
    go_wp2_with fail
    obtain ⟨s0, s1, s2⟩ := F10.out.ret (.string (x.bytes ++ Z)) (.slice R5 x.free.length c5)
    refine bodyPost_ret (v := .tuple #[.agg #[.string (x.bytes ++ Z), .slice R5 x.free.length c5], .int .i64 0]) (by simp [results, Try.results38, go_sem, s0, s1]) rfl ?_
    exact ⟨R5, c5, by simp only [← HGE.out], by have := HO10.out.ret HZ1.out (.string (x.bytes ++ Z)) (.slice R5 x.free.length c5); simp only [← HGE.out]; exact this, s2⟩
theorem specGrowMem_any (x : Me) (hT : x.wt ≤ 1048576) (hfin : x.Fin) (R : Option Addr) (c : Nat) (m : Int) (lo : Nat) (w : World) (h : Me.At w lo x R) :
    Calls Try.prog 38 #[.agg #[.string x.bytes, .slice R x.free.length c], .int .i64 m] w (MeAns2 (memGrow x m).1 (memGrow x m).2 w) := by
  unfold memGrow
  by_cases hok : memOk x = true
  · rw [if_pos hok]
    by_cases hm : m < 0
    · rw [if_pos hm]
      exact specGr_neg x hT hfin R c m hok hm lo w h
    · rw [if_neg hm]
      by_cases hm2 : 4096 - (x.bytes.size : Int) < m
      · rw [if_pos hm2]
        exact specGr_many x hT hfin R c m hok hm hm2 lo w h
      · rw [if_neg hm2]
        obtain ⟨k, rfl⟩ := Int.eq_ofNat_of_zero_le (show 0 ≤ m by omega)
        exact specGr_yes x hT hfin R c k hok (by omega) lo w h
  · rw [if_neg hok]
    exact specGr_bad x hT hfin R c m (by simpa using hok) lo w h
theorem pureGrowMem_len (x : Me) (_hT : x.wt ≤ 1048576) (_hfin : x.Fin) (m : Int) : (memGrow x m).1.wt ≤ 1048576 ∧ (memGrow x m).1.free.length ≤ 262144 := by
  unfold memGrow
  by_cases hok : memOk x = true
  · rw [if_pos hok]
    have h1 := memOk_len hok
    have h2 := (memOk_iff.1 hok).1
    by_cases hm : m < 0
    · rw [if_pos hm]
      exact noMe_wt0
    · rw [if_neg hm]
      by_cases hm2 : 4096 - (x.bytes.size : Int) < m
      · rw [if_pos hm2]
        exact noMe_wt0
      · rw [if_neg hm2]
        have h3 := growL_len x m
        refine ⟨?_, by show (growL x m).length ≤ 262144; omega⟩
        show ((x.bytes ++ zeroB m.toNat).size : Int) + (((growL x m).length : Int) + Bk.wts (growL x m)) ≤ 1048576
        rw [Bk.wts_zero, ByteArray.size_append, zeroB_size]
        omega
  · rw [if_neg hok]
    exact noMe_wt0
end Go.Proofs.Ytndeklmkhfopgaa
