/-
  The walk of the model's WriteMem.
-/
import Derived.Test.YtndeklmkhfopgaaMeWrI
import Derived.IntWalk
namespace Go.Proofs.Ytndeklmkhfopgaa
open Go.ChangeShapes Go.WideShapes Go.ChangeAt Go.RowKit Go.Deep

/-- A string cut at its head, at its end. -/
theorem cutHead7 (s : ByteArray) (p : Nat) (h : p ≤ s.size) (W : World) : (Instr.slice 9 (.string s) none (some (.int .i64 (p : Int))) none).run Try.prog W = .ok (.string (s.extract 0 p)) W := by
  simp [Instr.slice, run_underlying Try.underlying9, Instr.sliceBounds, run_sliceBound, show (p : Int) ≤ (s.size : Int) by omega]
theorem cutEnd7 (s : ByteArray) (p n : Nat) (h : p + n ≤ s.size) (W : World) : (Instr.slice 9 (.string s) (some (.int .i64 ((p : Int) + (n : Int)))) none none).run Try.prog W = .ok (.string (s.extract (p + n) s.size)) W := by
  simp [Instr.slice, run_underlying Try.underlying9, Instr.sliceBounds, run_sliceBound, show (p : Int) + (n : Int) ≤ (s.size : Int) by omega, show (0 : Int) ≤ (p : Int) + (n : Int) by omega]
  rw [show ((p : Int) + (n : Int)).toNat = p + n by omega]
theorem l10In_any7 (s : ByteArray) (hs : (s.size : Int) ≤ 1048576) (R : Option Addr) (l c : Nat) (p n : Int) (w : World) :
    Calls Try.prog 83 #[.agg #[.string s, .slice R l c], .int .i64 p, .int .i64 n] w fun e w' => e = .returned (.bool (decide (0 ≤ p ∧ 0 ≤ n ∧ n ≤ (s.size : Int) - p))) ∧ Below w.heap.size w w' := by
  by_cases h : 0 ≤ p ∧ 0 ≤ n ∧ n ≤ (s.size : Int) - p
  · rw [decide_eq_true h]
    obtain ⟨h1, h2, h3⟩ := h
    go_enter Try.func83, Try.ntmps83
    go_wp2_with fail
    all_goals go_ret
    all_goals exact ⟨by first | rfl | exact ret_bool (decide_eq_true (by omega)), below1 _ _⟩
  · rw [decide_eq_false h]
    go_enter Try.func83, Try.ntmps83
    go_wp2_with fail
    all_goals go_ret
    all_goals exact ⟨by first | rfl | exact ret_bool (decide_eq_false (by omega)), below1 _ _⟩
set_option maxRecDepth 100000 in
set_option maxHeartbeats 1000000 in
theorem l10Write_out (x : Me) (hT : x.wt ≤ 1048576) (R : Option Addr) (c : Nat) (p : Int) (t : ByteArray) (hno : ¬ (0 ≤ p ∧ 0 ≤ (t.size : Int) ∧ (t.size : Int) ≤ (x.bytes.size : Int) - p)) (w : World) :
    Calls Try.prog 66 #[.agg #[.string x.bytes, .slice R x.free.length c], .int .i64 p, .string t] w (MeAns2 noMe 10 w) := by
  have CI := fun W => l10In_any7 x.bytes (Me.parts_le hT).1 R x.free.length c p t.size W
  rw [decide_eq_false hno] at CI
  have CI := Lib.hid CI
  clear hno hT
  go_enter Try.func66, Try.ntmps66
  go_wp2_with fail
  have F0 := Lib.hid (Fr.new w x R c)
  go_at_call 83
  refine (CI.out _).mono ?_
  rintro e w2 ⟨rfl, hb2⟩
  have F2 := Lib.hid (F0.out.below hb2)
  have q0 := F2.out.q0
  have q1 := F2.out.q1
  have qf := F2.out.qf
  clear hb2
  go_wp2_with fail
  obtain ⟨s0, s1, s2⟩ := F2.out.ret (.string ⟨#[]⟩) (.slice none 0 0)
  refine bodyPost_ret (v := .tuple #[.agg #[.string ⟨#[]⟩, .slice none 0 0], .int .i64 10]) (by simp [results, Try.results66, go_sem, s0, s1]) rfl ?_
  exact ⟨none, 0, rfl, ownBk_nil _ _, s2⟩
set_option maxRecDepth 100000 in
set_option maxHeartbeats 1000000 in
theorem l10Write_yes (x : Me) (hT : x.wt ≤ 1048576) (hl : x.free.length ≤ 4096) (R : Option Addr) (c : Nat) (p : Nat) (t : ByteArray) (ht : t.size ≤ 1048576) (hin : p + t.size ≤ x.bytes.size) (lo : Nat) (w : World) (h : Me.At w lo x R) :
    Calls Try.prog 66 #[.agg #[.string x.bytes, .slice R x.free.length c], .int .i64 p, .string t] w (MeAns2 ⟨putOver x.bytes p t, x.free⟩ 0 w) := by
  have hbs := (Me.parts_le hT).1
  have CI := fun W => l10In_any7 x.bytes hbs R x.free.length c p t.size W
  rw [decide_eq_true (show 0 ≤ (p : Int) ∧ 0 ≤ (t.size : Int) ∧ (t.size : Int) ≤ (x.bytes.size : Int) - p by omega)] at CI
  have CI := Lib.hid CI
  have CC := Lib.hid (fun W (h : Me.At W lo x R) => l10Own_any x (by omega) R c lo W h)
  have H := Lib.hid h
  have h1 : (p : Int) + (t.size : Int) ≤ (x.bytes.size : Int) := by omega
  have h2 : (p : Int) ≤ (x.bytes.size : Int) := by omega
  clear h hT
  go_enter Try.func66, Try.ntmps66
  go_wp2_with fail
  have F0 := Lib.hid (Fr.new w x R c)
  go_at_call 83
  refine (CI.out _).mono ?_
  rintro e w2 ⟨rfl, hb2⟩
  have F2 := Lib.hid (F0.out.below hb2)
  have k0 := F2.out.k0
  have k1 := F2.out.k1
  clear hb2
  go_wp2_with fail
  go_at_call 82
  refine (CC.out _ (Me.At.below H.out F2.out.hb)).mono ?_
  rintro e w5 ⟨R5, c5, rfl, ho5, hb5⟩
  have F5 := Lib.hid (F2.out.below hb5)
  have HO5 := Lib.hid ho5
  have HZ2 := Lib.hid F2.out.hz
  replace k0 := F5.out.k0
  clear k1 ho5 hb5
  have qf5 := F5.out.qf
  have qf6 := fun o j => ((below1 w5 o).frozen (p := ⟨w.heap.size + 1, j, none⟩) (by have := F5.out.hz; dsimp only; omega)).trans (qf5 j)
  have q05 := fun o => keepCell (below1 w5 o) F5.out.q0
  have q15 := fun o => keepCell (below1 w5 o) F5.out.q1
  have hzne : w.heap.size + 1 ≠ w5.heap.size := by have := F5.out.hz; omega
  obtain ⟨a, ha⟩ : ∃ a, x.bytes.extract 0 p = a := ⟨_, rfl⟩
  obtain ⟨b, hb⟩ : ∃ b, x.bytes.extract (p + t.size) x.bytes.size = b := ⟨_, rfl⟩
  have hs1 := fun W => cutHead7 x.bytes p (by omega) W
  have hs2 := fun W => cutEnd7 x.bytes p t.size hin W
  rw [ha] at hs1
  rw [hb] at hs2
  have hz1 : a.size = p := by rw [← ha, ByteArray.size_extract]; omega
  have hz2 : b.size = x.bytes.size - (p + t.size) := by rw [← hb, ByteArray.size_extract]; omega
  have hm1 : ¬ 9223372036854775807 < a.size + t.size := by omega
  have hm2 : ¬ 9223372036854775807 < a.size + t.size + b.size := by omega
  have hw : IntKind.i64.wrap ((p : Int) + (t.size : Int)) = (p : Int) + (t.size : Int) := IntWalk.i64_in _ (by omega)
  have HP : Hid (putOver x.bytes p t = a ++ t ++ b) := Lib.hid (by rw [← ha, ← hb]; rfl)
  have k06 := fun o => keepCell (below1 w5 o) k0
  clear ha hb hz1 hz2 hin
  go_wp2_with fail
  go_region_held3 (fun w' => w'.cell? ⟨w.heap.size, 0, none⟩ = some (.string x.bytes))
    (first | (with_reducible assumption) | (exact k06 _) | fail)
    (fail)
  go_wp2_with fail
  obtain ⟨s0, s1, s2⟩ := (F5.out.below (below1 w5 (.cells #[.string (a ++ t ++ b), .slice R5 x.free.length c5] 50))).ret (.string (a ++ t ++ b)) (.slice R5 x.free.length c5)
  refine bodyPost_ret (v := .tuple #[.agg #[.string (a ++ t ++ b), .slice R5 x.free.length c5], .int .i64 0]) (by simp [results, Try.results66, go_sem, s0, s1]) rfl ?_
  exact ⟨R5, c5, by rw [HP.out], ((HO5.out.keep (below1 _ _)).ret HZ2.out _ _).keep (Below.refl _ _).drew, s2.drew⟩
theorem l10Write_any (x : Me) (hT : x.wt ≤ 1048576) (hok : memOk x = true) (R : Option Addr) (c : Nat) (p : Int) (t : ByteArray) (ht : t.size ≤ 1048576) (lo : Nat) (w : World) (h : Me.At w lo x R) :
    Calls Try.prog 66 #[.agg #[.string x.bytes, .slice R x.free.length c], .int .i64 p, .string t] w (MeAns2 (memWrite x p t).1 (memWrite x p t).2 w) := by
  unfold memWrite
  rw [if_pos hok]
  by_cases hi : 0 ≤ p ∧ 0 ≤ (t.size : Int) ∧ (t.size : Int) ≤ (x.bytes.size : Int) - p
  · rw [if_pos hi]
    obtain ⟨q, rfl⟩ := Int.eq_ofNat_of_zero_le hi.1
    exact l10Write_yes x hT (memOk_len hok) R c q t ht (by omega) lo w h
  · rw [if_neg hi]
    exact l10Write_out x hT R c p t hi w
theorem noMe_wt0 : noMe.wt ≤ 1048576 ∧ noMe.free.length ≤ 262144 := by
  simp [noMe, Me.wt, Bk.wts, ByteArray.size]
theorem pureWriteMem_len (x : Me) (hT : x.wt ≤ 1048576) (_hfin : x.Fin) (p : Int) (t : ByteArray) : (memWrite x p t).1.wt ≤ 1048576 ∧ (memWrite x p t).1.free.length ≤ 262144 := by
  unfold memWrite
  by_cases hok : memOk x = true
  · rw [if_pos hok]
    have h1 := memOk_len hok
    by_cases hi : 0 ≤ p ∧ 0 ≤ (t.size : Int) ∧ (t.size : Int) ≤ (x.bytes.size : Int) - p
    · rw [if_pos hi]
      unfold Me.wt at hT ⊢
      simp only
      rw [putOver_size (by omega)]
      exact ⟨hT, by omega⟩
    · rw [if_neg hi]
      exact noMe_wt0
  · rw [if_neg hok]
    exact noMe_wt0
set_option maxRecDepth 100000 in
set_option maxHeartbeats 1000000 in
theorem specWriteMem_any (x : Me) (hT : x.wt ≤ 1048576) (hfin : x.Fin) (R : Option Addr) (c : Nat) (p : Int) (t : ByteArray) (ht : t.size ≤ 1048576) (lo : Nat) (w : World) (h : Me.At w lo x R) :
    Calls Try.prog 28 #[.agg #[.string x.bytes, .slice R x.free.length c], .int .i64 p, .string t] w (MeAns2 (memWrite x p t).1 (memWrite x p t).2 w) := by
  have CM := fun W (h : Me.At W lo x R) => specMemoryOk_any x hT hfin R c lo W h
  have H := Lib.hid h
  by_cases hok : memOk x = true
  · rw [hok] at CM
    have CM := Lib.hid CM
    have CR := Lib.hid (fun W (h : Me.At W lo x R) => l10Write_any x hT hok R c p t ht lo W h)
    generalize (memWrite x p t).1 = r at *
    generalize (memWrite x p t).2 = k at *
    clear h hok hfin hT
    go_enter Try.func28, Try.ntmps28
    go_wp2_with fail
    have F0 := Lib.hid (Fr.new w x R c)
    go_at_call 65
    refine (CM.out _ (Me.At.below H.out F0.out.hb)).mono ?_
    rintro e w1 ⟨rfl, hb1⟩
    have F1 := Lib.hid (F0.out.below hb1)
    have k0 := F1.out.k0
    have k1 := F1.out.k1
    clear hb1
    go_wp2_with fail
    go_at_call 66
    refine (CR.out _ (Me.At.below H.out F1.out.hb)).mono ?_
    rintro e w2 ⟨R2, c2, rfl, ho2, hb2⟩
    have F2 := Lib.hid (F1.out.below hb2.1)
    have HO2 := Lib.hid ho2
    have HZ1 := Lib.hid F1.out.hz
    have q0 := F2.out.q0
    have q1 := F2.out.q1
    have qf := F2.out.qf
    clear hb2 ho2 k0 k1
    go_wp2_with fail
    obtain ⟨s0, s1, s2⟩ := F2.out.ret (.string r.bytes) (.slice R2 r.free.length c2)
    refine bodyPost_ret (v := .tuple #[.agg #[.string r.bytes, .slice R2 r.free.length c2], .int .i64 k]) (by simp [results, Try.results28, go_sem, s0, s1]) rfl ?_
    exact ⟨R2, c2, rfl, HO2.out.ret HZ1.out _ _, s2⟩
  · have e1 : memWrite x p t = (noMe, 1) := by unfold memWrite; rw [if_neg hok]
    rw [e1]
    rw [Bool.not_eq_true] at hok
    rw [hok] at CM
    have CM := Lib.hid CM
    clear h hok hfin hT e1
    go_enter Try.func28, Try.ntmps28
    go_wp2_with fail
    have F0 := Lib.hid (Fr.new w x R c)
    go_at_call 65
    refine (CM.out _ (Me.At.below H.out F0.out.hb)).mono ?_
    rintro e w1 ⟨rfl, hb1⟩
    have F1 := Lib.hid (F0.out.below hb1)
    have q0 := F1.out.q0
    have q1 := F1.out.q1
    have qf := F1.out.qf
    clear hb1
    go_wp2_with fail
    obtain ⟨s0, s1, s2⟩ := F1.out.ret (.string ⟨#[]⟩) (.slice none 0 0)
    refine bodyPost_ret (v := .tuple #[.agg #[.string ⟨#[]⟩, .slice none 0 0], .int .i64 1]) (by simp [results, Try.results28, go_sem, s0, s1]) rfl ?_
    exact ⟨none, 0, rfl, ownBk_nil _ _, s2⟩
end Go.Proofs.Ytndeklmkhfopgaa
