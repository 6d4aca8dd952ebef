/-
  The walk of the model's Release.
-/
import Derived.Test.YtndeklmkhfopgaaMeReI
import Derived.Test.YtndeklmkhfopgaaMeWrS
namespace Go.Proofs.Ytndeklmkhfopgaa
open Go.ChangeShapes Go.WideShapes Go.ChangeAt Go.RowKit Go.Deep

theorem taken_step {l : List Bk} {k : Nat} {y : Bk} {p s : Int} (h : taken (l.take k) p s) (hy : l[k]? = some y) (hn : ¬ (y.pos < p + s ∧ p < y.pos + y.size)) : taken (l.take (k + 1)) p s := by
  obtain ⟨hk, e⟩ := List.getElem?_eq_some_iff.1 hy
  rw [List.take_succ_eq_append_getElem hk, e]
  intro b hb
  rcases List.mem_append.1 hb with hb | hb
  · exact h b hb
  · rw [List.mem_singleton] at hb
    subst hb
    exact hn
set_option maxRecDepth 100000 in
set_option maxHeartbeats 2000000 in
theorem l10Free_any (x : Me) (hl : x.free.length ≤ 100000) (hx : ∀ y ∈ x.free, y.Sm) (p s : Int) (hp : 0 ≤ p ∧ p ≤ 100000) (hs : 0 ≤ s ∧ s ≤ 100000) (T : Bool) (hT : T = true ↔ ¬ taken x.free p s) (R : Option Addr) (c lo : Nat) (w : World) (h : Me.At w lo x R) :
    Calls Try.prog 84 #[.agg #[.string x.bytes, .slice R x.free.length c], .int .i64 p, .int .i64 s] w fun e w' => e = .returned (.bool T) ∧ Below w.heap.size w w' := by
  have H := Lib.hid h
  have HX := Lib.hid hx
  have HTT := Lib.hid hT
  have hw := IntWalk.i64_in (p + s) (by omega)
  clear h hx hT
  go_enter Try.func84, Try.ntmps84
  go_wp2_with fail
  go_loopw [7] (fun v wr => ∃ k : Nat, k ≤ x.free.length ∧ v = .int .i64 k ∧ Hid (taken (x.free.take k) p s) ∧ Hid (Below w.heap.size w wr) ∧ wr.cell? ⟨w.heap.size, 1, none⟩ = some (.slice R x.free.length c)) (fun v _ => x.free.length - (intOf v).toNat)
  case atStart => exact ⟨0, Nat.zero_le _, rfl, Lib.hid (by simp [taken]), Lib.hid (below1 _ _), by go_simp⟩
  case round =>
    obtain ⟨k, hk, rfl, HT, HB, k1⟩ := hrel
    by_cases hlt : k < x.free.length
    · obtain ⟨b1, o, y, rfl, _, hyk, hc⟩ := (Bks.below H.out HB.out).at_ hlt
      obtain ⟨c0, c1, _⟩ := hc
      have HY := Lib.hid hyk
      obtain ⟨⟨s0, s1⟩, s2, s3⟩ := HX.out y (List.mem_of_getElem? hyk)
      have hw1 : IntKind.i64.wrap (y.pos + y.size) = y.pos + y.size := IntWalk.i64_in _ (by omega)
      have hli : (k : Int) < (x.free.length : Int) := by omega
      have k1o := fun o => keepCell (below1 wr o) k1
      have bl := World.block_lt_of_cell? wr _ k1
      clear hyk
      by_cases h1 : y.pos < p + s
      · by_cases h2 : p < y.pos + y.size
        · have e1 : T = true := HTT.out.2 (fun h => h y (List.mem_of_getElem? HY.out) ⟨h1, h2⟩)
          have HE := Lib.hid e1
          clear e1
          go_wp2_with fail
          all_goals go_ret
          all_goals exact ⟨by rw [HE.out]; rfl, HB.out.trans (below1 _ _ |>.mono HB.out.size)⟩
        · go_wp2_with fail
          go_roundw
          case rel => exact ⟨k + 1, hlt, by go_num, Lib.hid (taken_step HT.out HY.out (fun h => h2 h.2)), Lib.hid (HB.out.trans (below1 _ _ |>.mono HB.out.size)), k1o _⟩
          case measure => simp [intOf]; omega
      · go_wp2_with fail
        go_roundw
        case rel => exact ⟨k + 1, hlt, by go_num, Lib.hid (taken_step HT.out HY.out (fun h => h1 h.1)), Lib.hid (HB.out.trans (below1 _ _ |>.mono HB.out.size)), k1o _⟩
        case measure => simp [intOf]; omega
    · have hk' : k = x.free.length := by omega
      have hli : ¬ (k : Int) < (x.free.length : Int) := by omega
      have e := HT.out
      rw [hk', List.take_length] at e
      have HE : Hid (T = false) := Lib.hid (by
        cases hh : T with
        | false => rfl
        | true => exact absurd e (HTT.out.1 hh))
      clear e hk'
      go_wp2_with fail
      go_ret
      exact ⟨by rw [HE.out]; rfl, HB.out⟩
set_option maxRecDepth 100000 in
set_option maxHeartbeats 2000000 in
theorem specRel_bad (x : Me) (hT : x.wt ≤ 1048576) (hfin : x.Fin) (R : Option Addr) (c : Nat) (p s : Int) (hno : memOk x = false) (lo : Nat) (w : World) (h : Me.At w lo x R) :
    Calls Try.prog 36 #[.agg #[.string x.bytes, .slice R x.free.length c], .int .i64 p, .int .i64 s] w (MeAns2 noMe 1 w) := by
  have CM := fun W (h : Me.At W lo x R) => specMemoryOk_any x hT hfin R c lo W h
  rw [hno] at CM
  have CM := Lib.hid CM
  have H := Lib.hid h
  clear h hno hfin hT
  go_enter Try.func36, Try.ntmps36
  go_wp2_with fail
  have F0 := Lib.hid (Fr.new w x R c)
  go_at_call 65
  refine (CM.out _ (Me.At.below H.out F0.out.hb)).mono ?_
  rintro e w1 ⟨rfl, hb1⟩
  have F1 := Lib.hid (F0.out.below hb1)
  have q0 := F1.out.q0
  have q1 := F1.out.q1
  have qf := F1.out.qf
  clear hb1
  go_wp2_with fail
  obtain ⟨s0, s1, s2⟩ := F1.out.ret (.string ⟨#[]⟩) (.slice none 0 0)
  refine bodyPost_ret (v := .tuple #[.agg #[.string ⟨#[]⟩, .slice none 0 0], .int .i64 1]) (by simp [results, Try.results36, go_sem, s0, s1]) rfl ?_
  exact ⟨none, 0, rfl, ownBk_nil _ _, s2⟩
set_option maxRecDepth 100000 in
set_option maxHeartbeats 2000000 in
theorem specRel_none (x : Me) (hT : x.wt ≤ 1048576) (hfin : x.Fin) (R : Option Addr) (c : Nat) (p s : Int) (hok : memOk x = true) (hs : s = 0) (lo : Nat) (w : World) (h : Me.At w lo x R) :
    Calls Try.prog 36 #[.agg #[.string x.bytes, .slice R x.free.length c], .int .i64 p, .int .i64 s] w (MeAns2 x 0 w) := by
  have CM := fun W (h : Me.At W lo x R) => specMemoryOk_any x hT hfin R c lo W h
  rw [hok] at CM
  have CM := Lib.hid CM
  have H := Lib.hid h
  have CC := Lib.hid (fun W (h : Me.At W lo x R) => l10Own_any x (by have := memOk_len hok; omega) R c lo W h)
  clear h hok hfin hT
  subst hs
  go_enter Try.func36, Try.ntmps36
  go_wp2_with fail
  have F0 := Lib.hid (Fr.new w x R c)
  go_at_call 65
  refine (CM.out _ (Me.At.below H.out F0.out.hb)).mono ?_
  rintro e w1 ⟨rfl, hb1⟩
  have F1 := Lib.hid (F0.out.below hb1)
  have k0 := F1.out.k0
  have k1 := F1.out.k1
  clear hb1
  go_wp2_with fail
  go_at_call 82
  refine (CC.out _ (Me.At.below H.out F1.out.hb)).mono ?_
  rintro e w2 ⟨R2, c2, rfl, ho2, hb2⟩
  have F2 := Lib.hid (F1.out.below hb2)
  have HO2 := Lib.hid ho2
  have HZ1 := Lib.hid F1.out.hz
  clear ho2 k0 k1
  have q0 := F2.out.q0
  have q1 := F2.out.q1
  have qf := F2.out.qf
  clear hb2
  go_wp2_with fail
  obtain ⟨s0, s1, s2⟩ := F2.out.ret (.string x.bytes) (.slice R2 x.free.length c2)
  refine bodyPost_ret (v := .tuple #[.agg #[.string x.bytes, .slice R2 x.free.length c2], .int .i64 0]) (by simp [results, Try.results36, go_sem, s0, s1]) rfl ?_
  exact ⟨R2, c2, rfl, HO2.out.ret HZ1.out _ _, s2⟩
set_option maxRecDepth 100000 in
set_option maxHeartbeats 2000000 in
theorem specRel_low (x : Me) (hT : x.wt ≤ 1048576) (hfin : x.Fin) (R : Option Addr) (c : Nat) (p s : Int) (hok : memOk x = true) (hs : s ≠ 0) (hp8 : p < 8) (lo : Nat) (w : World) (h : Me.At w lo x R) :
    Calls Try.prog 36 #[.agg #[.string x.bytes, .slice R x.free.length c], .int .i64 p, .int .i64 s] w (MeAns2 noMe 10 w) := by
  have CM := fun W (h : Me.At W lo x R) => specMemoryOk_any x hT hfin R c lo W h
  rw [hok] at CM
  have CM := Lib.hid CM
  have H := Lib.hid h
  clear h hok hfin hT
  go_enter Try.func36, Try.ntmps36
  go_wp2_with fail
  have F0 := Lib.hid (Fr.new w x R c)
  go_at_call 65
  refine (CM.out _ (Me.At.below H.out F0.out.hb)).mono ?_
  rintro e w1 ⟨rfl, hb1⟩
  have F1 := Lib.hid (F0.out.below hb1)
  have q0 := F1.out.q0
  have q1 := F1.out.q1
  clear hb1
  have qf := F1.out.qf
  go_wp2_with fail
  obtain ⟨s0, s1, s2⟩ := F1.out.ret (.string ⟨#[]⟩) (.slice none 0 0)
  refine bodyPost_ret (v := .tuple #[.agg #[.string ⟨#[]⟩, .slice none 0 0], .int .i64 10]) (by simp [results, Try.results36, go_sem, s0, s1]) rfl ?_
  exact ⟨none, 0, rfl, ownBk_nil _ _, s2⟩
set_option maxRecDepth 100000 in
set_option maxHeartbeats 2000000 in
theorem specRel_out (x : Me) (hT : x.wt ≤ 1048576) (hfin : x.Fin) (R : Option Addr) (c : Nat) (p s : Int) (hok : memOk x = true) (hs : s ≠ 0) (hp8 : ¬ p < 8) (hin : ¬ (0 ≤ p ∧ 0 ≤ s ∧ s ≤ (x.bytes.size : Int) - p)) (lo : Nat) (w : World) (h : Me.At w lo x R) :
    Calls Try.prog 36 #[.agg #[.string x.bytes, .slice R x.free.length c], .int .i64 p, .int .i64 s] w (MeAns2 noMe 10 w) := by
  have CM := fun W (h : Me.At W lo x R) => specMemoryOk_any x hT hfin R c lo W h
  rw [hok] at CM
  have CM := Lib.hid CM
  have H := Lib.hid h
  have CI := fun W => l10In_any7 x.bytes (Me.parts_le hT).1 R x.free.length c p s W
  rw [decide_eq_false hin] at CI
  have CI := Lib.hid CI
  clear h hok hfin hT hin
  go_enter Try.func36, Try.ntmps36
  go_wp2_with fail
  have F0 := Lib.hid (Fr.new w x R c)
  go_at_call 65
  refine (CM.out _ (Me.At.below H.out F0.out.hb)).mono ?_
  rintro e w1 ⟨rfl, hb1⟩
  have F1 := Lib.hid (F0.out.below hb1)
  have k0 := F1.out.k0
  have k1 := F1.out.k1
  clear hb1
  go_wp2_with fail
  go_at_call 83
  refine (CI.out _).mono ?_
  rintro e w2 ⟨rfl, hb2⟩
  have F2 := Lib.hid (F1.out.below hb2)
  clear k0 k1
  have q0 := F2.out.q0
  have q1 := F2.out.q1
  have qf := F2.out.qf
  clear hb2
  go_wp2_with fail
  obtain ⟨s0, s1, s2⟩ := F2.out.ret (.string ⟨#[]⟩) (.slice none 0 0)
  refine bodyPost_ret (v := .tuple #[.agg #[.string ⟨#[]⟩, .slice none 0 0], .int .i64 10]) (by simp [results, Try.results36, go_sem, s0, s1]) rfl ?_
  exact ⟨none, 0, rfl, ownBk_nil _ _, s2⟩
set_option maxRecDepth 100000 in
set_option maxHeartbeats 2000000 in
theorem specRel_taken (x : Me) (hT : x.wt ≤ 1048576) (hfin : x.Fin) (R : Option Addr) (c : Nat) (p s : Int) (hok : memOk x = true) (hs : s ≠ 0) (hp8 : ¬ p < 8) (hin : 0 ≤ p ∧ 0 ≤ s ∧ s ≤ (x.bytes.size : Int) - p) (ht : ¬ taken x.free p s) (lo : Nat) (w : World) (h : Me.At w lo x R) :
    Calls Try.prog 36 #[.agg #[.string x.bytes, .slice R x.free.length c], .int .i64 p, .int .i64 s] w (MeAns2 noMe 10 w) := by
  have CM := fun W (h : Me.At W lo x R) => specMemoryOk_any x hT hfin R c lo W h
  rw [hok] at CM
  have CM := Lib.hid CM
  have H := Lib.hid h
  have CI := fun W => l10In_any7 x.bytes (Me.parts_le hT).1 R x.free.length c p s W
  rw [decide_eq_true hin] at CI
  have CI := Lib.hid CI
  have hsm := ok_sm hok
  have hbb := (memOk_iff.1 hok).1
  have CF := fun W (h : Me.At W lo x R) => l10Free_any x (by have := memOk_len hok; omega) (fun y hy => (hsm y hy).1) p s (by omega) (by omega) true (by simp [ht]) R c lo W h
  have CF := Lib.hid CF
  clear h hok hfin hT hin ht hsm hbb
  go_enter Try.func36, Try.ntmps36
  go_wp2_with fail
  have F0 := Lib.hid (Fr.new w x R c)
  go_at_call 65
  refine (CM.out _ (Me.At.below H.out F0.out.hb)).mono ?_
  rintro e w1 ⟨rfl, hb1⟩
  have F1 := Lib.hid (F0.out.below hb1)
  have k0 := F1.out.k0
  have k1 := F1.out.k1
  clear hb1
  go_wp2_with fail
  go_at_call 83
  refine (CI.out _).mono ?_
  rintro e w2 ⟨rfl, hb2⟩
  have F2 := Lib.hid (F1.out.below hb2)
  clear k0 k1
  have k0 := F2.out.k0
  have k1 := F2.out.k1
  clear hb2
  go_wp2_with fail
  go_at_call 84
  refine (CF.out _ (Me.At.below H.out F2.out.hb)).mono ?_
  rintro e w3 ⟨rfl, hb3⟩
  have F3 := Lib.hid (F2.out.below hb3)
  clear k0 k1
  have q0 := F3.out.q0
  have q1 := F3.out.q1
  have qf := F3.out.qf
  clear hb3
  go_wp2_with fail
  obtain ⟨s0, s1, s2⟩ := F3.out.ret (.string ⟨#[]⟩) (.slice none 0 0)
  refine bodyPost_ret (v := .tuple #[.agg #[.string ⟨#[]⟩, .slice none 0 0], .int .i64 10]) (by simp [results, Try.results36, go_sem, s0, s1]) rfl ?_
  exact ⟨none, 0, rfl, ownBk_nil _ _, s2⟩
set_option maxRecDepth 100000 in
set_option maxHeartbeats 2000000 in
theorem specRel_yes (x : Me) (hT : x.wt ≤ 1048576) (hfin : x.Fin) (R : Option Addr) (c : Nat) (p s : Int) (hok : memOk x = true) (hs : s ≠ 0) (hp8 : ¬ p < 8) (hin : 0 ≤ p ∧ 0 ≤ s ∧ s ≤ (x.bytes.size : Int) - p) (ht : taken x.free p s) (hcap : x.free.length ≤ c) (lo : Nat) (w : World) (h : Me.At w lo x R) :
    Calls Try.prog 36 #[.agg #[.string x.bytes, .slice R x.free.length c], .int .i64 p, .int .i64 s] w (MeAns2 ⟨x.bytes, giveL ⟨p, s⟩ x.free⟩ 0 w) := by
  have CM := fun W (h : Me.At W lo x R) => specMemoryOk_any x hT hfin R c lo W h
  rw [hok] at CM
  have CM := Lib.hid CM
  have H := Lib.hid h
  have CI := fun W => l10In_any7 x.bytes (Me.parts_le hT).1 R x.free.length c p s W
  rw [decide_eq_true hin] at CI
  have CI := Lib.hid CI
  have hsm := ok_sm hok
  have hbb := (memOk_iff.1 hok).1
  have CF := fun W (h : Me.At W lo x R) => l10Free_any x (by have := memOk_len hok; omega) (fun y hy => (hsm y hy).1) p s (by omega) (by omega) false (by simp [ht]) R c lo W h
  have CF := Lib.hid CF
  have CG := Lib.hid (fun W (h : Me.At W lo x R) => l10Give_any ⟨p, s⟩ (by unfold Bk.Sm; simp only; omega) x.free (by have := memOk_len hok; omega) (fun y hy => (hsm y hy).1) R c lo hcap W h)
  obtain ⟨G, hG⟩ : ∃ G, giveL ⟨p, s⟩ x.free = G := ⟨_, rfl⟩
  have CG := CG.out
  rw [hG] at CG ⊢
  have CG := Lib.hid CG
  clear h hok hfin hT hin ht hsm hbb hcap hG
  go_enter Try.func36, Try.ntmps36
  go_wp2_with fail
  have F0 := Lib.hid (Fr.new w x R c)
  go_at_call 65
  refine (CM.out _ (Me.At.below H.out F0.out.hb)).mono ?_
  rintro e w1 ⟨rfl, hb1⟩
  have F1 := Lib.hid (F0.out.below hb1)
  have k0 := F1.out.k0
  have k1 := F1.out.k1
  clear hb1
  go_wp2_with fail
  go_at_call 83
  refine (CI.out _).mono ?_
  rintro e w2 ⟨rfl, hb2⟩
  have F2 := Lib.hid (F1.out.below hb2)
  clear k0 k1
  have k0 := F2.out.k0
  have k1 := F2.out.k1
  clear hb2
  go_wp2_with fail
  go_at_call 84
  refine (CF.out _ (Me.At.below H.out F2.out.hb)).mono ?_
  rintro e w3 ⟨rfl, hb3⟩
  have F3 := Lib.hid (F2.out.below hb3)
  clear k0 k1
  have k0 := F3.out.k0
  have k1 := F3.out.k1
  have q0 := F3.out.q0
  have q1 := F3.out.q1
  have qf := F3.out.qf
  clear hb3
  have HA3 := Lib.hid (Me.At.below H.out F3.out.hb)
  have HZ3 := Lib.hid F3.out.hz
  go_wp2_with fail
  go_region_held3 (fun w' => w'.cell? ⟨w.heap.size, 0, none⟩ = some (.string x.bytes) ∧ w'.cell? ⟨w.heap.size, 1, none⟩ = some (.slice R x.free.length c))
    (first | assumption | (exact ⟨k0, k1⟩) | (exact ⟨p0, p1⟩) | (exact ⟨(World.cell?_setCell_far _ _ _ _ (by simp)).trans ((World.cell?_setCell_far _ _ _ _ (by simp)).trans p0), (World.cell?_setCell_far _ _ _ _ (by simp)).trans ((World.cell?_setCell_far _ _ _ _ (by simp)).trans p1)⟩) | (exact (World.cell?_setCell_far _ _ _ _ (by simp)).trans ((World.cell?_setCell_far _ _ _ _ (by simp)).trans p0)) | (exact (World.cell?_setCell_far _ _ _ _ (by simp)).trans ((World.cell?_setCell_far _ _ _ _ (by simp)).trans p1)) | fail)
    (first | (go_at_call 85; refine (CG.out _ (Me.At.below HA3.out ((Below.refl _ w3).drew))).mono ?_; rintro e w4 ⟨R4, c4, rfl, ho4, hb4⟩; have hbw : Below w3.heap.size w3 w4 := (Below.refl w3.heap.size w3).drew.trans hb4; have F4 := Lib.hid (F3.out.below hbw); have p0 := F4.out.k0; have p1 := F4.out.k1; have r0 := F4.out.q0; have r1 := F4.out.q1; have rf := F4.out.qf; have HO4 := Lib.hid ho4))
  go_wp2_with fail
  obtain ⟨s0, s1, s2⟩ := F4.out.ret (.string x.bytes) (.slice R4 G.length c4)
  refine bodyPost_ret (v := .tuple #[.agg #[.string x.bytes, .slice R4 G.length c4], .int .i64 0]) (by simp [results, Try.results36, go_sem, s0, s1]) rfl ?_
  exact ⟨R4, c4, rfl, (HO4.out.ret HZ3.out _ _), s2⟩
theorem specRelease_any (x : Me) (hT : x.wt ≤ 1048576) (hfin : x.Fin) (R : Option Addr) (c : Nat) (hcap : x.free.length ≤ c) (p s : Int) (lo : Nat) (w : World) (h : Me.At w lo x R) :
    Calls Try.prog 36 #[.agg #[.string x.bytes, .slice R x.free.length c], .int .i64 p, .int .i64 s] w (MeAns2 (memRelease x p s).1 (memRelease x p s).2 w) := by
  unfold memRelease
  by_cases hok : memOk x = true
  · rw [if_pos hok]
    by_cases hs : s = 0
    · rw [if_pos hs]
      exact specRel_none x hT hfin R c p s hok hs lo w h
    · rw [if_neg hs]
      by_cases hr : relOk x p s
      · rw [if_pos hr]
        exact specRel_yes x hT hfin R c p s hok hs (by have := hr.1; omega) hr.2.1 hr.2.2 hcap lo w h
      · rw [if_neg hr]
        by_cases hp8 : p < 8
        · exact specRel_low x hT hfin R c p s hok hs hp8 lo w h
        · by_cases hin : 0 ≤ p ∧ 0 ≤ s ∧ s ≤ (x.bytes.size : Int) - p
          · exact specRel_taken x hT hfin R c p s hok hs hp8 hin (fun ht => hr ⟨by omega, hin, ht⟩) lo w h
          · exact specRel_out x hT hfin R c p s hok hs hp8 hin lo w h
  · rw [if_neg hok]
    exact specRel_bad x hT hfin R c p s (by simpa using hok) lo w h
theorem pureRelease_len (x : Me) (hT : x.wt ≤ 1048576) (_hfin : x.Fin) (p s : Int) : (memRelease x p s).1.wt ≤ 1048576 ∧ (memRelease x p s).1.free.length ≤ 262144 := by
  unfold memRelease
  by_cases hok : memOk x = true
  · rw [if_pos hok]
    have h1 := memOk_len hok
    have h2 := (memOk_iff.1 hok).1
    by_cases hs : s = 0
    · rw [if_pos hs]
      exact ⟨hT, by show x.free.length ≤ 262144; omega⟩
    · rw [if_neg hs]
      by_cases hr : relOk x p s
      · rw [if_pos hr]
        have h3 := giveL_len ⟨p, s⟩ x.free
        refine ⟨?_, by show (giveL ⟨p, s⟩ x.free).length ≤ 262144; omega⟩
        show (x.bytes.size : Int) + (((giveL ⟨p, s⟩ x.free).length : Int) + Bk.wts (giveL ⟨p, s⟩ x.free)) ≤ 1048576
        rw [Bk.wts_zero]
        omega
      · rw [if_neg hr]
        exact noMe_wt0
  · rw [if_neg hok]
    exact noMe_wt0
end Go.Proofs.Ytndeklmkhfopgaa
