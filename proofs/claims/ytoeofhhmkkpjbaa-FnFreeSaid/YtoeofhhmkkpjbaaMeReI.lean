/-
  The walk of the program's Release.
-/
import Derived.Test.YtoeofhhmkkpjbaaMeReP
import Derived.Test.YtoeofhhmkkpjbaaChainW
import Derived.Test.YtoeofhhmkkpjbaaMeCpI
import Derived.Test.YtoeofhhmkkpjbaaMeFr
namespace Go.Proofs.Ytoeofhhmkkpjbaa
open Go.ChangeShapes Go.WideShapes Go.ChangeAt Go.RowKit Go.Deep

theorem mem_sm {tl xs ys : Pls} {g0 g : Nat} {b : Bk} {F : List Bk} (e : (g0, Bk.mk 0 0) :: tl = xs ++ (g, b) :: ys) (hF : tl.map Prod.snd = F) (hs : ∀ y ∈ F, y.Sm ∧ y.size ≤ 100000 ∧ 1 ≤ y.size ∧ 8 ≤ y.pos) : (b.Sm ∧ b.size ≤ 100000) ∧ ∀ y ∈ ys, y.2.Sm ∧ y.2.size ≤ 100000 := by
  have hall : ∀ q ∈ (g0, Bk.mk 0 0) :: tl, q.2.Sm ∧ q.2.size ≤ 100000 := fun q hq => by
    rcases List.mem_cons.1 hq with rfl | hq
    · unfold Bk.Sm
      simp
    · have := hs q.2 (by rw [← hF]; exact List.mem_map.2 ⟨q, hq, rfl⟩)
      exact ⟨this.1, this.2.1⟩
  rw [e] at hall
  exact ⟨hall (g, b) (by simp), fun y hy => hall y (by simp [hy])⟩
set_option maxRecDepth 100000 in
set_option maxHeartbeats 2000000 in
theorem implRel_bad (x : Me) (hT : x.wt ≤ 1048576) (hfin : x.Fin) (R : Option Addr) (c : Nat) (p s : Int) (hno : memOk x = false) (lo : Nat) (w : World) (h : Me.At w lo x R) :
    Calls Try.prog 14 #[.agg #[.string x.bytes, .slice R x.free.length c], .int .i64 p, .int .i64 s] w (MeAns2 noMe 1 w) := by
  have CM := fun W (h : Me.At W lo x R) => implMemoryOk_any x hT hfin R c lo W h
  rw [hno] at CM
  have CM := Lib.hid CM
  have H := Lib.hid h
  clear h hno hfin hT
  go_enter Try.func14, Try.ntmps14
  go_wp2_with fail
  have F0 := Lib.hid (Fr.new w x R c)
  go_at_call 34
  refine (CM.out _ (Me.At.below H.out F0.out.hb)).mono ?_
  rintro e w1 ⟨rfl, hb1⟩
  have F1 := Lib.hid (F0.out.below hb1)
  have q0 := F1.out.q0
  have q1 := F1.out.q1
  have qf := F1.out.qf
  clear hb1
  go_wp2_with fail
  obtain ⟨s0, s1, s2⟩ := F1.out.ret (.string ⟨#[]⟩) (.slice none 0 0)
  refine bodyPost_ret (v := .tuple #[.agg #[.string ⟨#[]⟩, .slice none 0 0], .int .i64 1]) (by simp [results, Try.results14, go_sem, s0, s1]) rfl ?_
  exact ⟨none, 0, rfl, ownBk_nil _ _, s2⟩
set_option maxRecDepth 100000 in
set_option maxHeartbeats 2000000 in
theorem implRel_none (x : Me) (hT : x.wt ≤ 1048576) (hfin : x.Fin) (R : Option Addr) (c : Nat) (p s : Int) (hok : memOk x = true) (hs : s = 0) (lo : Nat) (w : World) (h : Me.At w lo x R) :
    Calls Try.prog 14 #[.agg #[.string x.bytes, .slice R x.free.length c], .int .i64 p, .int .i64 s] w (MeAns2 x 0 w) := by
  have CM := fun W (h : Me.At W lo x R) => implMemoryOk_any x hT hfin R c lo W h
  rw [hok] at CM
  have CM := Lib.hid CM
  have H := Lib.hid h
  have CC := Lib.hid (fun W (h : Me.At W lo x R) => copyMemory_any x (by have := memOk_len hok; omega) R c lo W h)
  clear h hok hfin hT
  subst hs
  go_enter Try.func14, Try.ntmps14
  go_wp2_with fail
  have F0 := Lib.hid (Fr.new w x R c)
  go_at_call 34
  refine (CM.out _ (Me.At.below H.out F0.out.hb)).mono ?_
  rintro e w1 ⟨rfl, hb1⟩
  have F1 := Lib.hid (F0.out.below hb1)
  have k0 := F1.out.k0
  have k1 := F1.out.k1
  clear hb1
  go_wp2_with fail
  go_at_call 35
  refine (CC.out _ (Me.At.below H.out F1.out.hb)).mono ?_
  rintro e w2 ⟨R2, c2, rfl, ho2, hb2⟩
  have F2 := Lib.hid (F1.out.below hb2)
  have HO2 := Lib.hid ho2
  have HZ1 := Lib.hid F1.out.hz
  clear ho2 k0 k1
  have q0 := F2.out.q0
  have q1 := F2.out.q1
  have qf := F2.out.qf
  clear hb2
  go_wp2_with fail
  obtain ⟨s0, s1, s2⟩ := F2.out.ret (.string x.bytes) (.slice R2 x.free.length c2)
  refine bodyPost_ret (v := .tuple #[.agg #[.string x.bytes, .slice R2 x.free.length c2], .int .i64 0]) (by simp [results, Try.results14, go_sem, s0, s1]) rfl ?_
  exact ⟨R2, c2, rfl, HO2.out.ret HZ1.out _ _, s2⟩
set_option maxRecDepth 100000 in
set_option maxHeartbeats 2000000 in
theorem implRel_low (x : Me) (hT : x.wt ≤ 1048576) (hfin : x.Fin) (R : Option Addr) (c : Nat) (p s : Int) (hok : memOk x = true) (hs : s ≠ 0) (hp8 : p < 8) (lo : Nat) (w : World) (h : Me.At w lo x R) :
    Calls Try.prog 14 #[.agg #[.string x.bytes, .slice R x.free.length c], .int .i64 p, .int .i64 s] w (MeAns2 noMe 10 w) := by
  have CM := fun W (h : Me.At W lo x R) => implMemoryOk_any x hT hfin R c lo W h
  rw [hok] at CM
  have CM := Lib.hid CM
  have H := Lib.hid h
  clear h hok hfin hT
  go_enter Try.func14, Try.ntmps14
  go_wp2_with fail
  have F0 := Lib.hid (Fr.new w x R c)
  go_at_call 34
  refine (CM.out _ (Me.At.below H.out F0.out.hb)).mono ?_
  rintro e w1 ⟨rfl, hb1⟩
  have F1 := Lib.hid (F0.out.below hb1)
  have q0 := F1.out.q0
  have q1 := F1.out.q1
  clear hb1
  have qf := F1.out.qf
  go_wp2_with fail
  obtain ⟨s0, s1, s2⟩ := F1.out.ret (.string ⟨#[]⟩) (.slice none 0 0)
  refine bodyPost_ret (v := .tuple #[.agg #[.string ⟨#[]⟩, .slice none 0 0], .int .i64 10]) (by simp [results, Try.results14, go_sem, s0, s1]) rfl ?_
  exact ⟨none, 0, rfl, ownBk_nil _ _, s2⟩
set_option maxRecDepth 100000 in
set_option maxHeartbeats 2000000 in
theorem implRel_out (x : Me) (hT : x.wt ≤ 1048576) (hfin : x.Fin) (R : Option Addr) (c : Nat) (p s : Int) (hp : -9223372036854775808 ≤ p ∧ p ≤ 9223372036854775807) (hok : memOk x = true) (hs : s ≠ 0) (hp8 : ¬ p < 8) (hin : ¬ (0 ≤ p ∧ 0 ≤ s ∧ s ≤ (x.bytes.size : Int) - p)) (lo : Nat) (w : World) (h : Me.At w lo x R) :
    Calls Try.prog 14 #[.agg #[.string x.bytes, .slice R x.free.length c], .int .i64 p, .int .i64 s] w (MeAns2 noMe 10 w) := by
  have CM := fun W (h : Me.At W lo x R) => implMemoryOk_any x hT hfin R c lo W h
  rw [hok] at CM
  have CM := Lib.hid CM
  have H := Lib.hid h
  have CI := fun W => inBounds_any x.bytes (Me.parts_le hT).1 R x.free.length c p s hp.1 hp.2 W
  rw [decide_eq_false hin] at CI
  have CI := Lib.hid CI
  clear h hok hfin hT hin
  go_enter Try.func14, Try.ntmps14
  go_wp2_with fail
  have F0 := Lib.hid (Fr.new w x R c)
  go_at_call 34
  refine (CM.out _ (Me.At.below H.out F0.out.hb)).mono ?_
  rintro e w1 ⟨rfl, hb1⟩
  have F1 := Lib.hid (F0.out.below hb1)
  have k0 := F1.out.k0
  have k1 := F1.out.k1
  clear hb1
  go_wp2_with fail
  go_at_call 36
  refine (CI.out _).mono ?_
  rintro e w2 ⟨rfl, hb2⟩
  have F2 := Lib.hid (F1.out.below hb2)
  clear k0 k1
  have q0 := F2.out.q0
  have q1 := F2.out.q1
  have qf := F2.out.qf
  clear hb2
  go_wp2_with fail
  obtain ⟨s0, s1, s2⟩ := F2.out.ret (.string ⟨#[]⟩) (.slice none 0 0)
  refine bodyPost_ret (v := .tuple #[.agg #[.string ⟨#[]⟩, .slice none 0 0], .int .i64 10]) (by simp [results, Try.results14, go_sem, s0, s1]) rfl ?_
  exact ⟨none, 0, rfl, ownBk_nil _ _, s2⟩
set_option maxRecDepth 100000 in
set_option maxHeartbeats 2000000 in
theorem implRel_taken (x : Me) (hT : x.wt ≤ 1048576) (hfin : x.Fin) (R : Option Addr) (c : Nat) (p s : Int) (hp : -9223372036854775808 ≤ p ∧ p ≤ 9223372036854775807) (hok : memOk x = true) (hs : s ≠ 0) (hp8 : ¬ p < 8) (hin : 0 ≤ p ∧ 0 ≤ s ∧ s ≤ (x.bytes.size : Int) - p) (ht : ¬ taken x.free p s) (lo : Nat) (w : World) (h : Me.At w lo x R) :
    Calls Try.prog 14 #[.agg #[.string x.bytes, .slice R x.free.length c], .int .i64 p, .int .i64 s] w (MeAns2 noMe 10 w) := by
  have CM := fun W (h : Me.At W lo x R) => implMemoryOk_any x hT hfin R c lo W h
  rw [hok] at CM
  have CM := Lib.hid CM
  have H := Lib.hid h
  have CI := fun W => inBounds_any x.bytes (Me.parts_le hT).1 R x.free.length c p s hp.1 hp.2 W
  rw [decide_eq_true hin] at CI
  have CI := Lib.hid CI
  have hsm := ok_sm hok
  have hbb := (memOk_iff.1 hok).1
  have hln := memOk_len hok
  have HOK := Lib.hid (memOk_iff.1 hok).2
  have HSM := Lib.hid hsm
  have CO := Lib.hid (fun W (h : Bks W lo x.free R) => chainOf_any x.free (by omega) R c lo W h)
  have CB := Lib.hid (fun B l g0 tl hl0 W h => before_any B l g0 ⟨0, 0⟩ tl hl0 p (by simp only; omega) W h)

  have HNT := Lib.hid ht
  have HLN := Lib.hid hln
  obtain ⟨hs0, hs1⟩ : 0 < s ∧ s ≤ 100000 := by omega
  obtain ⟨hp0, hp1⟩ : 8 ≤ p ∧ p ≤ 100000 := by omega
  clear h hok hfin hT hin ht hsm hbb hln hp
  go_enter Try.func14, Try.ntmps14
  go_wp2_with fail
  have F0 := Lib.hid (Fr.new w x R c)
  go_at_call 34
  refine (CM.out _ (Me.At.below H.out F0.out.hb)).mono ?_
  rintro e w1 ⟨rfl, hb1⟩
  have F1 := Lib.hid (F0.out.below hb1)
  have k0 := F1.out.k0
  have k1 := F1.out.k1
  clear hb1
  go_wp2_with fail
  go_at_call 36
  refine (CI.out _).mono ?_
  rintro e w2 ⟨rfl, hb2⟩
  have F2 := Lib.hid (F1.out.below hb2)
  clear k0 k1
  have k0 := F2.out.k0
  have k1 := F2.out.k1
  clear hb2
  go_wp2_with fail
  go_at_call 37
  refine (CO.out _ (Me.At.below H.out F2.out.hb)).mono ?_
  rintro e w3 ⟨rfl, tl, hch, htl, hb3⟩
  obtain ⟨g0, hg0⟩ : ∃ g0, w2.heap.size = g0 := ⟨_, rfl⟩
  rw [hg0] at hch
  have HZ2 := Lib.hid F2.out.hz
  have F3 := Lib.hid (F2.out.below hb3)
  have HC3 := Lib.hid hch
  have HTL := Lib.hid htl
  have HB3 := Lib.hid hb3
  have HG0 := Lib.hid hg0
  rw [hg0]
  clear hch htl hb3 hg0 k0 k1
  go_wp2_with fail
  go_at_call 38
  refine (CB.out _ _ _ _ rfl _ HC3.out).mono ?_
  rintro e w4 ⟨xs, ys, g, b, hl, rfl, hx, hy, hb4⟩
  have F4 := Lib.hid (F3.out.below hb4)
  have HL := Lib.hid hl
  have hch4 := HC3.out.below hb4
  rw [hl] at hch4
  have HC4 := Lib.hid hch4
  obtain ⟨_, n1, n2, _, _, n6⟩ := hch4.parts
  have HGB := Lib.hid n6
  have RP := rel_pure hl (s := s) (by omega) (by omega) (by rw [HTL.out]; exact HOK.out) hx hy
  rw [HTL.out] at RP
  have HRP := Lib.hid RP
  obtain ⟨hbs, hys⟩ := mem_sm hl HTL.out HSM.out
  have HG4 := Lib.hid (Nat.le_trans (Nat.le_of_eq HG0.out.symm) (Nat.le_trans HB3.out.size hb4.size))
  have HYS := Lib.hid hys
  have HBS := Lib.hid hbs
  have c0 := n1.c0
  have c1 := n1.c1
  have c2 := n1.c2
  have k0 := F4.out.k0
  have k1 := F4.out.k1
  have q0 := F4.out.q0
  have q1 := F4.out.q1
  have qf := F4.out.qf
  clear hb4 hl hx hy hch4 n6
  have CE := fun W => end_any b.pos b.size (by have := HBS.out; unfold Bk.Sm at this; omega) (by have := HBS.out; unfold Bk.Sm at this; omega) W
  have CE := Lib.hid CE
  have hw := IntWalk.i64_in (p + s) (by omega)
  by_cases hend : b.pos + b.size ≤ p
  · cases ys with
    | nil => exact absurd (HRP.out.1.2 ⟨hend, by simp⟩) HNT.out
    | cons y ys =>
      obtain ⟨q, d⟩ := y
      have hlt : d.pos < p + s := by
        by_cases hh : d.pos < p + s
        · exact hh
        · exact absurd (HRP.out.1.2 ⟨hend, fun y hy => by
            simp at hy
            subst hy
            simp only
            omega⟩) HNT.out
      have c2' : w4.cell? ⟨g, 2, none⟩ = some (.pointer (some ⟨q, 0, none⟩)) := c2
      have d0 := n2.1.c0
      clear c2 n1 n2
      go_wp2_with fail
      go_at_call 39
      refine (CE.out _).mono ?_
      rintro e w5 ⟨rfl, hb5⟩
      have F5 := Lib.hid (F4.out.below hb5)
      replace c2' := keepCell hb5 c2'
      replace d0 := keepCell hb5 d0
      replace k0 := F5.out.k0
      replace k1 := F5.out.k1
      replace q0 := F5.out.q0
      replace q1 := F5.out.q1
      replace qf := F5.out.qf
      have HB5 := Lib.hid hb5
      clear hb5
      go_wp2_with fail
      obtain ⟨s0, s1, s2⟩ := F5.out.ret (.string ⟨#[]⟩) (.slice none 0 0)
      refine bodyPost_ret (v := .tuple #[.agg #[.string ⟨#[]⟩, .slice none 0 0], .int .i64 10]) (by simp [results, Try.results14, go_sem, s0, s1]) rfl ?_
      exact ⟨none, 0, rfl, ownBk_nil _ _, s2⟩
  · clear c2 n1 n2
    go_wp2_with fail
    go_at_call 39
    refine (CE.out _).mono ?_
    rintro e w5 ⟨rfl, hb5⟩
    have F5 := Lib.hid (F4.out.below hb5)
    skip
    replace k0 := F5.out.k0
    replace k1 := F5.out.k1
    replace q0 := F5.out.q0
    replace q1 := F5.out.q1
    replace qf := F5.out.qf
    have HB5 := Lib.hid hb5
    clear hb5
    go_wp2_with fail
    obtain ⟨s0, s1, s2⟩ := F5.out.ret (.string ⟨#[]⟩) (.slice none 0 0)
    refine bodyPost_ret (v := .tuple #[.agg #[.string ⟨#[]⟩, .slice none 0 0], .int .i64 10]) (by simp [results, Try.results14, go_sem, s0, s1]) rfl ?_
    exact ⟨none, 0, rfl, ownBk_nil _ _, s2⟩
set_option maxRecDepth 100000 in
set_option maxHeartbeats 2000000 in
theorem implRel_yes (x : Me) (hT : x.wt ≤ 1048576) (hfin : x.Fin) (R : Option Addr) (c : Nat) (p s : Int) (hp : -9223372036854775808 ≤ p ∧ p ≤ 9223372036854775807) (hok : memOk x = true) (hs : s ≠ 0) (hp8 : ¬ p < 8) (hin : 0 ≤ p ∧ 0 ≤ s ∧ s ≤ (x.bytes.size : Int) - p) (ht : taken x.free p s) (lo : Nat) (w : World) (h : Me.At w lo x R) :
    Calls Try.prog 14 #[.agg #[.string x.bytes, .slice R x.free.length c], .int .i64 p, .int .i64 s] w (MeAns2 ⟨x.bytes, giveL ⟨p, s⟩ x.free⟩ 0 w) := by
  have CM := fun W (h : Me.At W lo x R) => implMemoryOk_any x hT hfin R c lo W h
  rw [hok] at CM
  have CM := Lib.hid CM
  have H := Lib.hid h
  have CI := fun W => inBounds_any x.bytes (Me.parts_le hT).1 R x.free.length c p s hp.1 hp.2 W
  rw [decide_eq_true hin] at CI
  have CI := Lib.hid CI
  have hsm := ok_sm hok
  have hbb := (memOk_iff.1 hok).1
  have hln := memOk_len hok
  have HOK := Lib.hid (memOk_iff.1 hok).2
  have HSM := Lib.hid hsm
  have CO := Lib.hid (fun W (h : Bks W lo x.free R) => chainOf_any x.free (by omega) R c lo W h)
  have CB := Lib.hid (fun B l g0 tl hl0 W h => before_any B l g0 ⟨0, 0⟩ tl hl0 p (by simp only; omega) W h)

  have HNT := Lib.hid ht
  have HLN := Lib.hid hln
  obtain ⟨hs0, hs1⟩ : 0 < s ∧ s ≤ 100000 := by omega
  obtain ⟨hp0, hp1⟩ : 8 ≤ p ∧ p ≤ 100000 := by omega
  clear h hok hfin hT hin ht hsm hbb hln hp
  obtain ⟨G, hG⟩ : ∃ G, giveL ⟨p, s⟩ x.free = G := ⟨_, rfl⟩
  rw [hG]
  have HGX := Lib.hid hG
  clear hG
  go_enter Try.func14, Try.ntmps14
  go_wp2_with fail
  have F0 := Lib.hid (Fr.new w x R c)
  go_at_call 34
  refine (CM.out _ (Me.At.below H.out F0.out.hb)).mono ?_
  rintro e w1 ⟨rfl, hb1⟩
  have F1 := Lib.hid (F0.out.below hb1)
  have k0 := F1.out.k0
  have k1 := F1.out.k1
  clear hb1
  go_wp2_with fail
  go_at_call 36
  refine (CI.out _).mono ?_
  rintro e w2 ⟨rfl, hb2⟩
  have F2 := Lib.hid (F1.out.below hb2)
  clear k0 k1
  have k0 := F2.out.k0
  have k1 := F2.out.k1
  clear hb2
  go_wp2_with fail
  go_at_call 37
  refine (CO.out _ (Me.At.below H.out F2.out.hb)).mono ?_
  rintro e w3 ⟨rfl, tl, hch, htl, hb3⟩
  obtain ⟨g0, hg0⟩ : ∃ g0, w2.heap.size = g0 := ⟨_, rfl⟩
  rw [hg0] at hch
  have HZ2 := Lib.hid F2.out.hz
  have F3 := Lib.hid (F2.out.below hb3)
  have HC3 := Lib.hid hch
  have HTL := Lib.hid htl
  have HB3 := Lib.hid hb3
  have HG0 := Lib.hid hg0
  rw [hg0]
  clear hch htl hb3 hg0 k0 k1
  go_wp2_with fail
  go_at_call 38
  refine (CB.out _ _ _ _ rfl _ HC3.out).mono ?_
  rintro e w4 ⟨xs, ys, g, b, hl, rfl, hx, hy, hb4⟩
  have F4 := Lib.hid (F3.out.below hb4)
  have HL := Lib.hid hl
  have hch4 := HC3.out.below hb4
  rw [hl] at hch4
  have HC4 := Lib.hid hch4
  obtain ⟨_, n1, n2, _, _, n6⟩ := hch4.parts
  have HGB := Lib.hid n6
  have RP := rel_pure hl (s := s) (by omega) (by omega) (by rw [HTL.out]; exact HOK.out) hx hy
  rw [HTL.out] at RP
  have HRP := Lib.hid RP
  obtain ⟨hbs, hys⟩ := mem_sm hl HTL.out HSM.out
  have HG4 := Lib.hid (Nat.le_trans (Nat.le_of_eq HG0.out.symm) (Nat.le_trans HB3.out.size hb4.size))
  have HYS := Lib.hid hys
  have HBS := Lib.hid hbs
  have c0 := n1.c0
  have c1 := n1.c1
  have c2 := n1.c2
  have k0 := F4.out.k0
  have k1 := F4.out.k1
  have q0 := F4.out.q0
  have q1 := F4.out.q1
  have qf := F4.out.qf
  clear hb4 hl hx hy hch4 n6
  have CE := fun W => end_any b.pos b.size (by have := HBS.out; unfold Bk.Sm at this; omega) (by have := HBS.out; unfold Bk.Sm at this; omega) W
  have CE := Lib.hid CE
  have hw := IntWalk.i64_in (p + s) (by omega)
  have CGV := Lib.hid (fun W hB h => giveC g0 xs ys g b p s (by omega) HBS.out.1 (by unfold Bk.Sm; simp only; omega) (by omega) (fun y hy => HYS.out y (List.mem_of_head? hy)) W hB h)
  obtain ⟨hend, hny⟩ := HRP.out.1.1 HNT.out
  cases ys with
  | nil =>
    have c2' : w4.cell? ⟨g, 2, none⟩ = some (.pointer none) := c2
    clear c2 n1 n2 hny
    go_wp2_with fail
    go_at_call 39
    refine (CE.out _).mono ?_
    rintro e w5 ⟨rfl, hb5⟩
    have F5 := Lib.hid (F4.out.below hb5)
    replace c2' := keepCell hb5 c2'
    replace k0 := F5.out.k0
    replace k1 := F5.out.k1
    replace q0 := F5.out.q0
    replace q1 := F5.out.q1
    replace qf := F5.out.qf
    have HB5 := Lib.hid hb5
    clear hb5
    go_wp2_with fail
    clear c2'
    go_at_call 40
    refine (CGV.out w5 (Nat.le_trans HG4.out HB5.out.size) (HC4.out.below HB5.out)).mono ?_
    rintro e w6 ⟨rfl, ⟨l6, ⟨b', zs, rfl, hz⟩, hch6⟩, hb6, hB6⟩
    obtain ⟨tl', b0, hl', htl'⟩ := HRP.out.2 HNT.out b' zs hz
    rw [hl'] at hch6
    have F6 := Lib.hid (F5.out.belowB hb6 (by rw [← HG0.out]; exact HZ2.out))
    have hlen : tl'.length = (giveL ⟨p, s⟩ x.free).length := by rw [← htl', List.length_map]
    have CBL := fun W h => blocks_any g0 g0 b0 tl' (by rw [hlen]; have := giveL_len ⟨p, s⟩ x.free; have := HLN.out; omega) W h
    rw [htl', hlen] at CBL
    rw [HGX.out] at CBL
    have CBL := Lib.hid CBL
    have HC6 := Lib.hid hch6
    replace k0 := F6.out.k0
    replace k1 := F6.out.k1
    replace q0 := F6.out.q0
    replace q1 := F6.out.q1
    replace qf := F6.out.qf
    have HZ6 := Lib.hid F6.out.hz
    clear hz hch6 hb6 hB6 hl' htl' hlen
    go_wp2_with fail
    go_region_held3 (fun w' => w'.cell? ⟨w.heap.size, 0, none⟩ = some (.string x.bytes))
      (first | assumption | (exact (World.cell?_setCell_far _ _ _ _ (by simp)).trans ((World.cell?_setCell_far _ _ _ _ (by simp)).trans p0)) | fail)
      (first | (go_at_call 41; refine (CBL.out _ (HC6.out.below ((Below.refl _ w6).drew))).mono ?_; rintro e w7 ⟨R7, c7, rfl, ho7, hb7⟩; have hbw : Below w6.heap.size w6 w7 := (Below.refl w6.heap.size w6).drew.trans hb7; have F7 := Lib.hid (F6.out.below hbw); have p0 := F7.out.k0; have p1 := F7.out.k1; have r0 := F7.out.q0; have r1 := F7.out.q1; have rf := F7.out.qf; have HO7 := Lib.hid ho7))
    go_wp2_with fail
    obtain ⟨s0, s1, s2⟩ := F7.out.ret (.string x.bytes) (.slice R7 G.length c7)
    refine bodyPost_ret (v := .tuple #[.agg #[.string x.bytes, .slice R7 G.length c7], .int .i64 0]) (by simp [results, Try.results14, go_sem, s0, s1]) rfl ?_
    exact ⟨R7, c7, rfl, (HO7.out.ret HZ6.out _ _), s2⟩
  | cons y ys =>
    obtain ⟨q, d⟩ := y
    have hlt : ¬ d.pos < p + s := by
      have := hny (q, d) rfl
      simp only at this
      omega
    have c2' : w4.cell? ⟨g, 2, none⟩ = some (.pointer (some ⟨q, 0, none⟩)) := c2
    have d0 := n2.1.c0
    clear c2 n1 n2 hny
    go_wp2_with fail
    go_at_call 39
    refine (CE.out _).mono ?_
    rintro e w5 ⟨rfl, hb5⟩
    have F5 := Lib.hid (F4.out.below hb5)
    replace c2' := keepCell hb5 c2'
    replace d0 := keepCell hb5 d0
    replace k0 := F5.out.k0
    replace k1 := F5.out.k1
    replace q0 := F5.out.q0
    replace q1 := F5.out.q1
    replace qf := F5.out.qf
    have HB5 := Lib.hid hb5
    clear hb5
    go_wp2_with fail
    clear c2' d0
    go_at_call 40
    refine (CGV.out w5 (Nat.le_trans HG4.out HB5.out.size) (HC4.out.below HB5.out)).mono ?_
    rintro e w6 ⟨rfl, ⟨l6, ⟨b', zs, rfl, hz⟩, hch6⟩, hb6, hB6⟩
    obtain ⟨tl', b0, hl', htl'⟩ := HRP.out.2 HNT.out b' zs hz
    rw [hl'] at hch6
    have F6 := Lib.hid (F5.out.belowB hb6 (by rw [← HG0.out]; exact HZ2.out))
    have hlen : tl'.length = (giveL ⟨p, s⟩ x.free).length := by rw [← htl', List.length_map]
    have CBL := fun W h => blocks_any g0 g0 b0 tl' (by rw [hlen]; have := giveL_len ⟨p, s⟩ x.free; have := HLN.out; omega) W h
    rw [htl', hlen] at CBL
    rw [HGX.out] at CBL
    have CBL := Lib.hid CBL
    have HC6 := Lib.hid hch6
    replace k0 := F6.out.k0
    replace k1 := F6.out.k1
    replace q0 := F6.out.q0
    replace q1 := F6.out.q1
    replace qf := F6.out.qf
    have HZ6 := Lib.hid F6.out.hz
    clear hz hch6 hb6 hB6 hl' htl' hlen
    go_wp2_with fail
    go_region_held3 (fun w' => w'.cell? ⟨w.heap.size, 0, none⟩ = some (.string x.bytes))
      (first | assumption | (exact (World.cell?_setCell_far _ _ _ _ (by simp)).trans ((World.cell?_setCell_far _ _ _ _ (by simp)).trans p0)) | fail)
      (first | (go_at_call 41; refine (CBL.out _ (HC6.out.below ((Below.refl _ w6).drew))).mono ?_; rintro e w7 ⟨R7, c7, rfl, ho7, hb7⟩; have hbw : Below w6.heap.size w6 w7 := (Below.refl w6.heap.size w6).drew.trans hb7; have F7 := Lib.hid (F6.out.below hbw); have p0 := F7.out.k0; have p1 := F7.out.k1; have r0 := F7.out.q0; have r1 := F7.out.q1; have rf := F7.out.qf; have HO7 := Lib.hid ho7))
    go_wp2_with fail
    obtain ⟨s0, s1, s2⟩ := F7.out.ret (.string x.bytes) (.slice R7 G.length c7)
    refine bodyPost_ret (v := .tuple #[.agg #[.string x.bytes, .slice R7 G.length c7], .int .i64 0]) (by simp [results, Try.results14, go_sem, s0, s1]) rfl ?_
    exact ⟨R7, c7, rfl, (HO7.out.ret HZ6.out _ _), s2⟩
theorem implRelease_any (x : Me) (hT : x.wt ≤ 1048576) (hfin : x.Fin) (R : Option Addr) (c : Nat) (p : Int) (hp : -9223372036854775808 ≤ p ∧ p ≤ 9223372036854775807) (s : Int) (lo : Nat) (w : World) (h : Me.At w lo x R) :
    Calls Try.prog 14 #[.agg #[.string x.bytes, .slice R x.free.length c], .int .i64 p, .int .i64 s] w (MeAns2 (memRelease x p s).1 (memRelease x p s).2 w) := by
  unfold memRelease
  by_cases hok : memOk x = true
  · rw [if_pos hok]
    by_cases hs : s = 0
    · rw [if_pos hs]
      exact implRel_none x hT hfin R c p s hok hs lo w h
    · rw [if_neg hs]
      by_cases hr : relOk x p s
      · rw [if_pos hr]
        exact implRel_yes x hT hfin R c p s hp hok hs (by have := hr.1; omega) hr.2.1 hr.2.2 lo w h
      · rw [if_neg hr]
        by_cases hp8 : p < 8
        · exact implRel_low x hT hfin R c p s hok hs hp8 lo w h
        · by_cases hin : 0 ≤ p ∧ 0 ≤ s ∧ s ≤ (x.bytes.size : Int) - p
          · exact implRel_taken x hT hfin R c p s hp hok hs hp8 hin (fun ht => hr ⟨by omega, hin, ht⟩) lo w h
          · exact implRel_out x hT hfin R c p s hp hok hs hp8 hin lo w h
  · rw [if_neg hok]
    exact implRel_bad x hT hfin R c p s (by simpa using hok) lo w h
end Go.Proofs.Ytoeofhhmkkpjbaa
