/-
  The walk of the program's Alloc.
-/
import Derived.Test.YtoeofhhmkkpjbaaChainT
import Derived.Test.YtoeofhhmkkpjbaaMeReI
namespace Go.Proofs.Ytoeofhhmkkpjbaa
open Go.ChangeShapes Go.WideShapes Go.ChangeAt Go.RowKit Go.Deep

theorem upTo_le {x a : Int} (_hx : 0 ≤ x) (ha : 1 ≤ a) : x ≤ upTo x a ∧ upTo x a ≤ x + a - 1 := by
  unfold upTo
  have h1 := Int.mul_ediv_add_emod (x + a - 1) a
  have h2 := Int.emod_nonneg (x + a - 1) (b := a) (by omega)
  have h3 := Int.emod_lt_of_pos (x + a - 1) (b := a) (by omega)
  rw [Int.mul_comm]
  generalize a * ((x + a - 1) / a) = q at *
  omega
theorem alignUp7 (x a : Int) (hx : 0 ≤ x) (hx' : x ≤ 1000000000) (ha : 1 ≤ a) (ha' : a ≤ 1000) (w : World) :
    Calls Try.prog 43 #[.int .i64 x, .int .i64 a] w fun e w' => e = .returned (.int .i64 (upTo x a)) ∧ Below w.heap.size w w' := by
  have hu := upTo_le hx ha
  have HU : Hid (upTo x a = Int.tdiv (x + a - 1) a * a) := Lib.hid (by unfold upTo; rw [Int.tdiv_eq_ediv_of_nonneg (by omega)])
  obtain ⟨U, hU⟩ : ∃ U, upTo x a = U := ⟨_, rfl⟩
  rw [hU] at hu HU
  rw [hU]
  have hd := Int.tdiv_le_self a (show 0 ≤ x + a - 1 by omega)
  have hd0 := Int.tdiv_nonneg (show 0 ≤ x + a - 1 by omega) (show 0 ≤ a by omega)
  obtain ⟨D, hD⟩ : ∃ D, Int.tdiv (x + a - 1) a = D := ⟨_, rfl⟩
  have ha0 : ¬ a = 0 := by omega
  have hm : D * a = U := by rw [← hD]; exact HU.out.symm
  rw [hD] at hd hd0
  have h0 : 0 ≤ U := by omega
  have h1 : U ≤ 1000002000 := by omega
  go_enter Try.func43, Try.ntmps43
  go_wp2_with fail
  go_ret
  exact ⟨rfl, Below.refl _ _⟩
theorem isAlign_yes (al : Int) (h : (al = 1 ∨ al = 2 ∨ al = 4 ∨ al = 8)) (w : World) : Calls Try.prog 42 #[.int .i64 al] w fun e w' => e = .returned (.bool true) ∧ Below w.heap.size w w' := by
  rcases h with rfl | rfl | rfl | rfl
  all_goals go_enter Try.func42, Try.ntmps42
  all_goals go_wp2_with fail
  all_goals go_ret
  all_goals exact ⟨rfl, Below.refl _ _⟩
theorem isAlign_no (al : Int) (h : ¬ (al = 1 ∨ al = 2 ∨ al = 4 ∨ al = 8)) (w : World) : Calls Try.prog 42 #[.int .i64 al] w fun e w' => e = .returned (.bool false) ∧ Below w.heap.size w w' := by
  have h1 : ¬ al = 1 := fun e => h (.inl e)
  have h2 : ¬ al = 2 := fun e => h (.inr (.inl e))
  have h4 : ¬ al = 4 := fun e => h (.inr (.inr (.inl e)))
  have h8 : ¬ al = 8 := fun e => h (.inr (.inr (.inr e)))
  clear h
  go_enter Try.func42, Try.ntmps42
  go_wp2_with fail
  go_ret
  exact ⟨rfl, Below.refl _ _⟩
theorem alloc_tl {tl xs ys : Pls} {g0 g q : Nat} {b c : Bk} {pre : List Bk} (e : (g0, Bk.mk 0 0) :: tl = xs ++ (g, b) :: (q, c) :: ys) (hp : tl.map Prod.snd = pre ++ (c :: ys.map Prod.snd)) (zs : Pls) :
    ∃ (tl' : Pls) (b0 : Bk), xs ++ (g, b) :: (zs ++ ys) = (g0, b0) :: tl' ∧ tl'.map Prod.snd = pre ++ (zs.map Prod.snd ++ ys.map Prod.snd) := by
  cases xs with
  | nil =>
    injection e with e1 e2
    injection e1 with e3 e4
    subst e3
    subst e2
    refine ⟨zs ++ ys, b, rfl, ?_⟩
    have : pre = [] := by
      rw [List.map_cons] at hp
      exact List.length_eq_zero_iff.1 (by have := congrArg List.length hp; simp only [List.length_cons, List.length_append, List.length_map] at this; omega)
    rw [this, List.map_append, List.nil_append]
  | cons z xs' =>
    rw [List.cons_append] at e
    injection e with e1 e2
    subst e1
    subst e2
    refine ⟨xs' ++ (g, b) :: (zs ++ ys), _, rfl, ?_⟩
    have : pre = xs'.map Prod.snd ++ [b] := by
      rw [List.map_append, List.map_cons, List.map_cons] at hp
      exact (List.append_cancel_right (bs := c :: ys.map Prod.snd) (by rw [← hp]; simp))
    rw [this]
    simp
def alAns (x : Me) (s al : Int) : Me × Int × Int := match allocL s al x.free with
  | none => (noMe, 0, 4)
  | some r => (⟨x.bytes, r.2⟩, r.1, 0)
theorem splitBk_len (p s : Int) (c : Bk) : (splitBk p s c).length ≤ 2 := by
  unfold splitBk
  split <;> split <;> simp

set_option maxRecDepth 100000 in
set_option maxHeartbeats 2000000 in
theorem implAl_bad (x : Me) (hT : x.wt ≤ 1048576) (hfin : x.Fin) (R : Option Addr) (c : Nat) (s al : Int) (hno : memOk x = false) (lo : Nat) (w : World) (h : Me.At w lo x R) :
    Calls Try.prog 15 #[.agg #[.string x.bytes, .slice R x.free.length c], .int .i64 s, .int .i64 al] w (MeAns3 noMe 0 1 w) := by
  have CM := fun W (h : Me.At W lo x R) => implMemoryOk_any x hT hfin R c lo W h
  rw [hno] at CM
  have CM := Lib.hid CM
  have H := Lib.hid h
  clear h hno hfin hT
  go_enter Try.func15, Try.ntmps15
  go_wp2_with fail
  have F0 := Lib.hid (Fr.new w x R c)
  go_at_call 34
  refine (CM.out _ (Me.At.below H.out F0.out.hb)).mono ?_
  rintro e w1 ⟨rfl, hb1⟩
  have F1 := Lib.hid (F0.out.below hb1)
  have q0 := F1.out.q0
  have q1 := F1.out.q1
  have qf := F1.out.qf
  clear hb1
  go_wp2_with fail
  obtain ⟨s0, s1, s2⟩ := F1.out.ret (.string ⟨#[]⟩) (.slice none 0 0)
  refine bodyPost_ret (v := .tuple #[.agg #[.string ⟨#[]⟩, .slice none 0 0], .int .i64 0, .int .i64 1]) (by simp [results, Try.results15, go_sem, s0, s1]) rfl ?_
  exact ⟨none, 0, rfl, ownBk_nil _ _, s2⟩
set_option maxRecDepth 100000 in
set_option maxHeartbeats 2000000 in
theorem implAl_neg (x : Me) (hT : x.wt ≤ 1048576) (hfin : x.Fin) (R : Option Addr) (c : Nat) (s al : Int) (hok : memOk x = true) (hs : s < 0) (lo : Nat) (w : World) (h : Me.At w lo x R) :
    Calls Try.prog 15 #[.agg #[.string x.bytes, .slice R x.free.length c], .int .i64 s, .int .i64 al] w (MeAns3 noMe 0 2 w) := by
  have CM := fun W (h : Me.At W lo x R) => implMemoryOk_any x hT hfin R c lo W h
  rw [hok] at CM
  have CM := Lib.hid CM
  have H := Lib.hid h
  clear h hok hfin hT
  go_enter Try.func15, Try.ntmps15
  go_wp2_with fail
  have F0 := Lib.hid (Fr.new w x R c)
  go_at_call 34
  refine (CM.out _ (Me.At.below H.out F0.out.hb)).mono ?_
  rintro e w1 ⟨rfl, hb1⟩
  have F1 := Lib.hid (F0.out.below hb1)
  have q0 := F1.out.q0
  have q1 := F1.out.q1
  have qf := F1.out.qf
  clear hb1
  go_wp2_with fail
  obtain ⟨s0, s1, s2⟩ := F1.out.ret (.string ⟨#[]⟩) (.slice none 0 0)
  refine bodyPost_ret (v := .tuple #[.agg #[.string ⟨#[]⟩, .slice none 0 0], .int .i64 0, .int .i64 2]) (by simp [results, Try.results15, go_sem, s0, s1]) rfl ?_
  exact ⟨none, 0, rfl, ownBk_nil _ _, s2⟩
set_option maxRecDepth 100000 in
set_option maxHeartbeats 2000000 in
theorem implAl_al (x : Me) (hT : x.wt ≤ 1048576) (hfin : x.Fin) (R : Option Addr) (c : Nat) (s al : Int) (hok : memOk x = true) (hs : ¬ s < 0) (ha : ¬ (al = 1 ∨ al = 2 ∨ al = 4 ∨ al = 8)) (lo : Nat) (w : World) (h : Me.At w lo x R) :
    Calls Try.prog 15 #[.agg #[.string x.bytes, .slice R x.free.length c], .int .i64 s, .int .i64 al] w (MeAns3 noMe 0 2 w) := by
  have CM := fun W (h : Me.At W lo x R) => implMemoryOk_any x hT hfin R c lo W h
  rw [hok] at CM
  have CM := Lib.hid CM
  have H := Lib.hid h
  have CA := Lib.hid (fun W => isAlign_no al ha W)
  clear h hok hfin hT ha
  go_enter Try.func15, Try.ntmps15
  go_wp2_with fail
  have F0 := Lib.hid (Fr.new w x R c)
  go_at_call 34
  refine (CM.out _ (Me.At.below H.out F0.out.hb)).mono ?_
  rintro e w1 ⟨rfl, hb1⟩
  have F1 := Lib.hid (F0.out.below hb1)
  clear hb1
  go_wp2_with fail
  go_at_call 42
  refine (CA.out _).mono ?_
  rintro e w2 ⟨rfl, hb2⟩
  have F2 := Lib.hid (F1.out.below hb2)
  have q0 := F2.out.q0
  have q1 := F2.out.q1
  have qf := F2.out.qf
  clear hb2
  go_wp2_with fail
  obtain ⟨s0, s1, s2⟩ := F2.out.ret (.string ⟨#[]⟩) (.slice none 0 0)
  refine bodyPost_ret (v := .tuple #[.agg #[.string ⟨#[]⟩, .slice none 0 0], .int .i64 0, .int .i64 2]) (by simp [results, Try.results15, go_sem, s0, s1]) rfl ?_
  exact ⟨none, 0, rfl, ownBk_nil _ _, s2⟩
set_option maxRecDepth 100000 in
set_option maxHeartbeats 2000000 in
theorem implAl_zero (x : Me) (hT : x.wt ≤ 1048576) (hfin : x.Fin) (R : Option Addr) (c : Nat) (s al : Int) (hok : memOk x = true) (hs : s = 0) (ha : (al = 1 ∨ al = 2 ∨ al = 4 ∨ al = 8)) (lo : Nat) (w : World) (h : Me.At w lo x R) :
    Calls Try.prog 15 #[.agg #[.string x.bytes, .slice R x.free.length c], .int .i64 s, .int .i64 al] w (MeAns3 x 0 0 w) := by
  have CM := fun W (h : Me.At W lo x R) => implMemoryOk_any x hT hfin R c lo W h
  rw [hok] at CM
  have CM := Lib.hid CM
  have H := Lib.hid h
  have CA := Lib.hid (fun W => isAlign_yes al ha W)
  have CC := Lib.hid (fun W (h : Me.At W lo x R) => copyMemory_any x (by have := memOk_len hok; omega) R c lo W h)
  clear h hok hfin hT ha
  subst hs
  go_enter Try.func15, Try.ntmps15
  go_wp2_with fail
  have F0 := Lib.hid (Fr.new w x R c)
  go_at_call 34
  refine (CM.out _ (Me.At.below H.out F0.out.hb)).mono ?_
  rintro e w1 ⟨rfl, hb1⟩
  have F1 := Lib.hid (F0.out.below hb1)
  clear hb1
  go_wp2_with fail
  go_at_call 42
  refine (CA.out _).mono ?_
  rintro e w2 ⟨rfl, hb2⟩
  have F2 := Lib.hid (F1.out.below hb2)
  have k0 := F2.out.k0
  have k1 := F2.out.k1
  clear hb2
  go_wp2_with fail
  go_at_call 35
  refine (CC.out _ (Me.At.below H.out F2.out.hb)).mono ?_
  rintro e w3 ⟨R3, c3, rfl, ho3, hb3⟩
  have F3 := Lib.hid (F2.out.below hb3)
  have HO3 := Lib.hid ho3
  have HZ2 := Lib.hid F2.out.hz
  clear ho3 k0 k1
  have q0 := F3.out.q0
  have q1 := F3.out.q1
  have qf := F3.out.qf
  clear hb3
  go_wp2_with fail
  obtain ⟨s0, s1, s2⟩ := F3.out.ret (.string x.bytes) (.slice R3 x.free.length c3)
  refine bodyPost_ret (v := .tuple #[.agg #[.string x.bytes, .slice R3 x.free.length c3], .int .i64 0, .int .i64 0]) (by simp [results, Try.results15, go_sem, s0, s1]) rfl ?_
  exact ⟨R3, c3, rfl, HO3.out.ret HZ2.out _ _, s2⟩
set_option maxRecDepth 100000 in
set_option maxHeartbeats 2000000 in
theorem implAl_yes (x : Me) (hT : x.wt ≤ 1048576) (hfin : x.Fin) (R : Option Addr) (c : Nat) (s al : Int) (hok : memOk x = true) (hs : 0 < s) (hsx : s ≤ 9223372036854775807) (ha : (al = 1 ∨ al = 2 ∨ al = 4 ∨ al = 8)) (lo : Nat) (w : World) (h : Me.At w lo x R) :
    Calls Try.prog 15 #[.agg #[.string x.bytes, .slice R x.free.length c], .int .i64 s, .int .i64 al] w (MeAns3 (alAns x s al).1 (alAns x s al).2.1 (alAns x s al).2.2 w) := by
  have CM := fun W (h : Me.At W lo x R) => implMemoryOk_any x hT hfin R c lo W h
  rw [hok] at CM
  have CM := Lib.hid CM
  have H := Lib.hid h
  have hsm := ok_sm hok
  have hbb := (memOk_iff.1 hok).1
  have hln := memOk_len hok
  have HSM := Lib.hid hsm
  have HLN := Lib.hid hln
  have CA := Lib.hid (fun W => isAlign_yes al ha W)
  have hal : 1 ≤ al ∧ al ≤ 8 := by omega
  have hal1 := hal.1
  have hal2 := hal.2
  have CO := Lib.hid (fun W (h : Bks W lo x.free R) => chainOf_any x.free (by omega) R c lo W h)
  have hs0 : ¬ s < 0 := by omega
  have hs1 : ¬ s = 0 := by omega
  clear h hok hfin hT ha hsm hbb hln hal
  go_enter Try.func15, Try.ntmps15
  go_wp2_with fail
  have F0 := Lib.hid (Fr.new w x R c)
  go_at_call 34
  refine (CM.out _ (Me.At.below H.out F0.out.hb)).mono ?_
  rintro e w1 ⟨rfl, hb1⟩
  have F1 := Lib.hid (F0.out.below hb1)
  clear hb1
  go_wp2_with fail
  go_at_call 42
  refine (CA.out _).mono ?_
  rintro e w2 ⟨rfl, hb2⟩
  have F2 := Lib.hid (F1.out.below hb2)
  have k0 := F2.out.k0
  have k1 := F2.out.k1
  clear hb2
  go_wp2_with fail
  go_at_call 37
  refine (CO.out _ (Me.At.below H.out F2.out.hb)).mono ?_
  rintro e w3 ⟨rfl, tl, hch, htl, hb3⟩
  obtain ⟨g0, hg0⟩ : ∃ g0, w2.heap.size = g0 := ⟨_, rfl⟩
  rw [hg0] at hch
  have HZ2 := Lib.hid F2.out.hz
  have F3 := Lib.hid (F2.out.below hb3)
  have HC3 := Lib.hid hch
  have HTL := Lib.hid htl
  have HB3 := Lib.hid hb3
  have HG0 := Lib.hid hg0
  rw [hg0]
  clear hch htl hb3 hg0 k0 k1
  go_wp2_with fail
  go_loopg [10] tl.length (fun gf v wr => ∃ (xs ys : Pls) (g : Nat) (b : Bk) (pre : List Bk), v = .pointer (some ⟨g, 0, none⟩) ∧ Hid ((g0, Bk.mk 0 0) :: tl = xs ++ (g, b) :: ys) ∧ Hid (tl.map Prod.snd = pre ++ ys.map Prod.snd) ∧ Hid (∀ z ∈ pre, ¬ fitsBk s al z) ∧ ys.length < gf + 1 ∧ Hid (Below w3.heap.size w3 wr))
  case atStart => exact ⟨[], tl, g0, ⟨0, 0⟩, [], rfl, Lib.hid rfl, Lib.hid rfl, Lib.hid (by simp), by omega, Lib.hid (Below.refl _ _)⟩
  case round =>
    obtain ⟨xs, ys, g, b, pre, rfl, hl, hpre, hnf, hlen, hbel⟩ := hrel
    have F := Lib.hid (F3.out.below hbel.out)
    have hch := HC3.out.below hbel.out
    rw [hl.out] at hch
    obtain ⟨h1, h2, h3, h4, h5, h6⟩ := hch.parts
    have c2 := h2.c2
    cases ys with
    | nil =>
      have c2' : wr.cell? ⟨g, 2, none⟩ = some (.pointer none) := c2
      have q0 := F.out.q0
      have q1 := F.out.q1
      have qf := F.out.qf
      clear hch h1 h2 h3 h4 h5 h6 c2
      go_wp2_with fail
      obtain ⟨s0, s1, s2⟩ := F.out.ret (.string ⟨#[]⟩) (.slice none 0 0)
      refine bodyPost_ret (v := .tuple #[.agg #[.string ⟨#[]⟩, .slice none 0 0], .int .i64 0, .int .i64 4]) (by simp [results, Try.results15, go_sem, s0, s1]) rfl ?_
      have e : alAns x s al = (noMe, 0, 4) := by
        have e1 := hpre.out
        rw [HTL.out, List.map_nil, List.append_nil] at e1
        unfold alAns
        rw [e1, allocL_miss hnf.out]
      rw [e]
      exact ⟨none, 0, rfl, ownBk_nil _ _, s2⟩
    | cons y ys =>
      obtain ⟨q, d⟩ := y
      have c2' : wr.cell? ⟨g, 2, none⟩ = some (.pointer (some ⟨q, 0, none⟩)) := c2
      have d0 := h3.1.c0
      have d1 := h3.1.c1
      obtain ⟨⟨⟨sd0, sd1⟩, sd2, sd3⟩, _, _, _⟩ := HSM.out d (by rw [← HTL.out, hpre.out]; simp)
      have HC := Lib.hid hch
      obtain ⟨hu0, hu1⟩ := upTo_le (x := d.pos) sd0 hal1
      have CU := fun W => alignUp7 d.pos al sd0 (by omega) hal1 (by omega) W
      have CE := Lib.hid (fun W => end_any d.pos d.size (by omega) (by omega) W)
      have hfit : fitsBk s al d ↔ s ≤ d.pos + d.size - upTo d.pos al := Iff.rfl
      have hhit := fun (hf : fitsBk s al d) => allocL_hit hf (ys := ys.map Prod.snd) hnf.out
      obtain ⟨U, hU⟩ : ∃ U, upTo d.pos al = U := ⟨_, rfl⟩
      rw [hU] at hu0 hu1 CU hfit hhit
      have CU := Lib.hid CU
      have HHIT := Lib.hid hhit
      have HFIT := Lib.hid hfit
      have hw1 : IntKind.i64.wrap (d.pos + d.size - U) = d.pos + d.size - U := IntWalk.i64_in _ (by omega)
      clear hch h1 h2 h3 h4 h5 h6 c2 hU hhit hfit
      go_wp2_with fail
      go_at_call 43
      refine (CU.out _).mono ?_
      rintro e w4 ⟨rfl, hb4⟩
      have F4 := Lib.hid (F.out.below hb4)
      have HB4 := Lib.hid (bchain hbel.out hb4 hbel.out.size)
      have HC4 := Lib.hid (HC.out.below hb4)
      replace c2' := keepCell hb4 c2'
      replace d0 := keepCell hb4 d0
      replace d1 := keepCell hb4 d1
      clear hb4
      go_wp2_with fail
      go_at_call 39
      refine (CE.out _).mono ?_
      rintro e w5 ⟨rfl, hb5⟩
      have F5 := Lib.hid (F4.out.below hb5)
      have HB5 := Lib.hid (bchain HB4.out hb5 HB4.out.size)
      have HC5 := Lib.hid (HC4.out.below hb5)
      replace c2' := keepCell hb5 c2'
      replace d0 := keepCell hb5 d0
      replace d1 := keepCell hb5 d1
      clear hb5
      by_cases hf : s ≤ d.pos + d.size - U
      · go_wp2_with fail
        go_at_call 44
        refine (takeC g0 xs ys g q b d U s ⟨⟨sd0, sd1⟩, sd2, sd3⟩ hu0 (by omega) (by omega) (by omega) w5 (by rw [← HG0.out]; exact Nat.le_trans HB3.out.size HB5.out.size) HC5.out).mono ?_
        rintro e w6 ⟨rfl, ⟨zs, hz, hch6⟩, hb6⟩
        obtain ⟨tl', b0, hl', htl'⟩ := alloc_tl hl.out (by rw [hpre.out]; rfl) zs
        rw [hl'] at hch6
        rw [hz] at htl'
        have F6 := Lib.hid (F5.out.belowB hb6 (by rw [← HG0.out]; exact HZ2.out))
        have HC6 := Lib.hid hch6
        have e0 := HHIT.out (HFIT.out.2 hf)
        have e1 : x.free = pre ++ d :: ys.map Prod.snd := by rw [← HTL.out, hpre.out]; rfl
        have hsl := splitBk_len U s d
        have hl9 := HLN.out
        rw [e1] at hl9
        obtain ⟨G, hG⟩ : ∃ G, pre ++ (splitBk U s d ++ ys.map Prod.snd) = G := ⟨_, rfl⟩
        have hgl : G.length ≤ 5000 := by rw [← hG]; simp only [List.length_append, List.length_cons] at hl9 ⊢; omega
        rw [hG] at htl' e0
        have HANS : Hid (alAns x s al = (⟨x.bytes, G⟩, U, 0)) := Lib.hid (by unfold alAns; rw [e1, e0])
        have hlen2 : tl'.length = G.length := by rw [← htl', List.length_map]
        have CBL := fun W h => blocks_any g0 g0 b0 tl' (by omega) W h
        rw [htl', hlen2] at CBL
        have CBL := Lib.hid CBL
        have k0 := F6.out.k0
        have k1 := F6.out.k1
        have q0 := F6.out.q0
        have q1 := F6.out.q1
        have qf := F6.out.qf
        have HZ6 := Lib.hid F6.out.hz
        clear hz hch6 hb6 hl' htl' hlen2 hG e0 e1 hl9 hsl c2' d0 d1
        go_wp2_with fail
        go_region_held3 (fun w' => w'.cell? ⟨w.heap.size, 0, none⟩ = some (.string x.bytes))
          (first | assumption | (exact (World.cell?_setCell_far _ _ _ _ (by simp)).trans ((World.cell?_setCell_far _ _ _ _ (by simp)).trans p0)) | fail)
          (first | (go_at_call 41; refine (CBL.out _ (HC6.out.below ((Below.refl _ w6).drew))).mono ?_; rintro e w7 ⟨R7, c7, rfl, ho7, hb7⟩; have hbw : Below w6.heap.size w6 w7 := (Below.refl w6.heap.size w6).drew.trans hb7; have F7 := Lib.hid (F6.out.below hbw); have p0 := F7.out.k0; have p1 := F7.out.k1; have r0 := F7.out.q0; have r1 := F7.out.q1; have rf := F7.out.qf; have HO7 := Lib.hid ho7))
        go_wp2_with fail
        obtain ⟨s0, s1, s2⟩ := F7.out.ret (.string x.bytes) (.slice R7 G.length c7)
        refine bodyPost_ret (v := .tuple #[.agg #[.string x.bytes, .slice R7 G.length c7], .int .i64 U, .int .i64 0]) (by simp [results, Try.results15, go_sem, s0, s1]) rfl ?_
        rw [HANS.out]
        exact ⟨R7, c7, rfl, (HO7.out.ret HZ6.out _ _), s2⟩
      · go_wp2_with fail
        go_roundg (gk - 1)
        case measure => simp only [List.length_cons] at hlen; omega
        case rel =>
          exact ⟨xs ++ [(g, b)], ys, q, d, pre ++ [d], rfl, Lib.hid (by rw [hl.out]; simp), Lib.hid (by rw [hpre.out]; simp), Lib.hid (fun z hz => by
            rcases List.mem_append.1 hz with hz | hz
            · exact hnf.out z hz
            · rw [List.mem_singleton] at hz
              subst hz
              exact fun h => by have := HFIT.out.1 h; omega), by simp only [List.length_cons] at hlen; omega, HB5⟩
end Go.Proofs.Ytoeofhhmkkpjbaa
