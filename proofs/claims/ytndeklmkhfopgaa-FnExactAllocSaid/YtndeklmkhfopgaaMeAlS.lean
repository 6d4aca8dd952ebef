/-
  The walk of the model's Alloc; both sides at once.
-/
import Derived.Test.YtndeklmkhfopgaaMeAlQ
namespace Go.Proofs.Ytndeklmkhfopgaa
open Go.ChangeShapes Go.WideShapes Go.ChangeAt Go.RowKit Go.Deep

theorem has4 (g : Nat) (al : Int) (T : Bool) (hT : T = true ↔ (al = 1 ∨ al = 2 ∨ al = 4 ∨ al = 8)) (w : World) (h0 : w.cell? ⟨g, 0, none⟩ = some (.int .i64 1)) (h1 : w.cell? ⟨g, 1, none⟩ = some (.int .i64 2)) (h2 : w.cell? ⟨g, 2, none⟩ = some (.int .i64 4)) (h3 : w.cell? ⟨g, 3, none⟩ = some (.int .i64 8)) :
    Calls Try.prog 74 #[.slice (some ⟨g, 0, none⟩) 4 4, .int .i64 al] w fun e w' => e = .returned (.bool T) ∧ Below w.heap.size w w' :=
  l00Has_any [1, 2, 4, 8] (by simp) g al T (by rw [hT]; simp) w (fun i v hv => by
    match i, hv with
    | 0, hv => obtain rfl : 1 = v := by simpa using hv
               exact h0
    | 1, hv => obtain rfl : 2 = v := by simpa using hv
               exact h1
    | 2, hv => obtain rfl : 4 = v := by simpa using hv
               exact h2
    | 3, hv => obtain rfl : 8 = v := by simpa using hv
               exact h3
    | i + 4, hv => simp at hv)
theorem allocL_len {s al : Int} : ∀ {l : List Bk} {r : Int × List Bk}, allocL s al l = some r → r.2.length ≤ l.length + 1
  | [], _, h => by simp [allocL] at h
  | b :: bs, r, h => by
    rw [allocL] at h
    split at h
    · injection h with h
      subst h
      have := splitBk_len (upTo b.pos al) s b
      simp only [List.length_append, List.length_cons]
      omega
    · obtain ⟨q, hq, rfl⟩ := Option.map_eq_some_iff.1 h
      have := allocL_len hq
      simp only [List.length_cons]
      omega
set_option maxRecDepth 100000 in
set_option maxHeartbeats 2000000 in
theorem specAl_bad (x : Me) (hT : x.wt ≤ 1048576) (hfin : x.Fin) (R : Option Addr) (c : Nat) (s al : Int) (hno : memOk x = false) (lo : Nat) (w : World) (h : Me.At w lo x R) :
    Calls Try.prog 34 #[.agg #[.string x.bytes, .slice R x.free.length c], .int .i64 s, .int .i64 al] w (MeAns3 noMe 0 1 w) := by
  have CM := fun W (h : Me.At W lo x R) => specMemoryOk_any x hT hfin R c lo W h
  rw [hno] at CM
  have CM := Lib.hid CM
  have H := Lib.hid h
  clear h hno hfin hT
  go_enter Try.func34, Try.ntmps34
  go_wp2_with fail
  have F0 := Lib.hid (Fr.new w x R c)
  go_at_call 65
  refine (CM.out _ (Me.At.below H.out F0.out.hb)).mono ?_
  rintro e w1 ⟨rfl, hb1⟩
  have F1 := Lib.hid (F0.out.below hb1)
  have q0 := F1.out.q0
  have q1 := F1.out.q1
  have qf := F1.out.qf
  clear hb1
  go_wp2_with fail
  obtain ⟨s0, s1, s2⟩ := F1.out.ret (.string ⟨#[]⟩) (.slice none 0 0)
  refine bodyPost_ret (v := .tuple #[.agg #[.string ⟨#[]⟩, .slice none 0 0], .int .i64 0, .int .i64 1]) (by simp [results, Try.results34, go_sem, s0, s1]) rfl ?_
  exact ⟨none, 0, rfl, ownBk_nil _ _, s2⟩
set_option maxRecDepth 100000 in
set_option maxHeartbeats 2000000 in
theorem specAl_neg (x : Me) (hT : x.wt ≤ 1048576) (hfin : x.Fin) (R : Option Addr) (c : Nat) (s al : Int) (hok : memOk x = true) (hs : s < 0) (lo : Nat) (w : World) (h : Me.At w lo x R) :
    Calls Try.prog 34 #[.agg #[.string x.bytes, .slice R x.free.length c], .int .i64 s, .int .i64 al] w (MeAns3 noMe 0 2 w) := by
  have CM := fun W (h : Me.At W lo x R) => specMemoryOk_any x hT hfin R c lo W h
  rw [hok] at CM
  have CM := Lib.hid CM
  have H := Lib.hid h
  clear h hok hfin hT
  go_enter Try.func34, Try.ntmps34
  go_wp2_with fail
  have F0 := Lib.hid (Fr.new w x R c)
  go_at_call 65
  refine (CM.out _ (Me.At.below H.out F0.out.hb)).mono ?_
  rintro e w1 ⟨rfl, hb1⟩
  have F1 := Lib.hid (F0.out.below hb1)
  have q0 := F1.out.q0
  have q1 := F1.out.q1
  have qf := F1.out.qf
  clear hb1
  go_wp2_with fail
  obtain ⟨s0, s1, s2⟩ := F1.out.ret (.string ⟨#[]⟩) (.slice none 0 0)
  refine bodyPost_ret (v := .tuple #[.agg #[.string ⟨#[]⟩, .slice none 0 0], .int .i64 0, .int .i64 2]) (by simp [results, Try.results34, go_sem, s0, s1]) rfl ?_
  exact ⟨none, 0, rfl, ownBk_nil _ _, s2⟩
set_option maxRecDepth 100000 in
set_option maxHeartbeats 2000000 in
theorem specAl_al (x : Me) (hT : x.wt ≤ 1048576) (hfin : x.Fin) (R : Option Addr) (c : Nat) (s al : Int) (hok : memOk x = true) (hs : ¬ s < 0) (ha : ¬ (al = 1 ∨ al = 2 ∨ al = 4 ∨ al = 8)) (lo : Nat) (w : World) (h : Me.At w lo x R) :
    Calls Try.prog 34 #[.agg #[.string x.bytes, .slice R x.free.length c], .int .i64 s, .int .i64 al] w (MeAns3 noMe 0 2 w) := by
  have CM := fun W (h : Me.At W lo x R) => specMemoryOk_any x hT hfin R c lo W h
  rw [hok] at CM
  have CM := Lib.hid CM
  have H := Lib.hid h
  have HH := Lib.hid (fun g W => has4 g al false (by simp [ha]) W)
  clear h hok hfin hT ha
  go_enter Try.func34, Try.ntmps34
  go_wp2_with fail
  have F0 := Lib.hid (Fr.new w x R c)
  go_at_call 65
  refine (CM.out _ (Me.At.below H.out F0.out.hb)).mono ?_
  rintro e w1 ⟨rfl, hb1⟩
  have F1 := Lib.hid (F0.out.below hb1)
  clear hb1
  go_wp2_with fail
  go_at_call 74
  refine (HH.out _ _ (by go_simp) (by go_simp) (by go_simp) (by go_simp)).mono ?_
  rintro e w2 ⟨rfl, hb2⟩
  have F2 := Lib.hid ((F1.out.below (below1 _ _)).below hb2)
  have q0 := F2.out.q0
  have q1 := F2.out.q1
  have qf := F2.out.qf
  clear hb2
  go_wp2_with fail
  obtain ⟨s0, s1, s2⟩ := F2.out.ret (.string ⟨#[]⟩) (.slice none 0 0)
  refine bodyPost_ret (v := .tuple #[.agg #[.string ⟨#[]⟩, .slice none 0 0], .int .i64 0, .int .i64 2]) (by simp [results, Try.results34, go_sem, s0, s1]) rfl ?_
  exact ⟨none, 0, rfl, ownBk_nil _ _, s2⟩
set_option maxRecDepth 100000 in
set_option maxHeartbeats 2000000 in
theorem specAl_on (x : Me) (hT : x.wt ≤ 1048576) (hfin : x.Fin) (R : Option Addr) (c : Nat) (s al : Int) (lo : Nat) (hok : memOk x = true) (hs : ¬ s < 0) (ha : (al = 1 ∨ al = 2 ∨ al = 4 ∨ al = 8)) (r : Me) (k j : Int) (hr : ∀ W : World, Me.At W lo x R → Calls Try.prog 75 #[.agg #[.string x.bytes, .slice R x.free.length c], .int .i64 s, .int .i64 al] W (MeAns3 r k j W)) (w : World) (h : Me.At w lo x R) :
    Calls Try.prog 34 #[.agg #[.string x.bytes, .slice R x.free.length c], .int .i64 s, .int .i64 al] w (MeAns3 r k j w) := by
  have CM := fun W (h : Me.At W lo x R) => specMemoryOk_any x hT hfin R c lo W h
  rw [hok] at CM
  have CM := Lib.hid CM
  have H := Lib.hid h
  have HR := Lib.hid hr
  have HH := Lib.hid (fun g W => has4 g al true (by simp [ha]) W)
  clear h hok hfin hT ha hr
  go_enter Try.func34, Try.ntmps34
  go_wp2_with fail
  have F0 := Lib.hid (Fr.new w x R c)
  go_at_call 65
  refine (CM.out _ (Me.At.below H.out F0.out.hb)).mono ?_
  rintro e w1 ⟨rfl, hb1⟩
  have F1 := Lib.hid (F0.out.below hb1)
  clear hb1
  go_wp2_with fail
  go_at_call 74
  refine (HH.out _ _ (by go_simp) (by go_simp) (by go_simp) (by go_simp)).mono ?_
  rintro e w2 ⟨rfl, hb2⟩
  have F2 := Lib.hid ((F1.out.below (below1 _ _)).below hb2)
  have k0 := F2.out.k0
  have k1 := F2.out.k1
  clear hb2
  go_wp2_with fail
  go_at_call 75
  refine (HR.out _ (Me.At.below H.out F2.out.hb)).mono ?_
  rintro e w3 ⟨R3, c3, rfl, ho3, hb3⟩
  have HZ2 := Lib.hid F2.out.hz
  have F3 := Lib.hid (F2.out.below hb3.1)
  have HO3 := Lib.hid ho3
  have q0 := F3.out.q0
  have q1 := F3.out.q1
  have qf := F3.out.qf
  clear hb3 ho3 k0 k1
  go_wp2_with fail
  obtain ⟨s0, s1, s2⟩ := F3.out.ret (.string r.bytes) (.slice R3 r.free.length c3)
  refine bodyPost_ret (v := .tuple #[.agg #[.string r.bytes, .slice R3 r.free.length c3], .int .i64 k, .int .i64 j]) (by simp [results, Try.results34, go_sem, s0, s1]) rfl ?_
  exact ⟨R3, c3, rfl, HO3.out.ret HZ2.out _ _, s2⟩
theorem specAlloc_any (x : Me) (hT : x.wt ≤ 1048576) (hfin : x.Fin) (R : Option Addr) (c : Nat) (hcap : x.free.length ≤ c) (s : Int) (hsx : -9223372036854775808 ≤ s ∧ s ≤ 9223372036854775807) (al : Int) (lo : Nat) (w : World) (h : Me.At w lo x R) :
    Calls Try.prog 34 #[.agg #[.string x.bytes, .slice R x.free.length c], .int .i64 s, .int .i64 al] w (MeAns3 (memAlloc x s al).1 (memAlloc x s al).2.1 (memAlloc x s al).2.2 w) := by
  unfold memAlloc
  by_cases hok : memOk x = true
  · rw [if_pos hok]
    by_cases hs : s < 0
    · rw [if_pos (.inl hs)]
      exact specAl_neg x hT hfin R c s al hok hs lo w h
    · by_cases ha : (al = 1 ∨ al = 2 ∨ al = 4 ∨ al = 8)
      · rw [if_neg (fun e => e.elim hs (fun e => e ha))]
        by_cases h0 : s = 0
        · rw [if_pos h0]
          exact specAl_on x hT hfin R c s al lo hok hs ha x 0 0 (fun W hW => l10Al_zero x hT hfin R c s al hok h0 lo W hW) w h
        · rw [if_neg h0]
          exact specAl_on x hT hfin R c s al lo hok hs ha _ _ _ (fun W hW => l10Al_pos x hT hfin R c s al hok (by omega) hsx.2 (by omega) (by omega) hcap lo W hW) w h
      · rw [if_pos (.inr ha)]
        exact specAl_al x hT hfin R c s al hok hs ha lo w h
  · rw [if_neg hok]
    exact specAl_bad x hT hfin R c s al (by simpa using hok) lo w h
theorem implAlloc_any (x : Me) (hT : x.wt ≤ 1048576) (hfin : x.Fin) (R : Option Addr) (c : Nat) (s : Int) (hsx : -9223372036854775808 ≤ s ∧ s ≤ 9223372036854775807) (al : Int) (lo : Nat) (w : World) (h : Me.At w lo x R) :
    Calls Try.prog 35 #[.agg #[.string x.bytes, .slice R x.free.length c], .int .i64 s, .int .i64 al] w (MeAns3 (memAlloc x s al).1 (memAlloc x s al).2.1 (memAlloc x s al).2.2 w) := by
  unfold memAlloc
  by_cases hok : memOk x = true
  · rw [if_pos hok]
    by_cases hs : s < 0
    · rw [if_pos (.inl hs)]
      exact implAl_neg x hT hfin R c s al hok hs lo w h
    · by_cases ha : (al = 1 ∨ al = 2 ∨ al = 4 ∨ al = 8)
      · rw [if_neg (fun e => e.elim hs (fun e => e ha))]
        by_cases h0 : s = 0
        · rw [if_pos h0]
          exact implAl_zero x hT hfin R c s al hok h0 ha lo w h
        · rw [if_neg h0]
          exact implAl_yes x hT hfin R c s al hok (by omega) hsx.2 ha lo w h
      · rw [if_pos (.inr ha)]
        exact implAl_al x hT hfin R c s al hok hs ha lo w h
  · rw [if_neg hok]
    exact implAl_bad x hT hfin R c s al (by simpa using hok) lo w h
theorem pureAlloc_len (x : Me) (hT : x.wt ≤ 1048576) (_hfin : x.Fin) (s al : Int) : (memAlloc x s al).1.wt ≤ 1048576 ∧ (memAlloc x s al).1.free.length ≤ 262144 := by
  unfold memAlloc
  by_cases hok : memOk x = true
  · rw [if_pos hok]
    have h1 := memOk_len hok
    have h2 := (memOk_iff.1 hok).1
    split
    · exact noMe_wt0
    · split
      · exact ⟨hT, by show x.free.length ≤ 262144; omega⟩
      · split
        · exact noMe_wt0
        · rename_i r hr
          have h3 := allocL_len hr
          refine ⟨?_, by show r.2.length ≤ 262144; omega⟩
          show (x.bytes.size : Int) + ((r.2.length : Int) + Bk.wts r.2) ≤ 1048576
          rw [Bk.wts_zero]
          omega
  · rw [if_neg hok]
    exact noMe_wt0
end Go.Proofs.Ytndeklmkhfopgaa
