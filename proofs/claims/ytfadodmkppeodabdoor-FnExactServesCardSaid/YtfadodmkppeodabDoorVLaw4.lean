/-
  The law FnExactServes: both answer the same.
-/
import Derived.Test.YtfadodmkppeodabDoorVLaw2
import Derived.Deep.RegionHeld3
import Derived.Deep.RegionWith
import Derived.Lib.SmallJoins
namespace Go.Proofs.YtfadodmkppeodabDoor
open Go.ChangeShapes Go.WideShapes Go.ChangeAt Go.RowKit

/-- Of two numbers: does the first serve the second? -/
def Serv (M N : Int) : Prop := 0 ≤ M ∧ 0 ≤ N ∧ N ≤ M ∧ M / 1000000 = N / 1000000 ∧ (1000000 ≤ M ∨ M / 1000 = N / 1000)

theorem specServ_yes (s t : ByteArray) (hs : s.size ≤ 1048576) (ht : t.size ≤ 1048576) (h : Serv (numOf s) (numOf t)) (w : World) :
    Calls Tryd.prog 18 #[.string s, .string t] w fun e w' => e = .returned (.bool true) ∧ Below w.heap.size w w' := by
  have g1 := num_ge s
  have g2 := num_ge t
  obtain ⟨M, hM⟩ : ∃ N, numOf s = N := ⟨_, rfl⟩
  obtain ⟨N, hN⟩ : ∃ N, numOf t = N := ⟨_, rfl⟩
  have CM := sn_any s hs M hM
  have CN := sn_any t ht N hN
  rw [hM, hN] at h
  rw [hM] at g1
  rw [hN] at g2
  clear hM hN
  obtain ⟨h0, h1, h2, h3, h4⟩ := h
  have hq : (M / 1000000 != N / 1000000) = false := by rw [h3]; exact bne_self_eq_false _
  have d1 : decide (M < 0) = false := decide_eq_false (by omega)
  have d2 : decide (N < 0) = false := decide_eq_false (by omega)
  have d3 : decide (M < N) = false := decide_eq_false (by omega)
  by_cases h5 : 1000000 ≤ M
  · have d5 : decide (1000000 ≤ M) = true := decide_eq_true h5
    clear h3 h4
    go_enter Tryd.func18, Tryd.ntmps18
    go_wp2_with (first
      | (go_at_call_of 32 (Value.string s); refine (CM.out _).mono ?_; rintro e wx ⟨rfl, hbx⟩)
      | (go_at_call_of 32 (Value.string t); refine (CN.out _).mono ?_; rintro e wy ⟨rfl, hby⟩))
    go_ret
    exact ⟨rfl, bchain hbx hby hbx.size⟩
  · have hr : (M / 1000 == N / 1000) = true := beq_iff_eq.mpr (by omega)
    have d5 : decide (1000000 ≤ M) = false := decide_eq_false h5
    clear h3 h4
    go_enter Tryd.func18, Tryd.ntmps18
    go_wp2_with (first
      | (go_at_call_of 32 (Value.string s); refine (CM.out _).mono ?_; rintro e wx ⟨rfl, hbx⟩)
      | (go_at_call_of 32 (Value.string t); refine (CN.out _).mono ?_; rintro e wy ⟨rfl, hby⟩))
    go_ret
    exact ⟨rfl, bchain hbx hby hbx.size⟩

theorem specServ_no (s t : ByteArray) (hs : s.size ≤ 1048576) (ht : t.size ≤ 1048576) (h : ¬ Serv (numOf s) (numOf t)) (w : World) :
    Calls Tryd.prog 18 #[.string s, .string t] w fun e w' => e = .returned (.bool false) ∧ Below w.heap.size w w' := by
  have g1 := num_ge s
  have g2 := num_ge t
  obtain ⟨M, hM⟩ : ∃ N, numOf s = N := ⟨_, rfl⟩
  obtain ⟨N, hN⟩ : ∃ N, numOf t = N := ⟨_, rfl⟩
  have CM := sn_any s hs M hM
  have CN := sn_any t ht N hN
  rw [hM, hN] at h
  rw [hM] at g1
  rw [hN] at g2
  clear hM hN
  by_cases h0 : M < 0
  · clear h
    go_enter Tryd.func18, Tryd.ntmps18
    go_wp2_with (first
      | (go_at_call_of 32 (Value.string s); refine (CM.out _).mono ?_; rintro e wx ⟨rfl, hbx⟩)
      | (go_at_call_of 32 (Value.string t); refine (CN.out _).mono ?_; rintro e wy ⟨rfl, hby⟩))
    go_ret
    exact ⟨rfl, bchain hbx hby hbx.size⟩
  · by_cases h1 : N < 0
    · clear h
      go_enter Tryd.func18, Tryd.ntmps18
      go_wp2_with (first
        | (go_at_call_of 32 (Value.string s); refine (CM.out _).mono ?_; rintro e wx ⟨rfl, hbx⟩)
        | (go_at_call_of 32 (Value.string t); refine (CN.out _).mono ?_; rintro e wy ⟨rfl, hby⟩))
      go_ret
      exact ⟨rfl, bchain hbx hby hbx.size⟩
    · have k0 : 0 ≤ M := by omega
      have k1 : 0 ≤ N := by omega
      by_cases h2 : M < N
      · clear h
        go_enter Tryd.func18, Tryd.ntmps18
        go_wp2_with (first
          | (go_at_call_of 32 (Value.string s); refine (CM.out _).mono ?_; rintro e wx ⟨rfl, hbx⟩)
          | (go_at_call_of 32 (Value.string t); refine (CN.out _).mono ?_; rintro e wy ⟨rfl, hby⟩))
        go_ret
        exact ⟨rfl, bchain hbx hby hbx.size⟩
      · have d1 : decide (M < 0) = false := decide_eq_false h0
        have d2 : decide (N < 0) = false := decide_eq_false h1
        have d3 : decide (M < N) = false := decide_eq_false h2
        by_cases h3 : M / 1000000 = N / 1000000
        · have hq : (M / 1000000 != N / 1000000) = false := by rw [h3]; exact bne_self_eq_false _
          have h5 : ¬ 1000000 ≤ M := fun h5 => h ⟨k0, k1, by omega, h3, Or.inl h5⟩
          have hr : (M / 1000 == N / 1000) = false := beq_eq_false_iff_ne.mpr (fun h6 => h ⟨k0, k1, by omega, h3, Or.inr h6⟩)
          have d5 : decide (1000000 ≤ M) = false := decide_eq_false h5
          clear h h3
          go_enter Tryd.func18, Tryd.ntmps18
          go_wp2_with (first
            | (go_at_call_of 32 (Value.string s); refine (CM.out _).mono ?_; rintro e wx ⟨rfl, hbx⟩)
            | (go_at_call_of 32 (Value.string t); refine (CN.out _).mono ?_; rintro e wy ⟨rfl, hby⟩))
          go_ret
          exact ⟨rfl, bchain hbx hby hbx.size⟩
        · have hq : (M / 1000000 != N / 1000000) = true := by rw [bne_iff_ne]; exact h3
          clear h h3
          go_enter Tryd.func18, Tryd.ntmps18
          go_wp2_with (first
            | (go_at_call_of 32 (Value.string s); refine (CM.out _).mono ?_; rintro e wx ⟨rfl, hbx⟩)
            | (go_at_call_of 32 (Value.string t); refine (CN.out _).mono ?_; rintro e wy ⟨rfl, hby⟩))
          go_ret
          exact ⟨rfl, bchain hbx hby hbx.size⟩

theorem line_zero (b c : Int) (w : World) :
    Calls Tryd.prog 36 #[.agg #[.int .i64 0, .int .i64 b, .int .i64 c]] w fun e w' => e = .returned (.agg #[.int .i64 0, .int .i64 b, .int .i64 0]) ∧ Below w.heap.size w w' := by
  go_enter Tryd.func36, Tryd.ntmps36
  go_wp2
  refine bodyPost_ret (v := .agg #[.int .i64 0, .int .i64 b, .int .i64 0]) (by simp [results, Tryd.results36, go_sem]) rfl ⟨rfl, ?_⟩
  first | exact below1 _ _ | exact below2 _ _ _ | exact (below2 _ _ _).setCell (by omega) _

/-- The second number of a version's line. -/
def lineQ (a b : Int) : Int := if a = 0 then b else 0
theorem line_any (a b c : Int) (h0 : 0 ≤ a) (w : World) :
    Calls Tryd.prog 36 #[.agg #[.int .i64 a, .int .i64 b, .int .i64 c]] w fun e w' => e = .returned (.agg #[.int .i64 a, .int .i64 (lineQ a b), .int .i64 0]) ∧ Below w.heap.size w w' := by
  unfold lineQ
  by_cases h : a = 0
  · subst h
    rw [if_pos rfl]
    exact line_zero b c w
  · rw [if_neg h]
    exact line_more a b c (by omega) w

/-- What Serves' region keeps: two versions' numbers, in two blocks. -/
def T6 (a b c d e f : Int) (r q : Nat) (w0 w' : World) : Prop := w'.cell? ⟨r, 0, none⟩ = some (.int .i64 a) ∧ w'.cell? ⟨r, 1, none⟩ = some (.int .i64 b) ∧ w'.cell? ⟨r, 2, none⟩ = some (.int .i64 c) ∧ w'.cell? ⟨q, 0, none⟩ = some (.int .i64 d) ∧ w'.cell? ⟨q, 1, none⟩ = some (.int .i64 e) ∧ w'.cell? ⟨q, 2, none⟩ = some (.int .i64 f) ∧ Below w0.heap.size w0 w'
theorem T6.drew {a b c d e f : Int} {r q : Nat} {w0 w' : World} (h : T6 a b c d e f r q w0 w') : T6 a b c d e f r q w0 w'.drew := ⟨h.1, h.2.1, h.2.2.1, h.2.2.2.1, h.2.2.2.2.1, h.2.2.2.2.2.1, h.2.2.2.2.2.2.drew⟩
theorem T6.keep {a b c d e f : Int} {r q : Nat} {w0 w' w2 : World} (h : T6 a b c d e f r q w0 w') (hb : Below w'.heap.size w' w2) : T6 a b c d e f r q w0 w2 :=
  ⟨keepCell hb h.1, keepCell hb h.2.1, keepCell hb h.2.2.1, keepCell hb h.2.2.2.1, keepCell hb h.2.2.2.2.1, keepCell hb h.2.2.2.2.2.1, bchain h.2.2.2.2.2.2 hb h.2.2.2.2.2.2.size⟩

theorem ownDrewN {B : Nat} {a w : World} (h : Below B a w) (n : Nat) : Below B a (w.drewN n) := ⟨h.os, h.tape, h.output, h.size, h.block⟩

theorem T6.make {a b c d e f : Int} {w wx wy : World} (hbx : Below w.heap.size w wx) (hby : Below (wx.alloc (.cells #[.int .i64 a, .int .i64 b, .int .i64 c] 43)).heap.size (wx.alloc (.cells #[.int .i64 a, .int .i64 b, .int .i64 c] 43)) wy) :
    T6 a b c d e f wx.heap.size wy.heap.size w (wy.alloc (.cells #[.int .i64 d, .int .i64 e, .int .i64 f] 43)) := by
  have hb1 := bchain (hbx.alloc hbx.size _) hby (hbx.alloc hbx.size _).size
  exact ⟨keepCell (below1 _ _) (keepCell hby (by simp)), keepCell (below1 _ _) (keepCell hby (by simp)), keepCell (below1 _ _) (keepCell hby (by simp)), by simp, by simp, by simp, hb1.alloc hb1.size _⟩

theorem serv_line (x y z x' y' z' : Int) (x0 : 0 ≤ x) (_x1 : x < 1000) (y0 : 0 ≤ y) (y1 : y < 1000) (z0 : 0 ≤ z) (z1 : z < 1000) (x0' : 0 ≤ x') (_x1' : x' < 1000) (y0' : 0 ≤ y') (y1' : y' < 1000) (z0' : 0 ≤ z') (z1' : z' < 1000) :
    Serv (x * 1000000 + y * 1000 + z) (x' * 1000000 + y' * 1000 + z') ↔ (x = x' ∧ lineQ x y = lineQ x' y' ∧ cmpI (x' * 1000000 + y' * 1000 + z') (x * 1000000 + y * 1000 + z) ≤ 0) := by
  unfold Serv lineQ cmpI
  constructor
  · rintro ⟨h0, h1, h2, h3, h4⟩
    have hx : x = x' := by omega
    subst hx
    refine ⟨rfl, ?_, ?_⟩
    · split <;> omega
    · split
      · omega
      · rw [if_neg (by omega)]
        omega
  · rintro ⟨h0, h1, h2⟩
    subst h0
    refine ⟨by omega, by omega, ?_, by omega, ?_⟩
    · split at h2
      · omega
      · split at h2
        · omega
        · omega
    · split at h1
      · omega
      · omega

set_option maxHeartbeats 4000000 in
theorem implServ_any (s t : ByteArray) (hs : s.size ≤ 1048576) (ht : t.size ≤ 1048576) (v : Bool) (hv : v = true ↔ Serv (numOf s) (numOf t)) (w : World) (hm : MaxC w) :
    Calls Tryd.prog 19 #[.string s, .string t] w fun e w' => e = .returned (.bool v) ∧ Below w.heap.size w w' := by
  obtain ⟨x, y, z, ok, x0, x1, y0, y1, z0, z1, h1, h2, C⟩ := rv_any s hs
  obtain ⟨x', y', z', ok', x0', x1', y0', y1', z0', z1', h1', h2', C'⟩ := rv_any t ht
  have CL : Hid (∀ W : World, Calls Tryd.prog 36 #[.agg #[.int .i64 x, .int .i64 y, .int .i64 z]] W fun e w' => e = .returned (.agg #[.int .i64 x, .int .i64 (lineQ x y), .int .i64 0]) ∧ Below W.heap.size W w') := Lib.hid (fun W => line_any x y z x0 W)
  have CL' : Hid (∀ W : World, Calls Tryd.prog 36 #[.agg #[.int .i64 x', .int .i64 y', .int .i64 z']] W fun e w' => e = .returned (.agg #[.int .i64 x', .int .i64 (lineQ x' y'), .int .i64 0]) ∧ Below W.heap.size W w') := Lib.hid (fun W => line_any x' y' z' x0' W)
  have CC : Hid (∀ W : World, Calls Tryd.prog 35 #[.int .i64 1, .agg #[.int .i64 x', .int .i64 y', .int .i64 z'], .agg #[.int .i64 x, .int .i64 y, .int .i64 z]] W fun ed w' => ed = .returned (.int .i64 (cmpI (x' * 1000000 + y' * 1000 + z') (x * 1000000 + y * 1000 + z))) ∧ Below W.heap.size W w') := Lib.hid (fun W => by
    have := compare_any 1 x' y' z' x y z (by omega) (by omega) x0' x1' y0' y1' z0' z1' x0 x1 y0 y1 z0 z1 W
    rw [Int.one_mul] at this
    exact this)
  have hsl := serv_line x y z x' y' z' x0 x1 y0 y1 z0 z1 x0' x1' y0' y1' z0' z1'
  have HM := Lib.hid hm
  clear hm
  cases ok with
  | false =>
    have hv0 : v = false := by
      rw [Bool.eq_false_iff]
      intro h
      have h3 := (hv.mp h).1
      rw [(h2 rfl).1] at h3
      omega
    subst hv0
    clear h1 h2 h1' h2' x0 x1 y0 y1 z0 z1 x0' x1' y0' y1' z0' z1' hv hsl
    go_enter Tryd.func19, Tryd.ntmps19
    go_wp2_with (first
      | (go_at_call_of 33 (Value.string s); refine (C.out _ HM.out).mono ?_; rintro e wx ⟨rfl, hbx⟩)
      | (go_at_call_of 33 (Value.string t); refine (C'.out _ (HM.out.keep (hbx.alloc hbx.size _))).mono ?_; rintro e wy ⟨rfl, hby⟩))
    have hS : T6 x y z x' y' z' wx.heap.size wy.heap.size w (wy.alloc (.cells #[.int .i64 x', .int .i64 y', .int .i64 z'] 43)) := T6.make hbx hby
    clear hbx hby
    go_quiet (fail)
    all_goals
      go_wp2_with fail
      go_ret
      first
        | exact ⟨rfl, hSv.2.2.2.2.2.2⟩
        | exact ⟨rfl, hSv.drew.2.2.2.2.2.2⟩
        | exact ⟨rfl, hS.drew.2.2.2.2.2.2⟩
        | exact ⟨rfl, ownDrewN hS.2.2.2.2.2.2 _⟩
  | true =>
    cases ok' with
    | false =>
      have hv0 : v = false := by
        rw [Bool.eq_false_iff]
        intro h
        have h3 := (hv.mp h).2.1
        rw [(h2' rfl).1] at h3
        omega
      subst hv0
      clear h1 h2 h1' h2' x0 x1 y0 y1 z0 z1 x0' x1' y0' y1' z0' z1' hv hsl
      go_enter Tryd.func19, Tryd.ntmps19
      go_wp2_with (first
        | (go_at_call_of 33 (Value.string s); refine (C.out _ HM.out).mono ?_; rintro e wx ⟨rfl, hbx⟩)
        | (go_at_call_of 33 (Value.string t); refine (C'.out _ (HM.out.keep (hbx.alloc hbx.size _))).mono ?_; rintro e wy ⟨rfl, hby⟩))
      have hS : T6 x y z x' y' z' wx.heap.size wy.heap.size w (wy.alloc (.cells #[.int .i64 x', .int .i64 y', .int .i64 z'] 43)) := T6.make hbx hby
      clear hbx hby
      go_quiet (fail)
      all_goals
        go_wp2_with fail
        go_ret
        first
          | exact ⟨rfl, hSv.2.2.2.2.2.2⟩
          | exact ⟨rfl, hSv.drew.2.2.2.2.2.2⟩
          | exact ⟨rfl, hS.drew.2.2.2.2.2.2⟩
          | exact ⟨rfl, ownDrewN hS.2.2.2.2.2.2 _⟩
    | true =>
      rw [h1 rfl, h1' rfl, hsl] at hv
      clear h1 h2 h1' h2' x0 x1 y0 y1 z0 z1 x0' x1' y0' y1' z0' z1' hsl
      generalize lineQ x y = p at *
      generalize lineQ x' y' = p' at *
      generalize cmpI (x' * 1000000 + y' * 1000 + z') (x * 1000000 + y * 1000 + z) = k at *
      by_cases hx : x = x'
      · have hxb : (x == x') = true := beq_iff_eq.mpr hx
        by_cases hp : p = p'
        · have hpb : (p == p') = true := beq_iff_eq.mpr hp
          by_cases hk : k ≤ 0
          · have hv1 : v = true := hv.mpr ⟨hx, hp, hk⟩
            subst hv1
            clear hx hp hv
            go_enter Tryd.func19, Tryd.ntmps19
            go_wp2_with (first
              | (go_at_call_of 33 (Value.string s); refine (C.out _ HM.out).mono ?_; rintro e wx ⟨rfl, hbx⟩)
              | (go_at_call_of 33 (Value.string t); refine (C'.out _ (HM.out.keep (hbx.alloc hbx.size _))).mono ?_; rintro e wy ⟨rfl, hby⟩))
            have hS : T6 x y z x' y' z' wx.heap.size wy.heap.size w (wy.alloc (.cells #[.int .i64 x', .int .i64 y', .int .i64 z'] 43)) := T6.make hbx hby
            clear hbx hby
            go_region_held3 (fun w' => w'.cell? ⟨wx.heap.size, 0, none⟩ = some (.int .i64 x) ∧ w'.cell? ⟨wx.heap.size, 1, none⟩ = some (.int .i64 y) ∧ w'.cell? ⟨wx.heap.size, 2, none⟩ = some (.int .i64 z) ∧ w'.cell? ⟨wy.heap.size, 0, none⟩ = some (.int .i64 x') ∧ w'.cell? ⟨wy.heap.size, 1, none⟩ = some (.int .i64 y') ∧ w'.cell? ⟨wy.heap.size, 2, none⟩ = some (.int .i64 z') ∧ Below w.heap.size w w')
              (first | (exact T6.drew hS) | (exact hS) | (exact hSv) | (exact T6.drew hSv) | (apply T6.drew; assumption) | assumption)
              (first
                | (go_at_call_of 36 (Value.agg #[.int .i64 x, .int .i64 y, .int .i64 z]); refine (CL.out _).mono ?_; rintro ed wv ⟨rfl, hbv⟩; have hSv := T6.keep (by first | exact T6.drew hSv | exact hSv | exact hS | exact hS.drew) hbv)
                | (go_at_call_of 36 (Value.agg #[.int .i64 x', .int .i64 y', .int .i64 z']); refine (CL'.out _).mono ?_; rintro ed wv ⟨rfl, hbv⟩; have hSv := T6.keep (by first | exact T6.drew hSv | exact hSv | exact hS | exact hS.drew) hbv)
                | (go_at_call 35; refine (CC.out _).mono ?_; rintro ed wv ⟨rfl, hbv⟩; have hSv := T6.keep (by first | exact T6.drew hSv | exact hSv | exact hS | exact hS.drew) hbv))
            all_goals
              go_wp2_with fail
              go_ret
              first
                | exact ⟨rfl, hSv.2.2.2.2.2.2⟩
                | exact ⟨rfl, hSv.drew.2.2.2.2.2.2⟩
                | exact ⟨rfl, hS.drew.2.2.2.2.2.2⟩
                | exact ⟨rfl, ownDrewN hS.2.2.2.2.2.2 _⟩
          · have hkd : decide (k ≤ 0) = false := decide_eq_false hk
            have hv0 : v = false := by
              rw [Bool.eq_false_iff]
              intro h
              exact hk (hv.mp h).2.2
            subst hv0
            clear hx hp hv
            go_enter Tryd.func19, Tryd.ntmps19
            go_wp2_with (first
              | (go_at_call_of 33 (Value.string s); refine (C.out _ HM.out).mono ?_; rintro e wx ⟨rfl, hbx⟩)
              | (go_at_call_of 33 (Value.string t); refine (C'.out _ (HM.out.keep (hbx.alloc hbx.size _))).mono ?_; rintro e wy ⟨rfl, hby⟩))
            have hS : T6 x y z x' y' z' wx.heap.size wy.heap.size w (wy.alloc (.cells #[.int .i64 x', .int .i64 y', .int .i64 z'] 43)) := T6.make hbx hby
            clear hbx hby
            go_region_held3 (fun w' => w'.cell? ⟨wx.heap.size, 0, none⟩ = some (.int .i64 x) ∧ w'.cell? ⟨wx.heap.size, 1, none⟩ = some (.int .i64 y) ∧ w'.cell? ⟨wx.heap.size, 2, none⟩ = some (.int .i64 z) ∧ w'.cell? ⟨wy.heap.size, 0, none⟩ = some (.int .i64 x') ∧ w'.cell? ⟨wy.heap.size, 1, none⟩ = some (.int .i64 y') ∧ w'.cell? ⟨wy.heap.size, 2, none⟩ = some (.int .i64 z') ∧ Below w.heap.size w w')
              (first | (exact T6.drew hS) | (exact hS) | (exact hSv) | (exact T6.drew hSv) | (apply T6.drew; assumption) | assumption)
              (first
                | (go_at_call_of 36 (Value.agg #[.int .i64 x, .int .i64 y, .int .i64 z]); refine (CL.out _).mono ?_; rintro ed wv ⟨rfl, hbv⟩; have hSv := T6.keep (by first | exact T6.drew hSv | exact hSv | exact hS | exact hS.drew) hbv)
                | (go_at_call_of 36 (Value.agg #[.int .i64 x', .int .i64 y', .int .i64 z']); refine (CL'.out _).mono ?_; rintro ed wv ⟨rfl, hbv⟩; have hSv := T6.keep (by first | exact T6.drew hSv | exact hSv | exact hS | exact hS.drew) hbv)
                | (go_at_call 35; refine (CC.out _).mono ?_; rintro ed wv ⟨rfl, hbv⟩; have hSv := T6.keep (by first | exact T6.drew hSv | exact hSv | exact hS | exact hS.drew) hbv))
            all_goals
              go_wp2_with fail
              go_ret
              first
                | exact ⟨rfl, hSv.2.2.2.2.2.2⟩
                | exact ⟨rfl, hSv.drew.2.2.2.2.2.2⟩
                | exact ⟨rfl, hS.drew.2.2.2.2.2.2⟩
                | exact ⟨rfl, ownDrewN hS.2.2.2.2.2.2 _⟩
        · have hv0 : v = false := by
            rw [Bool.eq_false_iff]
            intro h
            exact hp (hv.mp h).2.1
          subst hv0
          clear hx hv
          go_enter Tryd.func19, Tryd.ntmps19
          go_wp2_with (first
            | (go_at_call_of 33 (Value.string s); refine (C.out _ HM.out).mono ?_; rintro e wx ⟨rfl, hbx⟩)
            | (go_at_call_of 33 (Value.string t); refine (C'.out _ (HM.out.keep (hbx.alloc hbx.size _))).mono ?_; rintro e wy ⟨rfl, hby⟩))
          have hS : T6 x y z x' y' z' wx.heap.size wy.heap.size w (wy.alloc (.cells #[.int .i64 x', .int .i64 y', .int .i64 z'] 43)) := T6.make hbx hby
          clear hbx hby
          obtain ⟨q0, q1, q2, q3, q4, q5, qB⟩ := id hS
          go_region_with
            (first
              | (go_at_call_of 36 (Value.agg #[.int .i64 x, .int .i64 y, .int .i64 z]); refine (CL.out _).mono ?_; rintro ed wv ⟨rfl, hbv⟩; have hSv := T6.keep (by first | exact T6.drew hSv | exact hSv | exact hS | exact hS.drew) hbv; obtain ⟨q0, q1, q2, q3, q4, q5, qB⟩ := id hSv)
              | (go_at_call_of 36 (Value.agg #[.int .i64 x', .int .i64 y', .int .i64 z']); refine (CL'.out _).mono ?_; rintro ed wv ⟨rfl, hbv⟩; have hSv := T6.keep (by first | exact T6.drew hSv | exact hSv | exact hS | exact hS.drew) hbv; obtain ⟨q0, q1, q2, q3, q4, q5, qB⟩ := id hSv)
              | (go_at_call 35; refine (CC.out _).mono ?_; rintro ed wv ⟨rfl, hbv⟩; have hSv := T6.keep (by first | exact T6.drew hSv | exact hSv | exact hS | exact hS.drew) hbv; obtain ⟨q0, q1, q2, q3, q4, q5, qB⟩ := id hSv))
          all_goals
            go_wp2_with fail
            go_ret
            first
              | exact ⟨rfl, hSv.2.2.2.2.2.2⟩
              | exact ⟨rfl, hSv.drew.2.2.2.2.2.2⟩
              | exact ⟨rfl, hS.drew.2.2.2.2.2.2⟩
              | exact ⟨rfl, ownDrewN hS.2.2.2.2.2.2 _⟩
      · have hv0 : v = false := by
          rw [Bool.eq_false_iff]
          intro h
          exact hx (hv.mp h).1
        subst hv0
        clear hv
        go_enter Tryd.func19, Tryd.ntmps19
        go_wp2_with (first
          | (go_at_call_of 33 (Value.string s); refine (C.out _ HM.out).mono ?_; rintro e wx ⟨rfl, hbx⟩)
          | (go_at_call_of 33 (Value.string t); refine (C'.out _ (HM.out.keep (hbx.alloc hbx.size _))).mono ?_; rintro e wy ⟨rfl, hby⟩))
        have hS : T6 x y z x' y' z' wx.heap.size wy.heap.size w (wy.alloc (.cells #[.int .i64 x', .int .i64 y', .int .i64 z'] 43)) := T6.make hbx hby
        clear hbx hby
        obtain ⟨q0, q1, q2, q3, q4, q5, qB⟩ := id hS
        go_region_with
          (first
            | (go_at_call_of 36 (Value.agg #[.int .i64 x, .int .i64 y, .int .i64 z]); refine (CL.out _).mono ?_; rintro ed wv ⟨rfl, hbv⟩; have hSv := T6.keep (by first | exact T6.drew hSv | exact hSv | exact hS | exact hS.drew) hbv; obtain ⟨q0, q1, q2, q3, q4, q5, qB⟩ := id hSv)
            | (go_at_call_of 36 (Value.agg #[.int .i64 x', .int .i64 y', .int .i64 z']); refine (CL'.out _).mono ?_; rintro ed wv ⟨rfl, hbv⟩; have hSv := T6.keep (by first | exact T6.drew hSv | exact hSv | exact hS | exact hS.drew) hbv; obtain ⟨q0, q1, q2, q3, q4, q5, qB⟩ := id hSv)
            | (go_at_call 35; refine (CC.out _).mono ?_; rintro ed wv ⟨rfl, hbv⟩; have hSv := T6.keep (by first | exact T6.drew hSv | exact hSv | exact hS | exact hS.drew) hbv; obtain ⟨q0, q1, q2, q3, q4, q5, qB⟩ := id hSv))
        all_goals
          go_wp2_with fail
          go_ret
          first
            | exact ⟨rfl, hSv.2.2.2.2.2.2⟩
            | exact ⟨rfl, hSv.drew.2.2.2.2.2.2⟩
            | exact ⟨rfl, hS.drew.2.2.2.2.2.2⟩
            | exact ⟨rfl, ownDrewN hS.2.2.2.2.2.2 _⟩
end Go.Proofs.YtfadodmkppeodabDoor
