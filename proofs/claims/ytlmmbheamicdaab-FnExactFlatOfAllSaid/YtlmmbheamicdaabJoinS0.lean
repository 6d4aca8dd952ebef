/-
  The walk of the model's join of two rows of kinds. No condition.
-/
import Derived.Test.YtlmmbheamicdaabJoinP
import Derived.Test.YtlmmbheamicdaabI60
import Derived.Deep.AppendLies
import Derived.Deep.RegionLaw
import Derived.Deep.RegionWith
import Derived.IntWalk
namespace Go.Proofs.Ytlmmbheamicdaab
open Go.ChangeShapes Go.WideShapes Go.ChangeAt Go.RowKit Go.Deep

theorem keep6 {w w' : World} {base : Nat} {e : TypeId} {size n : Nat} {v : Value} {xs : List Value} (h : w.ownsRow base e size v n xs) (hb : Below w.heap.size w w') : w'.ownsRow base e size v n xs :=
  by
  obtain ⟨h1, h2⟩ := h
  refine ⟨h1, ?_⟩
  rcases h2 with h2 | ⟨g, cap, cur, hv, hg, hh, r⟩
  · exact Or.inl h2
  · exact Or.inr ⟨g, cap, cur, hv, hg, by rw [← hh]; exact hb.block g (Array.getElem?_eq_some_iff.1 hh).1, r⟩
theorem max6_any (x a : Int) (w : World) :
    Calls Try.prog 58 #[.int .i64 x, .int .i64 a] w fun e w' => e = .returned (.int .i64 (max x a)) ∧ w = w' := by
  by_cases h : a < x
  · have e : max x a = x := by omega
    rw [e]
    go_enter Try.func58, Try.ntmps58
    go_wp2_with fail
    go_ret
    exact ⟨rfl, rfl⟩
  · have e : max x a = a := by omega
    rw [e]
    go_enter Try.func58, Try.ntmps58
    go_wp2_with fail
    go_ret
    exact ⟨rfl, rfl⟩

theorem news6 (W : World) (v : Value) (t : TypeId) : ∀ (j : Nat) (u : Value), [v][j]? = some u → (W.alloc (.cells #[v] t)).cell? ((⟨W.heap.size, 0, none⟩ : Addr).add j) = some u := by
  intro j u hu
  cases j with
  | zero =>
    simp at hu
    subst hu
    simp [Addr.add]
  | succ n => simp at hu
theorem own6_ge {w : World} {base : Nat} {e : TypeId} {n : Nat} {R : Option Addr} {c k : Nat} {xs : List Value} (h : w.ownsRow base e 1 (.slice R n c) k xs) : ∀ g, (Value.slice R n c).ownBlock = some g → base ≤ g := fun g hg => (h.lt g hg).1
/-- One more number is there. -/
theorem snoc6 {W wr w1 : World} {J : List Int} {k : Nat} {m : Int} {R3 : Option Addr} {c3 g cap : Nat} {o : Obj} (HO : wr.ownsRow W.heap.size 2 1 (.slice R3 k c3) k ((J.take k).map num6)) (HB : Below W.heap.size W wr) (HT : J.take (k + 1) = J.take k ++ [m])
    (hown : w1.ownsRow W.heap.size 2 1 (.slice (some ⟨g, 0, none⟩) (k + 1) cap) (k + 1) ((J.take k).map num6 ++ [.int .i64 m])) (hgrow : (wr.alloc o).grownBy w1 (Value.slice R3 k c3).ownBlock) :
    Hid (w1.ownsRow W.heap.size 2 1 (.slice (some ⟨g, 0, none⟩) (k + 1) cap) (k + 1) ((J.take (k + 1)).map num6)) ∧ Hid (Below W.heap.size W w1) :=
  ⟨Lib.hid (by rw [HT, List.map_append]; exact hown), Lib.hid ((HB.alloc HB.size _).grown hgrow (by have := HB.size; simp; omega) (own6_ge HO))⟩

set_option maxHeartbeats 2000000 in
set_option maxRecDepth 100000 in
theorem l12Join_any (P Q : List Int) (hp : P.length ≤ 1048576) (hq : Q.length ≤ 1048576) (R R' : Option Addr) (c c' : Nat) (w : World) (h : Row6 w P R) (h' : Row6 w Q R') :
    Calls Try.prog 48 #[.slice R P.length c, .slice R' Q.length c'] w (Ans6 (join6 P Q) w) := by
  have H := Lib.hid h
  have H' := Lib.hid h'
  obtain ⟨i0, hi, hz0, hz1, hz2⟩ := info_parts infoI64
  obtain ⟨J, hJ⟩ : ∃ J, join6 P Q = J := ⟨_, rfl⟩
  have HJ := Lib.hid hJ
  have hJl : J.length = max P.length Q.length := by rw [← hJ, join6_len]
  rw [hJ]
  have HL := Lib.hid hJl
  have hJ2 : J.length ≤ 1048576 := by omega
  clear h h' hJ hJl
  go_enter Try.func48, Try.ntmps48
  go_wp2_with fail
  go_loopw [5, 6] (fun out i wr => ∃ k : Nat, k ≤ J.length ∧ i = .int .i64 k ∧ (∃ (R : Option Addr) (c : Nat), out = .slice R k c ∧ Hid (wr.ownsRow w.heap.size 2 1 (.slice R k c) k ((J.take k).map num6))) ∧ Hid (Below w.heap.size w wr)) (fun _ i _ => J.length - (intOf i).toNat)
  case atStart => exact ⟨0, Nat.zero_le _, rfl, ⟨some ⟨w.heap.size, 0, none⟩, 0, rfl, rfl, Or.inr ⟨w.heap.size, 0, #[], rfl, Nat.le_refl _, by show (w.heap.push _)[w.heap.size]? = _; simp, Nat.le_refl _, by unfold maxLen; omega, rfl, rfl⟩⟩, below1 _ _⟩
  case round =>
    obtain ⟨k, hk, rfl, ⟨R3, c3, rfl, HO⟩, HB⟩ := hrel
    by_cases hlt : k < J.length
    · have hlx := HL.out
      by_cases hkp : k < P.length
      · have hkpi : (k : Int) < (P.length : Int) := by omega
        have hkpj : ¬ (P.length : Int) ≤ (k : Int) := by omega
        obtain ⟨b, o, x, rfl, hx, hcx⟩ := (H.out.below HB.out).at_ hkp
        by_cases hkq : k < Q.length
        · have hkqi : (k : Int) < (Q.length : Int) := by omega
          have hkqj : ¬ (Q.length : Int) ≤ (k : Int) := by omega
          obtain ⟨b', o', y, rfl, hy, hcy⟩ := (H'.out.below HB.out).at_ hkq
          have HT : Hid (J.take (k + 1) = J.take k ++ [max x y]) := Lib.hid (take_step (by rw [← HJ.out]; exact join6_both P Q k x y hx hy))
          have CM := Lib.hid (fun W => max6_any x y W)
          generalize max x y = m at *
          clear hx hy hlx
          have HOd : Hid (wr.drew.ownsRow w.heap.size 2 1 (.slice R3 k c3) k ((J.take k).map num6)) := Lib.hid (keep6 HO.out (Below.refl _ _).drew)
          have HBd : Hid (Below w.heap.size w wr.drew) := Lib.hid (next6 HB.out (Below.refl _ _).drew)
          have hzz : w.heap.size ≤ wr.heap.size := HB.out.size
          go_wp2_with fail
          go_region_law
            (first
              | (refine step_append_lies _ (by rfl) _ _ _ (by rfl) w.heap.size 2 i0 _ 1 8 Try.underlying41 hi hz0 hz1 hz2 rfl (by decide) (.slice R3 k c3) k ((J.take k).map num6) (by rfl) (HOd.out.alloc _) ⟨wr.heap.size, 0, none⟩ 1 1 [.int .i64 m] (by rfl) (by rfl) (news6 _ _ _) (by simp [Value.oneCell']) (by omega) (by unfold maxLen; omega) (by omega) (by simp; omega) _ rfl ?_; intro g4 cap w4 hown4 hgrow4 hat4 hlt4; have HS := snoc6 HOd.out HBd.out HT.out hown4 hgrow4; clear hown4 hgrow4 hat4 hlt4)
              | (go_simp; go_at_call 58; (with_reducible refine (CM.out _).mono ?_); rintro e w2 ⟨rfl, rfl⟩))
          all_goals go_wp2_with fail
          all_goals go_roundw
          all_goals first
            | exact ⟨k + 1, Nat.succ_le_of_lt hlt, by go_num, ⟨some ⟨g4, 0, none⟩, cap, rfl, HS.1⟩, HS.2⟩
            | (simp [intOf]; omega)
        · have hkqi : ¬ (k : Int) < (Q.length : Int) := by omega
          have hkqj : (Q.length : Int) ≤ (k : Int) := by omega
          have HT : Hid (J.take (k + 1) = J.take k ++ [x]) := Lib.hid (take_step (by rw [← HJ.out]; exact join6_left P Q k x hx (by omega)))
          clear hx hlx
          have hzz : w.heap.size ≤ wr.heap.size := HB.out.size
          go_wp2_with (at_builtin; refine wpList_append_lies _ rfl _ _ _ rfl w.heap.size 2 i0 _ 1 8 Try.underlying41 hi hz0 hz1 hz2 rfl (by decide) (.slice R3 k c3) k ((J.take k).map num6) rfl (HO.out.alloc _) ⟨wr.heap.size, 0, none⟩ 1 1 [.int .i64 x] rfl rfl (news6 _ _ _) (by simp [Value.oneCell']) (by omega) (by unfold maxLen; omega) (by omega) (by simp; omega) _ rfl ?_; intro g4 cap w4 hown4 hgrow4 hat4 hlt4; have HS := snoc6 HO.out HB.out HT.out hown4 hgrow4; clear hown4 hgrow4 hat4 hlt4)
          go_roundw
          all_goals first
            | exact ⟨k + 1, Nat.succ_le_of_lt hlt, by go_num, ⟨some ⟨g4, 0, none⟩, cap, rfl, HS.1⟩, HS.2⟩
            | (simp [intOf]; omega)
      · have hkpi : ¬ (k : Int) < (P.length : Int) := by omega
        have hkpj : (P.length : Int) ≤ (k : Int) := by omega
        have hkq : k < Q.length := by omega
        have hkqi : (k : Int) < (Q.length : Int) := by omega
        have hkqj : ¬ (Q.length : Int) ≤ (k : Int) := by omega
        obtain ⟨b', o', y, rfl, hy, hcy⟩ := (H'.out.below HB.out).at_ hkq
        have HT : Hid (J.take (k + 1) = J.take k ++ [y]) := Lib.hid (take_step (by rw [← HJ.out]; exact join6_right P Q k y hy (by omega)))
        clear hy hlx
        have hzz : w.heap.size ≤ wr.heap.size := HB.out.size
        go_wp2_with (at_builtin; refine wpList_append_lies _ rfl _ _ _ rfl w.heap.size 2 i0 _ 1 8 Try.underlying41 hi hz0 hz1 hz2 rfl (by decide) (.slice R3 k c3) k ((J.take k).map num6) rfl (HO.out.alloc _) ⟨wr.heap.size, 0, none⟩ 1 1 [.int .i64 y] rfl rfl (news6 _ _ _) (by simp [Value.oneCell']) (by omega) (by unfold maxLen; omega) (by omega) (by simp; omega) _ rfl ?_; intro g4 cap w4 hown4 hgrow4 hat4 hlt4; have HS := snoc6 HO.out HB.out HT.out hown4 hgrow4; clear hown4 hgrow4 hat4 hlt4)
        go_roundw
        all_goals first
          | exact ⟨k + 1, Nat.succ_le_of_lt hlt, by go_num, ⟨some ⟨g4, 0, none⟩, cap, rfl, HS.1⟩, HS.2⟩
          | (simp [intOf]; omega)
    · have hlx := HL.out
      have hkpi : ¬ (k : Int) < (P.length : Int) := by omega
      have hkqi : ¬ (k : Int) < (Q.length : Int) := by omega
      have e9 : k = J.length := by omega
      clear hlx
      subst e9
      go_wp2_with fail
      go_ret
      have ho := HO.out
      rw [List.take_length] at ho
      obtain ⟨g, h1, h2, h3⟩ := Own6.of_own ho
      exact ⟨R3, c3, g, rfl, h1, h2, h3, HB.out⟩
end Go.Proofs.Ytlmmbheamicdaab
