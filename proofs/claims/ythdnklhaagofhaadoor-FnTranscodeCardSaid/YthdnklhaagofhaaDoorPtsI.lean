/-
  The walks of both PointsOf; the decoder's tables are a hypothesis on the world.
-/
import Derived.Test.YthdnklhaagofhaaDoorPts
import Derived.Test.YthdnklhaagofhaaDoorUtfTabs
import Derived.Lib.OthersKept
import Derived.Deep.LoopGhost
namespace Go.Proofs.YthdnklhaagofhaaDoor
open Go.ChangeShapes Go.WideShapes Go.ChangeAt Go.RowKit Go.Deep

theorem cellIter7 {w : World} {k pos : Nat} {s : ByteArray} (hk : w.heap[k]? = some (.stringIter s pos)) (s2 : ByteArray) (p : Nat) {a : Addr} {v : Value} (h : w.cell? a = some v) : (w.iterAt k s2 p).cell? a = some v := by
  by_cases he : a.block = k
  · simp [World.cell?, he, hk] at h
  · rw [← h]
    simp only [World.cell?, Lib.iterAt_other w k a.block s2 p he]
theorem OwnL.iter {e : TypeId} {f : Int → Value} {w : World} {base k pos : Nat} {s : ByteArray} {xs : List Int} {R : Option Addr} {n c : Nat} (h : OwnL e f w base xs R n c) (hk : w.heap[k]? = some (.stringIter s pos)) (s2 : ByteArray) (p : Nat) : OwnL e f (w.iterAt k s2 p) base xs R n c := by
  obtain ⟨h0, h1, h2⟩ := h
  refine ⟨h0, h1, ?_⟩
  rcases h2 with h2 | ⟨g, cap, cur, hv, hg, hh, r⟩
  · exact Or.inl h2
  · refine Or.inr ⟨g, cap, cur, hv, hg, ?_, r⟩
    rw [Lib.iterAt_other w k g s2 p (by
      intro e
      rw [e, hk] at hh
      cases hh)]
    exact hh
theorem heapKeep7 {w w' : World} {k : Nat} {o : Obj} (hb : Below w.heap.size w w') (h : w.heap[k]? = some o) : w'.heap[k]? = some o := by
  rw [← h]
  exact hb.block k (Array.getElem?_eq_some_iff.1 h).1
theorem OwnL.snoc_keep {R3 : Option Addr} {W wr w1 : World} {n c3 K pos : Nat} {s : ByteArray} {o : Obj} {e : TypeId} {f : Int → Value} {xs : List Int} (HO : OwnL e f wr W.heap.size xs R3 n c3) (hgrow : (wr.alloc o).grownBy w1 (Value.slice R3 n c3).ownBlock) (hk : wr.heap[K]? = some (.stringIter s pos)) : w1.heap[K]? = some (.stringIter s pos) := by
  have hlt : K < wr.heap.size := (Array.getElem?_eq_some_iff.1 hk).1
  rw [hgrow.block K (by simp; omega) ?_]
  · exact ((below1 wr o).block K hlt).trans hk
  · intro he
    obtain ⟨h0, h1, h2⟩ := HO
    rcases h2 with h2 | ⟨g, cap, cur, hv, hg, hh, r⟩
    · rw [h2.1] at he
      cases he
    · injection hv with hv1 hv2 hv3
      subst hv1
      cases he
      rw [hk] at hh
      cases hh

set_option maxRecDepth 100000 in
set_option maxHeartbeats 2000000 in
theorem implPts_any (s : ByteArray) (w : World) (hsz : s.size ≤ 1048576) (hT : Tabs w) :
    Calls Tryd.prog 29 #[.string s] w (PtsPost (decide (s.size ≤ 24) && Lib.validD s.data.toList) (ptsD s.size s.data.toList) w) := by
  by_cases hok : s.size ≤ 24 ∧ Lib.validD s.data.toList = true
  · have hd : (decide (s.size ≤ 24) && Lib.validD s.data.toList) = true := by simp [hok.1, hok.2]
    rw [hd]
    obtain ⟨i0, hi0, hz0, hz1, hz2⟩ := info_parts infoI64
    have C := implTextOk_short s hok.1 w hT
    rw [hok.2] at C
    have C := Lib.hid C
    obtain ⟨P, hP⟩ : ∃ P, ptsD s.size s.data.toList = P := ⟨_, rfl⟩
    rw [hP]
    have HP0 : Hid (([] : List Int) ++ ptsD s.size (s.data.toList.drop 0) = P) := Lib.hid hP
    have h24 := hok.1
    clear hok hd hP hT hsz
    go_enter Tryd.func29, Tryd.ntmps29
    go_wp2_with fail
    go_at_call 65
    refine C.out.mono ?_
    rintro e W0 ⟨rfl, hb0⟩
    have HB0 := Lib.hid hb0
    have hw0 := hb0.size
    clear hb0 C
    go_wp2_with fail
    go_loopg [4] s.size (fun gf v wz => ∃ (pos : Nat) (xs : List Int) (n : Nat), Hid (wz.heap[W0.heap.size]? = some (.stringIter s pos)) ∧ (∃ (R : Option Addr) (c : Nat), v = .slice R n c ∧ Hid (OwnL 2 num6 wz w.heap.size xs R n c)) ∧ pos ≤ s.size ∧ s.size ≤ pos + gf ∧ n ≤ pos ∧ Hid (xs ++ ptsD gf (s.data.toList.drop pos) = P) ∧ Hid (Below w.heap.size w wz))
    case atStart => exact ⟨0, [], 0, World.iter_heap W0 s 0, ⟨none, 0, rfl, rfl, World.ownsRow_nil _ _ _ _⟩, by omega, by omega, by omega, HP0, next6 HB0.out (below1 _ _)⟩
    case round =>
      obtain ⟨pos, xs, n, hit, ⟨R3, c3, rfl, HO⟩, hps, hfu, hnp, hPk, HB⟩ := hrel
      clear HP0 HB0
      by_cases hlt : pos < s.size
      · obtain ⟨g', rfl⟩ : ∃ g', gk = g' + 1 := ⟨gk - 1, by omega⟩
        have hne : s.data.toList.drop pos ≠ [] := by
          intro e
          have h0 : (s.data.toList.drop pos).length = 0 := by rw [e]; rfl
          rw [List.length_drop, size_list] at h0
          omega
        have hpt := hPk.out
        rw [ptsD_step g' hne, List.drop_drop] at hpt
        have hd1 := Lib.decodeL_drop s pos
        have hd2 := Lib.decodeL_width (s.data.toList.drop pos)
        have hd3 := Lib.decodeL_le (s.data.toList.drop pos) hne
        have hd4 := Lib.decodeL_rune (s.data.toList.drop pos)
        rw [List.length_drop, size_list] at hd3
        have hnx : ∀ ty, (Instr.next (.pointer (some ⟨W0.heap.size, 0, none⟩)) true ty).run Tryd.prog wr = _ := fun ty => Lib.run_next_any_at wr W0.heap.size s pos ty hit.out hlt
        rw [← hd1] at hnx
        generalize (Lib.decodeL (s.data.toList.drop pos)).1 = a at *
        generalize (Lib.decodeL (s.data.toList.drop pos)).2 = m at *
        have HPT : Hid ((xs ++ [(a : Int)]) ++ ptsD g' (s.data.toList.drop (pos + m)) = P) := Lib.hid (by rw [List.append_assoc]; exact hpt)
        have HOI := Lib.hid (HO.out.iter hit.out s (pos + m))
        have HTI := Lib.hid (Lib.iterAt_heap wr W0.heap.size s pos (pos + m) hit.out)
        have HBI := Lib.hid (Lib.below_iterAt HB.out hw0 s (pos + m))
        clear hpt hd1 hne hPk HO HB hit
        generalize wr.iterAt W0.heap.size s (pos + m) = wi at *
        have hzi : w.heap.size ≤ wi.heap.size := HBI.out.size
        have ha0 : (0 : Int) ≤ (a : Int) := by omega
        have ha1 : (a : Int) ≤ 1114111 := by omega
        go_wp2_with (at_builtin; refine wpList_append_lies _ rfl _ _ _ rfl w.heap.size 2 i0 _ 1 8 Tryd.underlying56 hi0 hz0 hz1 hz2 rfl (by decide) (.slice R3 n c3) n (xs.map num6) rfl (HOI.out.2.alloc _) ⟨wi.heap.size, 0, none⟩ 1 1 [.int .i64 (a : Int)] rfl rfl (news7 _ _ _) (by simp [Value.oneCell']) (by omega) (by unfold maxLen; omega) (by omega) (by simp; omega) _ rfl ?_; intro g4 cap w4 hown4 hgrow4 hat4 hlt4; have HS4 := Lib.hid (HOI.out.snoc HBI.out hown4 hgrow4); have HT4 := Lib.hid (HOI.out.snoc_keep hgrow4 HTI.out); clear hown4 hgrow4 hat4 hlt4 HOI HBI)
        go_roundg g'
        case measure => omega
        case rel => exact ⟨pos + m, xs ++ [(a : Int)], n + 1, HT4, ⟨_, _, rfl, HS4.out.1⟩, by omega, by omega, by omega, HPT, HS4.out.2⟩
      · have hnx : ∀ ty, (Instr.next (.pointer (some ⟨W0.heap.size, 0, none⟩)) true ty).run Tryd.prog wr = _ := fun ty => Lib.run_next_end_at wr W0.heap.size s pos ty hit.out hlt
        have hPt : P = xs := by
          have h1 := hPk.out
          rw [List.drop_eq_nil_of_le (by rw [size_list]; omega), ptsD_nil, List.append_nil] at h1
          exact h1.symm
        subst hPt
        clear hPk hit
        go_wp2_with fail
        go_ret2
        obtain ⟨rfl, g, h1, h2, h3⟩ := HO.out.own6
        exact ⟨fun _ => ⟨_, _, g, rfl, h1, h2, h3, HB.out⟩, fun h => by cases h⟩
  · have hd : (decide (s.size ≤ 24) && Lib.validD s.data.toList) = false := by
      rw [Bool.eq_false_iff]
      intro h
      simp at h
      exact hok h
    rw [hd]
    have C : Calls Tryd.prog 65 #[.string s] w fun e w' => e = .returned (.bool false) ∧ Below w.heap.size w w' := by
      by_cases h : s.size ≤ 24
      · have C := implTextOk_short s h w hT
        rw [show Lib.validD s.data.toList = false by
          rw [Bool.eq_false_iff]
          intro h2
          exact hok ⟨h, h2⟩] at C
        exact C
      · exact implTextOk_long s (by omega) hsz w
    have C := Lib.hid C
    clear hok hd hT
    go_enter Tryd.func29, Tryd.ntmps29
    go_wp2_with fail
    go_at_call 65
    refine C.out.mono ?_
    rintro e W0 ⟨rfl, hb0⟩
    have HB0 := Lib.hid hb0
    clear hb0
    go_wp2_with fail
    go_ret2
    exact ⟨(fun h => by cases h), fun _ => ⟨none, 0, rfl, HB0.out⟩⟩
end Go.Proofs.YthdnklhaagofhaaDoor
