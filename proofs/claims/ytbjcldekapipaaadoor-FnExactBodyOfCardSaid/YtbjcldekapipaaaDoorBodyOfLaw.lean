/-
  The walk of the law FnExactBodyOf.
-/
import Derived.Test.YtbjcldekapipaaaDoorMBd
import Derived.Test.YtbjcldekapipaaaDoorStWSIn
namespace Go.Proofs.YtbjcldekapipaaaDoor
open Go.ChangeShapes Go.WideShapes Go.ChangeAt Go.RowKit Go.Deep

theorem bodyTo_inj {s : ByteArray} {xs ys : List In} (hz : s.size ≤ 1048576) (h : IsBody s xs) (h' : IsBody s ys) : xs = ys := by
  have P : ∀ k, k ≤ xs.length → xs.length = ys.length → xs.take k = ys.take k ∧ insCat (xs.drop k) = insCat (ys.drop k) := by
    intro k
    induction k with
    | zero =>
      intro _ hl
      refine ⟨rfl, ?_⟩
      have e1 := h.head
      have e2 := h'.head
      have e3 := app_right (strOfNums (lebU xs.length)) (insCat xs)
      have e4 := app_right (strOfNums (lebU ys.length)) (insCat ys)
      rw [← e1] at e3
      rw [← e2, ← hl] at e4
      rw [List.drop_zero, List.drop_zero, ← e3, ← e4]
    | succ k ih =>
      intro hk hl
      obtain ⟨i1, i2⟩ := ih (by omega) hl
      have hx := List.getElem?_eq_getElem (show k < xs.length by omega)
      have hy := List.getElem?_eq_getElem (show k < ys.length by omega)
      have j1 := IsBody.at_ h.1 hx
      have j2 := IsBody.at_ h'.1 hy
      rw [i2] at j1
      have hsz : (insCat (ys.drop k)).size ≤ 1048576 := by
        have e := h'.head
        have := insCat_size (ys.drop k) (by
          rw [List.all_eq_true]
          intro z hz
          exact List.all_eq_true.mp (bodyV_parts h'.1).2 z (List.mem_of_mem_drop hz))
        have h120 := (bodyV_parts h'.1).1
        rw [List.length_drop] at this
        omega
      obtain ⟨f1, f2, f3⟩ := isIns_uniq hsz j1 j2
      refine ⟨?_, f3⟩
      rw [List.take_succ_eq_append_getElem (by omega), List.take_succ_eq_append_getElem (by omega), i1]
      congr 2
      cases hxe : xs[k] with
      | mk a b =>
        cases hye : ys[k] with
        | mk c d =>
          rw [hxe] at f1 f2
          rw [hye] at f1 f2
          simp only at f1 f2
          rw [f1, f2]
  have hl : xs.length = ys.length := by
    obtain ⟨x, m, ok, _, hf, _⟩ := num_at s hz
    have e1 := (hf xs h).1
    have e2 := (hf ys h').1
    omega
  have := (P xs.length (Nat.le_refl _) hl).1
  rw [List.take_length, hl, List.take_length] at this
  exact this

theorem bodyOf_both (s : ByteArray) (hz : s.size ≤ 1048576) : ∃ (xs : List In) (b : Bool), xs.length ≤ 120 ∧
    (∀ W, Calls Tryd.prog 22 #[.string s] W (BodyA xs b W)) ∧
    (∀ W, OpTab W → Calls Tryd.prog 23 #[.string s] W (BodyA xs b W)) := by
  by_cases h : ∃ xs, IsBody s xs
  · obtain ⟨xs, h⟩ := h
    refine ⟨xs, true, (bodyV_parts h.1).1, fun W => (specBodyOf_any s hz W).mono fun e w' hr => ?_, fun W ht => (implBodyOf_any s hz W ht).1 xs h⟩
    rcases hr with ⟨ys, hy, ha⟩ | ⟨hno, _⟩
    · obtain rfl := bodyTo_inj hz h hy
      exact ha
    · exact absurd h (hno xs)
  · have h2 : ∀ xs, ¬ IsBody s xs := fun xs hx => h ⟨xs, hx⟩
    refine ⟨[], false, Nat.zero_le _, fun W => (specBodyOf_any s hz W).mono fun e w' hr => ?_, fun W ht => (implBodyOf_any s hz W ht).2 h2⟩
    rcases hr with ⟨ys, hy, _⟩ | ⟨_, ha⟩
    · exact absurd hy (h2 ys)
    · exact ha

set_option maxHeartbeats 4000000 in
set_option maxRecDepth 100000 in
theorem fnExactBodyOfLaw (s : ByteArray) (w : World) (hs : s.size ≤ maxLen) (ht : OpTab w) :
    Calls Tryd.prog 7 #[.string s] w fun e w' => e = .returned (.bool true) ∧ Below w.heap.size w w' := by
  unfold maxLen at hs
  by_cases h : (1048576 : Int) < (s.size : Int)
  · clear ht
    go_enter Tryd.func7, Tryd.ntmps7
    go_wp2_with fail
    go_ret
    exact ⟨rfl, Below.refl _ _⟩
  · obtain ⟨xs, b, hl, CS0, CI0⟩ := bodyOf_both s (by omega)
    have CS := Lib.hid CS0
    have CI := Lib.hid (fun W (hb : Below w.heap.size w W) => CI0 W (ht.keep hb))
    have hw0 : ∀ (i : Nat) (x : In), xs[i]? = some x → x.wt ≤ 1048576 := fun i x _ => by show (0 : Int) ≤ 1048576; omega
    have EQ := Lib.hid (fun (R1 R2 : Option Addr) (c1 c2 : Nat) (W : World) (h1 : Ins W 0 xs R1) (h2 : Ins W 0 xs R2) => eqInsS_any xs (by omega) hw0 R1 R2 c1 c2 0 0 W h1 h2)
    have MK := Lib.hid (fun (R : Option Addr) (c g : Nat) (W : World) (h : Nums W (inNums xs) R g) => markInsS_own (inNums xs) xs.length (inNums_len xs) (by omega) 1 (by omega) R c g W h)
    have HD := Lib.hid (fun (R : Option Addr) (c g : Nat) (W : World) (h : Nums W (seqI 1 (xs.length * 2)) R g) => heldInsS_own xs.length (by omega) 1 (by omega) R c g W h)
    clear CS0 CI0 ht hw0
    obtain ⟨Q, hQ⟩ : ∃ Q, 1 + xs.length * 2 = Q := ⟨_, rfl⟩
    rw [hQ] at MK HD
    have hQ0 : ¬ ((Q : Int) < 0) := by omega
    generalize seqI 1 (xs.length * 2) = SQ at *
    go_enter Tryd.func7, Tryd.ntmps7
    go_wp2_with fail
    go_at_call 22
    refine (CS.out _).mono ?_
    rintro e w1 ⟨R1, c1, rfl, ho1, hb1⟩
    obtain ⟨g1, hg1, hl1, hn1⟩ := ho1.nums
    have HN1 := Lib.hid hn1
    have HB1 := Lib.hid hb1
    clear ho1 hb1 hn1
    go_wp2_with fail
    go_at_call 23
    refine (CI.out _ HB1.out).mono ?_
    rintro e w2 ⟨R2, c2, rfl, ho2, hb2⟩
    obtain ⟨g2, hg2, hl2, hn2⟩ := ho2.nums
    have HN2 := Lib.hid hn2
    have HN12 := Lib.hid (HN1.out.below hb2)
    have HB2 := Lib.hid (bnext HB1.out hb2)
    have hw12 := hb2.size
    clear ho2 hb2 hn2
    go_wp2_with (go_at_call 21; refine (EQ.out _ _ _ _ _ (Nums.ins HN2.out (Nat.zero_le _)) (Nums.ins HN12.out (Nat.zero_le _))).mono ?_; rintro e w3 ⟨rfl, hb3⟩; have HN3 := Lib.hid (HN2.out.below hb3); have HN13 := Lib.hid (HN12.out.below hb3); have HB3 := Lib.hid (bnext HB2.out hb3); have hw3 := hb3.size; clear hb3)
    go_at_call 24
    refine (MK.out _ _ _ _ HN3.out).mono ?_
    rintro e w4 ⟨rfl, hn4, hk4⟩
    have HS4 := Lib.hid hn4
    have HN14 : Hid (Nums w4 (inNums xs) R1 g1) := Lib.hid (fun hp => (HN13.out.kb hk4 (fun _ => by
      rw [inNums_len] at hp
      have := hl1 (by omega)
      simp
      omega)) hp)
    have hw4 := hk4.but.1
    have HB4 : Hid (Below w.heap.size w w4) := Lib.hid (HB3.out.trans (hk4.below (by intro z hz; simp at hz; have := HB1.out.size; omega) (by have := HB3.out.size; omega)))
    clear hn4 hk4
    go_wp2_with fail
    go_at_call 25
    refine (HD.out _ _ _ _ HS4.out).mono ?_
    rintro e w5 ⟨rfl, hb5⟩
    have HS5 := Lib.hid (HS4.out.below hb5)
    have HN15 := Lib.hid (HN14.out.below hb5)
    have HB5 := Lib.hid (bnext HB4.out hb5)
    clear hb5
    go_wp2_with fail
    go_at_call 23
    refine (CI.out _ HB5.out).mono ?_
    rintro e w6 ⟨R6, c6, rfl, ho6, hb6⟩
    obtain ⟨g6, hg6, hl6, hn6⟩ := ho6.nums
    have HN6 := Lib.hid hn6
    have HN16 := Lib.hid (HN15.out.below hb6)
    have HS6 := Lib.hid (HS5.out.below hb6)
    have HB6 := Lib.hid (bnext HB5.out hb6)
    clear ho6 hb6 hn6
    go_wp2_with (go_at_call 21; refine (EQ.out _ _ _ _ _ (Nums.ins HN6.out (Nat.zero_le _)) (Nums.ins HN16.out (Nat.zero_le _))).mono ?_; rintro e w7 ⟨rfl, hb7⟩; have HS7 := Lib.hid (HS6.out.below hb7); have HB7 := Lib.hid (bnext HB6.out hb7); clear hb7)
    go_at_call 25
    refine (HD.out _ _ _ _ HS7.out).mono ?_
    rintro e w8 ⟨rfl, hb8⟩
    have HB8 := Lib.hid (bnext HB7.out hb8)
    clear hb8
    go_wp2_with fail
    go_ret
    exact ⟨rfl, HB8.out⟩
end Go.Proofs.YtbjcldekapipaaaDoor
