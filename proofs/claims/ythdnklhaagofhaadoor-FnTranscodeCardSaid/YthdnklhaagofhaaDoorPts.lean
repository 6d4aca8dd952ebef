/-
  The code points of a text, as a list; the walk of the model's l04Points. No condition.
-/
import Derived.Test.YthdnklhaagofhaaDoorUtfLaw
import Derived.Test.YthdnklhaagofhaaDoorI6
import Derived.Deep.AppendLies
namespace Go.Proofs.YthdnklhaagofhaaDoor
open Go.ChangeShapes Go.WideShapes Go.ChangeAt Go.RowKit Go.Deep

instance badDec (l : List UInt8) : Decidable (Bad l) := by unfold Bad; infer_instance
/-- The code points that are read off a text, one after the other. -/
def ptsD : Nat → List UInt8 → List Int
  | 0, _ => []
  | k + 1, l => if l = [] then [] else ((Lib.decodeL l).1 : Int) :: ptsD k (l.drop (Lib.decodeL l).2)
theorem ptsD_nil (k : Nat) : ptsD k [] = [] := by cases k <;> simp [ptsD]
theorem ptsD_step (k : Nat) {l : List UInt8} (h : l ≠ []) : ptsD (k + 1) l = ((Lib.decodeL l).1 : Int) :: ptsD k (l.drop (Lib.decodeL l).2) := by rw [ptsD, if_neg h]
theorem ptsD_len : ∀ (k : Nat) (l : List UInt8), (ptsD k l).length ≤ k
  | 0, _ => Nat.le_refl _
  | k + 1, l => by
    rw [ptsD]
    split
    · simp
    · simp only [List.length_cons]
      have := ptsD_len k (l.drop (Lib.decodeL l).2)
      omega
theorem ptsD_bd : ∀ (k : Nat) (l : List UInt8), ∀ n ∈ ptsD k l, 0 ≤ n ∧ n ≤ 1114111
  | 0, _, n, h => by simp [ptsD] at h
  | k + 1, l, n, h => by
    rw [ptsD] at h
    split at h
    · simp at h
    · rcases List.mem_cons.1 h with rfl | h
      · have := Lib.decodeL_rune l
        omega
      · exact ptsD_bd k _ n h
theorem valid_stepP (k : Nat) (l : List UInt8) (h : l ≠ []) : Lib.validGoD (k + 1) l = if Bad l then false else Lib.validGoD k (l.drop (Lib.decodeL l).2) := by
  rw [Lib.validGoD, if_neg h]
  rfl
theorem keep7 {w w' : World} {base : Nat} {e : TypeId} {size n : Nat} {v : Value} {xs : List Value} (h : w.ownsRow base e size v n xs) (hb : Below w.heap.size w w') : w'.ownsRow base e size v n xs := by
  obtain ⟨h1, h2⟩ := h
  refine ⟨h1, ?_⟩
  rcases h2 with h2 | ⟨g, cap, cur, hv, hg, hh, r⟩
  · exact Or.inl h2
  · exact Or.inr ⟨g, cap, cur, hv, hg, by rw [← hh]; exact hb.block g (Array.getElem?_eq_some_iff.1 hh).1, r⟩
theorem news7 (W : World) (v : Value) (t : TypeId) : ∀ (j : Nat) (u : Value), [v][j]? = some u → (W.alloc (.cells #[v] t)).cell? ((⟨W.heap.size, 0, none⟩ : Addr).add j) = some u := by
  intro j u hu
  cases j with
  | zero =>
    simp at hu
    subst hu
    simp [Addr.add]
  | succ n => simp at hu
/-- A row of one's own, told by a list. -/
def OwnL (e : TypeId) (f : Int → Value) (W : World) (base : Nat) (xs : List Int) (R : Option Addr) (n c : Nat) : Prop := xs.length = n ∧ W.ownsRow base e 1 (.slice R n c) n (xs.map f)
theorem OwnL.keep {e : TypeId} {f : Int → Value} {w w' : World} {base : Nat} {xs : List Int} {R : Option Addr} {n c : Nat} (h : OwnL e f w base xs R n c) (hb : Below w.heap.size w w') : OwnL e f w' base xs R n c := ⟨h.1, keep7 h.2 hb⟩
/-- One more is there. -/
theorem OwnL.snoc {e : TypeId} {f : Int → Value} {W wr w1 : World} {xs : List Int} {m : Int} {R3 : Option Addr} {c3 g cap n : Nat} {o : Obj} (HO : OwnL e f wr W.heap.size xs R3 n c3) (HB : Below W.heap.size W wr)
    (hown : w1.ownsRow W.heap.size e 1 (.slice (some ⟨g, 0, none⟩) (n + 1) cap) (n + 1) (xs.map f ++ [f m])) (hgrow : (wr.alloc o).grownBy w1 (Value.slice R3 n c3).ownBlock) :
    OwnL e f w1 W.heap.size (xs ++ [m]) (some ⟨g, 0, none⟩) (n + 1) cap ∧ Below W.heap.size W w1 :=
  ⟨⟨by rw [List.length_append, HO.1]; rfl, by rw [List.map_append]; exact hown⟩, (HB.alloc HB.size _).grown hgrow (by have := HB.size; simp; omega) (fun g hg => (HO.2.lt g hg).1)⟩
theorem OwnL.own6 {w : World} {base : Nat} {xs : List Int} {R : Option Addr} {n c : Nat} (h : OwnL 2 num6 w base xs R n c) : n = xs.length ∧ ∃ g, base ≤ g ∧ (0 < xs.length → g < w.heap.size) ∧ Own6 w xs R g := by
  obtain ⟨rfl, h2⟩ := h
  exact ⟨rfl, Own6.of_own h2⟩
theorem size_list (s : ByteArray) : s.data.toList.length = s.size := rfl
theorem cut_list (t : ByteArray) (m : Nat) : (t.extract m t.size).data.toList = t.data.toList.drop m := Lib.extract_to_end t m

/-- An answer of code points and 'true'. -/
def AnsP (P : List Int) (w : World) (e : Ending) (w' : World) : Prop := ∃ (R : Option Addr) (c g : Nat), e = .returned (.tuple #[.slice R P.length c, .bool true]) ∧ w.heap.size ≤ g ∧ (0 < P.length → g < w'.heap.size) ∧ Own6 w' P R g ∧ Below w.heap.size w w'
/-- The answer to what is no text. -/
def AnsN (w : World) (e : Ending) (w' : World) : Prop := ∃ (R : Option Addr) (c : Nat), e = .returned (.tuple #[.slice R 0 c, .bool false]) ∧ Below w.heap.size w w'
/-- What both ask of a text and its points. -/
def PtsPost (R : Bool) (P : List Int) (w : World) (e : Ending) (w' : World) : Prop := (R = true → AnsP P w e w') ∧ (R = false → AnsN w e w')

set_option maxRecDepth 100000 in
set_option maxHeartbeats 2000000 in
theorem ptsS_any (s : ByteArray) (hs : s.size ≤ 24) (w : World) :
    Calls Tryd.prog 162 #[.string s] w (PtsPost (Lib.validD s.data.toList) (ptsD s.size s.data.toList) w) := by
  obtain ⟨i0, hi0, hz0, hz1, hz2⟩ := info_parts infoI64
  obtain ⟨R, hR⟩ : ∃ R, Lib.validD s.data.toList = R := ⟨_, rfl⟩
  obtain ⟨P, hP⟩ : ∃ P, ptsD s.size s.data.toList = P := ⟨_, rfl⟩
  rw [hR, hP]
  have HR0 : Hid (Lib.validGoD s.size s.data.toList = R) := Lib.hid hR
  have HP0 : Hid (([] : List Int) ++ ptsD s.size s.data.toList = P) := Lib.hid hP
  have HS := Lib.hid hs
  clear hR hP hs
  go_enter Tryd.func162, Tryd.ntmps162
  go_wp2_with fail
  go_loopw [0, 4] (fun s0 v wr => ∃ (t : ByteArray) (k : Nat) (xs : List Int) (n : Nat), s0 = .string t ∧ t.size ≤ k ∧ n + t.size ≤ 24 ∧ (∃ (R : Option Addr) (c : Nat), v = .slice R n c ∧ Hid (OwnL 2 num6 wr w.heap.size xs R n c)) ∧ Hid (Below w.heap.size w wr) ∧ Hid (Lib.validGoD k t.data.toList = R) ∧ Hid (xs ++ ptsD k t.data.toList = P)) (fun s0 _ _ => match s0 with | .string t => t.size | _ => 0)
  case atStart => exact ⟨s, s.size, [], 0, rfl, Nat.le_refl _, by have := HS.out; omega, ⟨_, _, rfl, rfl, World.ownsRow_made _ _ _ (Nat.le_refl _) (by unfold maxLen; omega) (by simp)⟩, below1 _ _, HR0, HP0⟩
  case round =>
    obtain ⟨t, k, xs, n, rfl, htk, hlen, ⟨R3, c3, rfl, HO⟩, HB, hRk, hPk⟩ := hrel
    clear HR0 HP0
    by_cases hlt : 0 < t.size
    · obtain ⟨k', rfl⟩ : ∃ k', k = k' + 1 := ⟨k - 1, by omega⟩
      have hne : t.data.toList ≠ [] := by
        intro e
        have h0 : t.size = 0 := congrArg List.length e
        omega
      have hst := (valid_stepP k' t.data.toList hne).symm.trans hRk.out
      have hpt := hPk.out
      rw [ptsD_step k' hne] at hpt
      obtain ⟨a, m, CP, hcase⟩ := point_any t (by omega) (by omega)
      rcases hcase with ⟨hbad, rfl⟩ | ⟨hgood, hm, hm1, hm2, hm5⟩
      · rw [if_pos hbad] at hst
        subst hst
        clear hbad hne hRk hpt hPk
        go_wp2_with (go_at_call 180; (with_reducible refine (CP.out _).mono ?_); rintro e wx ⟨rfl, hbx⟩; have HBX := Lib.hid (next6 HB.out hbx); clear hbx)
        go_ret2
        exact ⟨(fun h => by cases h), fun _ => ⟨_, _, rfl, HBX.out⟩⟩
      · rw [if_neg hgood, ← hm] at hst
        rw [← hm5, ← hm] at hpt
        have hx := cut_list t m
        rw [← hx] at hst hpt
        have HST := Lib.hid hst
        have HPT : Hid ((xs ++ [a]) ++ ptsD k' (t.extract m t.size).data.toList = P) := Lib.hid (by rw [List.append_assoc]; exact hpt)
        have hsz : (t.extract m t.size).size = t.size - m := by rw [ByteArray.size_extract]; omega
        have HSZ := Lib.hid hsz
        have hm0 : ((m : Int) == 0) = false := by rw [beq_eq_false_iff_ne]; omega
        have hmt : (m : Int) ≤ (t.size : Int) := by omega
        clear hst hx hsz hgood hm hne hRk hpt hPk hm5
        go_wp2_with fail
        go_at_call 180
        refine (CP.out _).mono ?_
        rintro e wx ⟨rfl, hbx⟩
        have HBX := Lib.hid (next6 HB.out hbx)
        have HOX := Lib.hid (HO.out.keep hbx)
        have hzx : w.heap.size ≤ wx.heap.size := HBX.out.size
        clear hbx HO HB
        go_wp2_with (at_builtin; refine wpList_append_lies _ rfl _ _ _ rfl w.heap.size 2 i0 _ 1 8 Tryd.underlying56 hi0 hz0 hz1 hz2 rfl (by decide) (.slice R3 n c3) n (xs.map num6) rfl (HOX.out.2.alloc _) ⟨wx.heap.size, 0, none⟩ 1 1 [.int .i64 a] rfl rfl (news7 _ _ _) (by simp [Value.oneCell']) (by omega) (by unfold maxLen; omega) (by omega) (by simp; omega) _ rfl ?_; intro g4 cap w4 hown4 hgrow4 hat4 hlt4; have HS4 := Lib.hid (HOX.out.snoc HBX.out hown4 hgrow4); clear hown4 hgrow4 hat4 hlt4 HOX HBX)
        go_roundw
        case rel => exact ⟨t.extract m t.size, k', xs ++ [a], n + 1, rfl, by rw [HSZ.out]; omega, by rw [HSZ.out]; omega, ⟨_, _, rfl, HS4.out.1⟩, HS4.out.2, HST, HPT⟩
        case measure =>
          show (t.extract m t.size).size < t.size
          rw [HSZ.out]
          omega
    · have ht0 : t.data.toList = [] := List.eq_nil_of_length_eq_zero (show t.size = 0 by omega)
      have hRt : R = true := by
        have h1 := hRk.out
        rw [ht0] at h1
        rw [← h1]
        cases k <;> simp [Lib.validGoD]
      have hPt : P = xs := by
        have h1 := hPk.out
        rw [ht0, ptsD_nil, List.append_nil] at h1
        exact h1.symm
      subst hRt
      subst hPt
      clear hRk ht0 hPk
      go_wp2_with fail
      go_ret2
      obtain ⟨rfl, g, h1, h2, h3⟩ := HO.out.own6
      exact ⟨fun _ => ⟨_, _, g, rfl, h1, h2, h3, HB.out⟩, fun h => by cases h⟩
end Go.Proofs.YthdnklhaagofhaaDoor
