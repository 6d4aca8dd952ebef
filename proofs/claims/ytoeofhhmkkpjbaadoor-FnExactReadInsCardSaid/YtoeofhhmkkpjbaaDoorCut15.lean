/-
  The walk of the model's l15Cut: a text's pieces at a byte.
-/
import Derived.Test.YtoeofhhmkkpjbaaDoorStrIx
import Derived.Test.YtoeofhhmkkpjbaaDoorSays
import Derived.OwnWalk
import Derived.Laws.AppendOwn
import Derived.Laws.OwnMore
import Derived.Deep.AppendLies
namespace Go.Proofs.YtoeofhhmkkpjbaaDoor
open Go.ChangeShapes Go.WideShapes Go.ChangeAt Go.RowKit Go.Deep

theorem infoStringC : (Tryd.prog.info? 9).map (fun i => (i.zero, i.size, i.bytes)) = some (some (.string ⟨#[]⟩), 1, 16) := by kernel_rfl
/-- A row of texts of one's own. -/
def OwnT (W : World) (base : Nat) (xs : List ByteArray) (R : Option Addr) (n c : Nat) : Prop := xs.length = n ∧ W.ownsRow base 9 1 (.slice R n c) n (xs.map Value.string)
theorem OwnT.snoc {W wr w1 : World} {xs : List ByteArray} {m : ByteArray} {R3 : Option Addr} {c3 g cap n : Nat} {o : Obj} (HO : OwnT wr W.heap.size xs R3 n c3) (HB : Below W.heap.size W wr)
    (hown : w1.ownsRow W.heap.size 9 1 (.slice (some ⟨g, 0, none⟩) (n + 1) cap) (n + 1) (xs.map Value.string ++ [.string m])) (hgrow : (wr.alloc o).grownBy w1 (Value.slice R3 n c3).ownBlock) :
    OwnT w1 W.heap.size (xs ++ [m]) (some ⟨g, 0, none⟩) (n + 1) cap ∧ Below W.heap.size W w1 :=
  ⟨⟨by rw [List.length_append, HO.1]; rfl, by rw [List.map_append]; exact hown⟩, (HB.alloc HB.size _).grown hgrow (by have := HB.size; simp; omega) (fun g hg => (HO.2.lt g hg).1)⟩
theorem OwnT.strs {w : World} {base : Nat} {xs : List ByteArray} {R : Option Addr} {n c : Nat} (h : OwnT w base xs R n c) : n = xs.length ∧ Strs w base xs R := by
  obtain ⟨rfl, h⟩ := h
  refine ⟨rfl, ?_⟩
  rcases h.2 with ⟨e, e2⟩ | ⟨g, cap', cur, e, hg, hb, h1, h2, h3, h4⟩
  · exact fun hp => by omega
  · injection e with e1 e2 e3
    subst e1
    refine fun hp => ⟨g, 0, rfl, hg, fun i n hn => ?_⟩
    have hi : i < xs.length := (List.getElem?_eq_some_iff.1 hn).1
    have hci : cur.toList[i]? = some (Value.string n) := by
      have h5 := congrArg (fun z => z[i]?) h4
      simp only [List.getElem?_take, Nat.mul_one, if_pos hi, List.getElem?_map, hn, Option.map_some] at h5
      exact h5
    simp only [World.cell?, hb, Nat.zero_add]
    rw [Array.getElem?_toList] at hci
    exact hci
theorem newsT (W : World) (v : Value) (t : TypeId) : ∀ (j : Nat) (u : Value), [v][j]? = some u → (W.alloc (.cells #[v] t)).cell? ((⟨W.heap.size, 0, none⟩ : Addr).add j) = some u := by
  intro j u hu
  cases j with
  | zero =>
    simp at hu
    subst hu
    simp [Addr.add]
  | succ n => simp at hu

/-- A text's pieces at the spaces: what is left, and the piece at hand. -/
def cutGo : List UInt8 → List UInt8 → List (List UInt8)
  | [], acc => [acc]
  | c :: r, acc => if c = 32 then acc :: cutGo r [] else cutGo r (acc ++ [c])
def mkB (l : List UInt8) : ByteArray := ⟨l.toArray⟩
def cutP (s : ByteArray) : List ByteArray := (cutGo s.data.toList []).map mkB
theorem cutGo_free : ∀ (l acc : List UInt8), (∀ c ∈ l, c ≠ 32) → cutGo l acc = [acc ++ l]
  | [], acc, _ => by simp [cutGo]
  | c :: r, acc, h => by
    rw [cutGo, if_neg (h c (by simp)), cutGo_free r _ (fun d hd => h d (by simp [hd]))]
    simp
theorem cutGo_space : ∀ (l acc r : List UInt8), (∀ c ∈ l, c ≠ 32) → cutGo (l ++ 32 :: r) acc = (acc ++ l) :: cutGo r []
  | [], acc, r, _ => by simp [cutGo]
  | c :: l, acc, r, h => by
    rw [List.cons_append, cutGo, if_neg (h c (by simp)), cutGo_space l _ r (fun d hd => h d (by simp [hd]))]
    simp
theorem cutGo_pos : ∀ (l acc : List UInt8), 1 ≤ (cutGo l acc).length
  | [], acc => by simp [cutGo]
  | c :: r, acc => by
    rw [cutGo]
    split
    · simp
    · exact cutGo_pos r _
theorem ext_snoc (s : ByteArray) (f i : Nat) (hf : f ≤ i) (hi : i < s.size) : (s.extract f (i + 1)).data.toList = (s.extract f i).data.toList ++ [s[i]'hi] := by
  have hl : i < s.data.toList.length := by simpa using hi
  have e : ∀ k, (s.extract f k).data.toList = (s.data.toList.drop f).take (k - f) := fun k => by simp
  rw [e, e, show i + 1 - f = (i - f) + 1 by omega, List.take_succ_eq_append_getElem (by rw [List.length_drop]; omega)]
  congr 1
  simp only [List.getElem_drop]
  congr 1
  have : f + (i - f) = i := by omega
  simp [this]
  rfl
theorem ext_self (s : ByteArray) (i : Nat) : (s.extract i i).data.toList = [] := by simp
theorem mkB_ext (s : ByteArray) (f i : Nat) : mkB (s.extract f i).data.toList = s.extract f i := by
  unfold mkB
  rw [Array.toArray_toList]
theorem drop_at (s : ByteArray) (i : Nat) (hi : i < s.size) : s.data.toList.drop i = s[i]'hi :: s.data.toList.drop (i + 1) := by
  have hl : i < s.data.toList.length := by simpa using hi
  rw [List.drop_eq_getElem_cons hl]
  rfl
/-- The answer is a row of texts. -/
def AnsT (ls : List ByteArray) (w : World) (e : Ending) (w' : World) : Prop := ∃ (A : Option Addr) (c : Nat), e = .returned (.slice A ls.length c) ∧ Strs w' w.heap.size ls A ∧ Below w.heap.size w w'

set_option maxHeartbeats 2000000 in
set_option maxRecDepth 100000 in
theorem l15Cut_any (s : ByteArray) (hs : s.size ≤ 1048576) (w : World) :
    Calls Tryd.prog 92 #[.string s, .int .u8 32] w (AnsT (cutP s) w) := by
  obtain ⟨i0, hi0, hz0, hz1, hz2⟩ := info_parts infoStringC
  obtain ⟨P, hP⟩ : ∃ P, cutP s = P := ⟨_, rfl⟩
  rw [hP]
  have HP0 : Hid (([] : List ByteArray) ++ (cutGo (s.data.toList.drop 0) (s.extract 0 0).data.toList).map mkB = P) := Lib.hid (by rw [ext_self, List.drop_zero, List.nil_append]; exact hP)
  clear hP
  go_enter Tryd.func92, Tryd.ntmps92
  go_wp2_with fail
  go_loopw [5, 6, 7] (fun v x y wr => ∃ (i f n : Nat) (xs : List ByteArray), x = .int .i64 f ∧ y = .int .i64 i ∧ f ≤ i ∧ i ≤ s.size ∧ n ≤ i ∧ (∃ (R : Option Addr) (c : Nat), v = .slice R n c ∧ Hid (OwnT wr w.heap.size xs R n c)) ∧ Hid (Below w.heap.size w wr) ∧ Hid (xs ++ (cutGo (s.data.toList.drop i) (s.extract f i).data.toList).map mkB = P)) (fun _ _ y _ => s.size - (intOf y).toNat)
  case atStart => exact ⟨0, 0, 0, [], rfl, rfl, Nat.le_refl _, Nat.zero_le _, Nat.le_refl _, ⟨_, _, rfl, rfl, World.ownsRow_made _ _ _ (Nat.le_refl _) (by unfold maxLen; omega) (by simp)⟩, below1 _ _, HP0⟩
  case round =>
    obtain ⟨i, f, n, xs, rfl, rfl, hfi, his, hni, ⟨R3, c3, rfl, HO⟩, HB, HP⟩ := hrel
    clear HP0
    have hzi : w.heap.size ≤ wr.heap.size := HB.out.size
    have hf0 : (0 : Int) ≤ (f : Int) := by omega
    have hfi2 : (f : Int) ≤ (i : Int) := by omega
    have his2 : (i : Int) ≤ (s.size : Int) := by omega
    by_cases hlt : i < s.size
    · have hli : (i : Int) < (s.size : Int) := by omega
      have hI := index_atW s i hlt
      have h1 := HP.out
      rw [drop_at s i hlt, cutGo] at h1
      have hsn := ext_snoc s f i hfi hlt
      have hc0 := (s[i]'hlt).toNat_lt
      have hc1 : ∀ c : UInt8, c = 32 ↔ (c.toNat : Int) = 32 := fun c => ⟨fun e => by rw [e]; rfl, fun e => by
        have h2 : c.toNat = 32 := by omega
        have h3 : UInt8.ofNat c.toNat = c := by simp
        rw [← h3, h2]
        rfl⟩
      have hcc := hc1 (s[i]'hlt)
      clear hc1 HP
      generalize s[i]'hlt = cB at *
      obtain ⟨c, hce⟩ : ∃ c : Int, (cB.toNat : Int) = c := ⟨_, rfl⟩
      rw [hce] at hI hcc
      by_cases h32 : c = 32
      · rw [if_pos (hcc.mpr h32), List.map_cons, mkB_ext] at h1
        have HP2 : Hid ((xs ++ [s.extract f i]) ++ (cutGo (s.data.toList.drop (i + 1)) (s.extract (i + 1) (i + 1)).data.toList).map mkB = P) := Lib.hid (by rw [ext_self, List.append_assoc]; exact h1)
        have e0 : (c == 32) = true := by rw [beq_iff_eq]; exact h32
        subst h32
        clear h1 hsn hcc hce
        go_wp2_with (at_builtin; refine wpList_append_lies _ rfl _ _ _ rfl w.heap.size 9 i0 _ 1 16 Tryd.underlying69 hi0 hz0 hz1 hz2 rfl (by decide) (.slice R3 n c3) n (xs.map Value.string) rfl (HO.out.2.alloc _) ⟨wr.heap.size, 0, none⟩ 1 1 [.string (s.extract f i)] rfl rfl (newsT _ _ _) (by simp [Value.oneCell']) (by omega) (by unfold maxLen; omega) (by omega) (by simp; omega) _ rfl ?_; intro g4 cap w4 hown4 hgrow4 hat4 hlt4; have HS4 := Lib.hid (HO.out.snoc (m := s.extract f i) HB.out hown4 hgrow4); clear hown4 hgrow4 hat4 hlt4)
        go_roundw
        case rel => exact ⟨i + 1, i + 1, n + 1, xs ++ [s.extract f i], by go_num, by go_num, Nat.le_refl _, by omega, by omega, ⟨_, _, rfl, HS4.out.1⟩, HS4.out.2, HP2.out⟩
        case measure => simp [intOf]; omega
      · rw [if_neg (fun e => h32 (hcc.mp e)), ← hsn] at h1
        have HP2 := Lib.hid h1
        have e0 : (c == 32) = false := beq_eq_false_iff_ne.mpr h32
        clear h1 hsn hcc hce h32
        go_wp2_with fail
        go_roundw
        case rel => exact ⟨i + 1, f, n, xs, rfl, by go_num, by omega, by omega, by omega, ⟨_, _, rfl, HO.out⟩, HB.out, HP2.out⟩
        case measure => simp [intOf]; omega
    · obtain rfl : i = s.size := by omega
      have hlti : ¬ (s.size : Int) < (s.size : Int) := by omega
      have h1 := HP.out
      rw [List.drop_of_length_le (by rw [ByteArray.size] at *; simp), cutGo, List.map_cons, List.map_nil, mkB_ext] at h1
      have HP2 := Lib.hid h1
      clear h1 HP
      go_wp2_with (at_builtin; refine wpList_append_lies _ rfl _ _ _ rfl w.heap.size 9 i0 _ 1 16 Tryd.underlying69 hi0 hz0 hz1 hz2 rfl (by decide) (.slice R3 n c3) n (xs.map Value.string) rfl (HO.out.2.alloc _) ⟨wr.heap.size, 0, none⟩ 1 1 [.string (s.extract f s.size)] rfl rfl (newsT _ _ _) (by simp [Value.oneCell']) (by omega) (by unfold maxLen; omega) (by omega) (by simp; omega) _ rfl ?_; intro g4 cap w4 hown4 hgrow4 hat4 hlt4; have HS4 := Lib.hid (HO.out.snoc (m := s.extract f s.size) HB.out hown4 hgrow4); clear hown4 hgrow4 hat4 hlt4)
      go_ret
      have h9 := HS4.out.1.strs
      rw [HP2.out] at h9
      exact ⟨_, cap, by rw [← h9.1]; rfl, h9.2, HS4.out.2⟩
end Go.Proofs.YtoeofhhmkkpjbaaDoor
