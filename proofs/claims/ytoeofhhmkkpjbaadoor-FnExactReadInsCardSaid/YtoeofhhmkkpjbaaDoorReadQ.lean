/-
  ReadIns, the pure part, second half: what reading answers.
-/
import Derived.Test.YtoeofhhmkkpjbaaDoorReadI
namespace Go.Proofs.YtoeofhhmkkpjbaaDoor
open Go.ChangeShapes Go.WideShapes Go.ChangeAt Go.RowKit Go.Deep

/-- What reading answers: the instruction whose text it is, or none. -/
def ReadG (s : ByteArray) (op a : Int) (b : Bool) : Prop :=
  (b = true → insV op a = true ∧ insT op a = s ∧ -9223372036854775808 ≤ a ∧ a ≤ 9223372036854775807) ∧ (b = false → op = 0 ∧ a = 0) ∧
  ∀ op' a' : Int, -9223372036854775808 ≤ a' → a' ≤ 9223372036854775807 → insV op' a' = true → insT op' a' = s → op = op' ∧ a = a' ∧ b = true
theorem ReadG.same {s : ByteArray} {op a op' a' : Int} {b b' : Bool} (h : ReadG s op a b) (k : ReadG s op' a' b') : op = op' ∧ a = a' ∧ b = b' := by
  cases b with
  | true =>
    obtain ⟨h1, h2, h3, h4⟩ := h.1 rfl
    obtain ⟨e1, e2, e3⟩ := k.2.2 op a h3 h4 h1 h2
    exact ⟨e1.symm, e2.symm, e3.symm⟩
  | false =>
    cases b' with
    | true =>
      obtain ⟨h1, h2, h3, h4⟩ := k.1 rfl
      obtain ⟨_, _, e3⟩ := h.2.2 op' a' h3 h4 h1 h2
      cases e3
    | false =>
      obtain ⟨h1, h2⟩ := h.2.1 rfl
      obtain ⟨h3, h4⟩ := k.2.1 rfl
      exact ⟨h1.trans h3.symm, h2.trans h4.symm, rfl⟩
/-- A candidate that no other instruction's text escapes. -/
def Cand (s : ByteArray) (k v : Int) : Prop := ∀ op' a' : Int, -9223372036854775808 ≤ a' → a' ≤ 9223372036854775807 → insV op' a' = true → insT op' a' = s → k = op' ∧ v = a'
theorem Cand.yes {s : ByteArray} {k v : Int} (h : Cand s k v) (hv : -9223372036854775808 ≤ v ∧ v ≤ 9223372036854775807) (h1 : insV k v = true) (h2 : insT k v = s) : ReadG s k v true :=
  ⟨fun _ => ⟨h1, h2, hv⟩, fun e => (by cases e), fun op' a' h3 h4 h5 h6 => ⟨(h op' a' h3 h4 h5 h6).1, (h op' a' h3 h4 h5 h6).2, rfl⟩⟩
theorem Cand.no {s : ByteArray} {k v : Int} (h : Cand s k v) (hn : ¬ (insV k v = true ∧ insT k v = s)) : ReadG s 0 0 false :=
  ⟨fun e => (by cases e), fun _ => ⟨rfl, rfl⟩, fun op' a' h3 h4 h5 h6 => by
    obtain ⟨rfl, rfl⟩ := h op' a' h3 h4 h5 h6
    exact absurd ⟨h5, h6⟩ hn⟩
theorem mkB_list (b : ByteArray) : mkB b.data.toList = b := by
  unfold mkB
  rw [Array.toArray_toList]
theorem isOp_ex (s : ByteArray) : ∃ v : Int, IsOp s v := by
  by_cases h : ∃ k : Nat, 1 ≤ k ∧ k ≤ 40 ∧ opB k = s
  · obtain ⟨k, h1, h2, h3⟩ := h
    exact ⟨k, by omega, by omega, fun _ => by rw [opW_at k (by omega) (by omega)]; exact h3, fun e => by omega⟩
  · exact ⟨0, by omega, by omega, fun e => absurd rfl e, fun _ k h1 h2 e => h ⟨k, h1, h2, e⟩⟩
theorem IsOp.one {s : ByteArray} {u v : Int} (h : IsOp s u) (k : IsOp s v) : v = u := by
  obtain ⟨a, b, c, d⟩ := h
  by_cases hu : u = 0
  · obtain ⟨a', b', c', d'⟩ := k
    by_cases hv : v = 0
    · omega
    · obtain ⟨j, rfl⟩ : ∃ j : Nat, v = j := ⟨v.toNat, by omega⟩
      have e := c' hv
      rw [opW_at j (by omega) (by omega)] at e
      exact absurd e (d hu j (by omega) (by omega))
  · obtain ⟨j, rfl⟩ : ∃ j : Nat, u = j := ⟨u.toNat, by omega⟩
    have e := c hu
    rw [opW_at j (by omega) (by omega)] at e
    exact k.uniq (by omega) (by omega) e
theorem opOf_at {s : ByteArray} {v : Int} (h : IsOp s v) (w : World) (ht : OpTab w) :
    Calls Tryd.prog 55 #[.string s] w fun e w' => e = .returned (.int .i64 v) ∧ w = w' := by
  refine (opOf_any s w ht).mono ?_
  rintro e w' ⟨u, rfl, hu, rfl⟩
  rw [h.one hu]
  exact ⟨rfl, rfl⟩
theorem l15Op_at {s : ByteArray} {v : Int} (h : IsOp s v) (w : World) :
    Calls Tryd.prog 93 #[.string s] w fun e w' => e = .returned (.int .i64 v) ∧ Below w.heap.size w w' := by
  refine (l15Op_any s w).mono ?_
  rintro e w' ⟨u, rfl, hu, hb⟩
  rw [h.one hu]
  exact ⟨rfl, hb⟩
theorem candI (s : ByteArray) {k v : Int} (hk : IsOp (mkB (Lib.cut s.data.toList [32]).1) k) (hv : PInt (mkB (Lib.cut s.data.toList [32]).2.1) v) : Cand s k v := by
  intro op a h0 h1 hV hT
  obtain ⟨o1, o2⟩ := insV_op op a hV
  by_cases hb : (insR op).2.2 = true
  · have hl := insT_list op a hb
    rw [hT] at hl
    rw [hl, cut_sp _ _ (opW_bytes op)] at hk hv
    refine ⟨isOp_at hk o1 o2 (mkB_list _).symm, hv.2.1 a h0 h1 ?_⟩
    rfl
  · rw [insT_plain op a hb] at hT
    subst hT
    rw [cut_no _ (opW_bytes op)] at hk hv
    refine ⟨isOp_at hk o1 o2 (mkB_list _).symm, ?_⟩
    rw [insV_zero op a hV hb]
    exact hv.2.2 rfl
theorem cutP_sp (X : ByteArray) (Y : List UInt8) (s : ByteArray) (e : s.data.toList = X.data.toList ++ 32 :: Y) (hX : ∀ c ∈ X.data.toList, c ≠ 32) (hY : ∀ c ∈ Y, c ≠ 32) : cutP s = [X, mkB Y] := by
  unfold cutP
  rw [e, cutGo_space _ _ _ hX, cutGo_free _ _ hY]
  simp [mkB_list]
theorem cutP_no (X : ByteArray) (hX : ∀ c ∈ X.data.toList, c ≠ 32) : cutP X = [X] := by
  unfold cutP
  rw [cutGo_free _ _ hX]
  simp [mkB_list]
theorem candS1 (s wd : ByteArray) {k : Int} (hc : cutP s = [wd]) (hk : IsOp wd k) : Cand s k 0 := by
  intro op a h0 h1 hV hT
  obtain ⟨o1, o2⟩ := insV_op op a hV
  by_cases hb : (insR op).2.2 = true
  · have hl := insT_list op a hb
    rw [hT] at hl
    rw [cutP_sp _ _ s hl (opW_bytes op) (itoa_bytes a)] at hc
    cases hc
  · rw [insT_plain op a hb] at hT
    subst hT
    rw [cutP_no _ (opW_bytes op)] at hc
    injection hc with hc _
    exact ⟨isOp_at hk o1 o2 hc, (insV_zero op a hV hb).symm⟩
theorem candS2 (s wd od : ByteArray) (r : List ByteArray) {k : Int} (hc : cutP s = wd :: od :: r) (hk : IsOp wd k) :
    ∀ op a : Int, -9223372036854775808 ≤ a → a ≤ 9223372036854775807 → insV op a = true → insT op a = s → k = op ∧ numR od = (a, true) := by
  intro op a h0 h1 hV hT
  obtain ⟨o1, o2⟩ := insV_op op a hV
  by_cases hb : (insR op).2.2 = true
  · have hl := insT_list op a hb
    rw [hT] at hl
    rw [cutP_sp _ _ s hl (opW_bytes op) (itoa_bytes a)] at hc
    injection hc with e1 hc
    injection hc with e2 hc
    refine ⟨isOp_at hk o1 o2 e1, ?_⟩
    rw [← e2]
    exact numR_numB a h0 h1
  · rw [insT_plain op a hb] at hT
    subst hT
    rw [cutP_no _ (opW_bytes op)] at hc
    injection hc with _ hc
    cases hc
theorem evalD_le : ∀ (l : List UInt8) (N M : Nat), N ≤ 9223372036854775808 → evalD l N = some M → M ≤ 9223372036854775808
  | [], N, M, h, e => by
    rw [evalD] at e
    injection e with e
    omega
  | c :: r, N, M, h, e => by
    rw [evalD] at e
    split at e
    · cases e
    · split at e
      · cases e
      · exact evalD_le r _ M (by omega) e
theorem numR_bounds (s : ByteArray) : -9223372036854775808 ≤ (numR s).1 ∧ (numR s).1 ≤ 9223372036854775807 := by
  unfold numR
  split
  · exact ⟨by simp, by simp⟩
  · cases he : evalD (s.data.toList.drop (fromB s)) 0 with
    | none => exact ⟨by simp [numF], by simp [numF]⟩
    | some N =>
      have hN := evalD_le _ _ _ (by omega) he
      simp only [numF]
      split
      · exact ⟨by show _ ≤ -(N : Int); omega, by show -(N : Int) ≤ _; omega⟩
      · split
        · exact ⟨by simp, by simp⟩
        · exact ⟨by show _ ≤ (N : Int); omega, by show (N : Int) ≤ _; omega⟩
theorem cutP_cons (s : ByteArray) : ∃ wd r, cutP s = wd :: r := by
  have h := cutGo_pos s.data.toList []
  unfold cutP
  cases hc : cutGo s.data.toList [] with
  | nil => rw [hc] at h; simp at h
  | cons a r => exact ⟨_, _, rfl⟩
theorem cutGo_mem : ∀ (l acc : List UInt8), ∀ p ∈ cutGo l acc, p.length ≤ acc.length + l.length
  | [], acc, p, h => by
    rw [cutGo] at h
    obtain rfl := List.mem_singleton.mp h
    simp
  | c :: r, acc, p, h => by
    rw [cutGo] at h
    split at h
    · rcases List.mem_cons.mp h with rfl | h
      · simp
      · have := cutGo_mem r [] p h
        simp at this ⊢
        omega
    · have := cutGo_mem r _ p h
      simp at this ⊢
      omega
theorem mkB_size (l : List UInt8) : (mkB l).size = l.length := by
  show l.toArray.size = l.length
  simp
theorem len_size (s : ByteArray) : s.data.toList.length = s.size := by
  show s.data.toList.length = s.data.size
  simp
theorem cutP_size (s p : ByteArray) (h : p ∈ cutP s) : p.size ≤ s.size := by
  unfold cutP at h
  obtain ⟨l, hl, rfl⟩ := List.mem_map.mp h
  have := cutGo_mem _ _ l hl
  rw [len_size, List.length_nil] at this
  rw [mkB_size]
  omega
theorem cut_size (s : ByteArray) : (mkB (Lib.cut s.data.toList [32]).2.1).size ≤ s.size := by
  rw [mkB_size, ← len_size]
  unfold Lib.cut
  split
  · rw [List.length_drop]
    omega
  · exact Nat.zero_le _
end Go.Proofs.YtoeofhhmkkpjbaaDoor
