/-
  Marking a tree that owns its memory: which tree comes out, in the same blocks.
-/
import Derived.Test.YtlmmbheamicdaabMarks
import Derived.Test.YtlmmbheamicdaabListChoose
namespace Go.Proofs.Ytlmmbheamicdaab
open Go.ChangeShapes Go.WideShapes Go.ChangeAt Go.RowKit Go.Deep

mutual
/-- How many marks a tree takes below its top. -/
def Ty.mc : Ty → Nat | .mk _ _ ls ks => ls.length + Ty.mcs ks
def Ty.mcs : List Ty → Nat | [] => 0 | t :: ts => 2 + t.mc + Ty.mcs ts
end
mutual
/-- A kid, marked from k on. -/
def Ty.mkd : Ty → Nat → Ty | .mk _ _ ls ks, k => .mk (k : Int) (mt (k + 1)) (mts (k + 1 + 1) ls.length) (Ty.mkds ks (k + 1 + 1 + ls.length))
def Ty.mkds : List Ty → Nat → List Ty | [], _ => [] | t :: ts, k => t.mkd k :: Ty.mkds ts (k + (2 + t.mc))
end
/-- A tree whose top keeps its kind and name. -/
def Ty.mkt (T : Ty) (k : Nat) : Ty := .mk T.kind T.name (mts k T.labels.length) (Ty.mkds T.kids (k + T.labels.length))
theorem Ty.mc_eq (t : Ty) : t.mc = t.labels.length + Ty.mcs t.kids := by
  cases t
  rw [Ty.mc]
  rfl
theorem Ty.mkd_eq (t : Ty) (k : Nat) : t.mkd k = .mk (k : Int) (mt (k + 1)) (mts (k + 1 + 1) t.labels.length) (Ty.mkds t.kids (k + 1 + 1 + t.labels.length)) := by
  cases t
  rw [Ty.mkd]
  rfl
theorem Ty.mcs_append : ∀ xs ys : List Ty, Ty.mcs (xs ++ ys) = Ty.mcs xs + Ty.mcs ys
  | [], ys => by simp [Ty.mcs]
  | x :: xs, ys => by
    simp only [List.cons_append, Ty.mcs, Ty.mcs_append xs ys]
    omega
theorem Ty.mcs_get : ∀ {ks : List Ty} {i : Nat} {t : Ty}, ks[i]? = some t → 2 + t.mc ≤ Ty.mcs ks
  | [], i, t, h => by simp at h
  | x :: xs, 0, t, h => by
    simp at h
    subst h
    simp only [Ty.mcs]
    omega
  | x :: xs, i + 1, t, h => by
    have := Ty.mcs_get (ks := xs) (i := i) (t := t) (by simpa using h)
    simp only [Ty.mcs]
    omega
theorem Ty.mcs_take {ks : List Ty} {i : Nat} {t : Ty} (h : ks[i]? = some t) : Ty.mcs (ks.take (i + 1)) = Ty.mcs (ks.take i) + (2 + t.mc) := by
  obtain ⟨hi, rfl⟩ := List.getElem?_eq_some_iff.1 h
  rw [List.take_succ_eq_append_getElem hi, Ty.mcs_append]
  simp [Ty.mcs]
theorem Ty.mcs_take_le (ks : List Ty) (i : Nat) : Ty.mcs (ks.take i) ≤ Ty.mcs ks := by
  have h := Ty.mcs_append (ks.take i) (ks.drop i)
  rw [List.take_append_drop] at h
  omega
theorem Ty.len_mcs : ∀ ks : List Ty, ks.length ≤ Ty.mcs ks
  | [] => by simp
  | x :: xs => by
    have := Ty.len_mcs xs
    simp only [Ty.mcs, List.length_cons]
    omega
theorem Ty.mkds_length : ∀ (ks : List Ty) (k : Nat), (Ty.mkds ks k).length = ks.length
  | [], k => by simp [Ty.mkds]
  | t :: ts, k => by simp [Ty.mkds, Ty.mkds_length ts]
theorem Ty.mkds_append : ∀ (xs ys : List Ty) (k : Nat), Ty.mkds (xs ++ ys) k = Ty.mkds xs k ++ Ty.mkds ys (k + Ty.mcs xs)
  | [], ys, k => by simp [Ty.mkds, Ty.mcs]
  | x :: xs, ys, k => by
    rw [List.cons_append, Ty.mkds, Ty.mkds, Ty.mkds_append xs ys, Ty.mcs, List.cons_append]
    congr 3
    omega
theorem Ty.mkds_get {ks : List Ty} {i : Nat} {t : Ty} (h : ks[i]? = some t) (k : Nat) : (Ty.mkds ks k)[i]? = some (t.mkd (k + Ty.mcs (ks.take i))) := by
  obtain ⟨hi, rfl⟩ := List.getElem?_eq_some_iff.1 h
  have e : ks = ks.take i ++ ks[i]'hi :: ks.drop (i + 1) := by rw [List.getElem_cons_drop, List.take_append_drop]
  have h9 := Ty.mkds_append (ks.take i) (ks[i]'hi :: ks.drop (i + 1)) k
  rw [← e] at h9
  have hl : (Ty.mkds (ks.take i) k).length = i := by rw [Ty.mkds_length, List.length_take]; omega
  rw [h9, List.getElem?_append_right (by omega), hl, Nat.sub_self, Ty.mkds]
  rfl
/-- The first j kids marked. -/
def Ty.mkTo (ks : List Ty) (k j : Nat) : List Ty := Ty.mkds (ks.take j) k ++ ks.drop j
theorem Ty.mkTo_zero (ks : List Ty) (k : Nat) : Ty.mkTo ks k 0 = ks := by simp [Ty.mkTo, Ty.mkds]
theorem Ty.mkTo_all (ks : List Ty) (k : Nat) : Ty.mkTo ks k ks.length = Ty.mkds ks k := by simp [Ty.mkTo]
theorem Ty.mkTo_at {ks : List Ty} {j : Nat} {u : Ty} (h : ks[j]? = some u) (k : Nat) : Ty.mkTo ks k j = Ty.mkds (ks.take j) k ++ u :: ks.drop (j + 1) := by
  obtain ⟨hi, rfl⟩ := List.getElem?_eq_some_iff.1 h
  rw [Ty.mkTo, List.getElem_cons_drop]
theorem Ty.mkTo_succ {ks : List Ty} {j : Nat} {u : Ty} (h : ks[j]? = some u) (k : Nat) : Ty.mkTo ks k (j + 1) = Ty.mkds (ks.take j) k ++ u.mkd (k + Ty.mcs (ks.take j)) :: ks.drop (j + 1) := by
  obtain ⟨hi, rfl⟩ := List.getElem?_eq_some_iff.1 h
  rw [Ty.mkTo, List.take_succ_eq_append_getElem hi, Ty.mkds_append, List.append_assoc]
  simp [Ty.mkds]

/-- A row is as it was where its cells and its kids' blocks are. -/
theorem Ty.RowOwn.cells {w w' : World} {cs : List Nat} (hk : KeptBut cs w w') : ∀ {ks : List Ty} {g o : Nat} {bs : List Nat}, (∀ i, o ≤ i → i < o + ks.length * 4 → w'.cell? ⟨g, i, none⟩ = w.cell? ⟨g, i, none⟩) → (∀ b ∈ bs, b ∉ cs) → Ty.RowOwn w ks g o bs → Ty.RowOwn w' ks g o bs
  | [], g, o, bs, _, _, h => by
    unfold Ty.RowOwn at h ⊢
    exact h
  | t :: ts, g, o, bs, hg, hd, h => by
    unfold Ty.RowOwn at h ⊢
    rw [List.length_cons] at hg
    obtain ⟨A, B, ca, cb, b1, b2, rfl, ⟨c0, c1, c2, c3⟩, h1, h2⟩ := h
    exact ⟨A, B, ca, cb, b1, b2, rfl, ⟨(hg o (by omega) (by omega)).trans c0, (hg (o + 1) (by omega) (by omega)).trans c1, (hg (o + 2) (by omega) (by omega)).trans c2, (hg (o + 3) (by omega) (by omega)).trans c3⟩, Ty.Own.keep hk (fun b hb => hd b (by simp [hb])) h1, Ty.RowOwn.cells hk (fun i h3 h4 => hg i (by omega) (by omega)) (fun b hb => hd b (by simp [hb])) h2⟩
/-- One kid of a row, and the row with another kid in its place. -/
theorem Ty.RowOwn.swap {w : World} : ∀ {xs ys : List Ty} {t : Ty} {g o : Nat} {bs : List Nat}, Ty.RowOwn w (xs ++ t :: ys) g o bs → bs.Nodup → g ∉ bs →
    ∃ (A B : Option Addr) (ca cb : Nat) (bt : List Nat), (∀ b ∈ bt, b ∈ bs) ∧ bt.Nodup ∧ (w.cell? ⟨g, o + xs.length * 4, none⟩ = some (.int .i64 t.kind) ∧ w.cell? ⟨g, o + xs.length * 4 + 1, none⟩ = some (.string t.name) ∧ w.cell? ⟨g, o + xs.length * 4 + 2, none⟩ = some (.slice A t.labels.length ca) ∧ w.cell? ⟨g, o + xs.length * 4 + 3, none⟩ = some (.slice B t.kids.length cb)) ∧ Ty.Own w t A B bt ∧
      ∀ (w' : World) (t' : Ty), KeptBut (g :: bt) w w' → (∀ i, i < o + xs.length * 4 ∨ o + xs.length * 4 + 4 ≤ i → w'.cell? ⟨g, i, none⟩ = w.cell? ⟨g, i, none⟩) →
        (w'.cell? ⟨g, o + xs.length * 4, none⟩ = some (.int .i64 t'.kind) ∧ w'.cell? ⟨g, o + xs.length * 4 + 1, none⟩ = some (.string t'.name) ∧ w'.cell? ⟨g, o + xs.length * 4 + 2, none⟩ = some (.slice A t'.labels.length ca) ∧ w'.cell? ⟨g, o + xs.length * 4 + 3, none⟩ = some (.slice B t'.kids.length cb)) → Ty.Own w' t' A B bt → Ty.RowOwn w' (xs ++ t' :: ys) g o bs
  | [], ys, t, g, o, bs, h, hn, hg => by
    rw [List.nil_append] at h
    unfold Ty.RowOwn at h
    obtain ⟨A, B, ca, cb, b1, b2, rfl, hc, h1, h2⟩ := h
    rw [List.nodup_append] at hn
    obtain ⟨n1, n2, n3⟩ := hn
    rw [List.length_nil, Nat.zero_mul, Nat.add_zero]
    refine ⟨A, B, ca, cb, b1, fun b hb => by simp [hb], n1, hc, h1, fun w' t' hk ho hc' ht' => ?_⟩
    rw [List.nil_append]
    unfold Ty.RowOwn
    exact ⟨A, B, ca, cb, b1, b2, rfl, hc', ht', Ty.RowOwn.cells hk (fun i h3 _ => ho i (Or.inr h3)) (fun b hb hm => by
      rcases List.mem_cons.1 hm with e | e
      · exact hg (by subst e; simp [hb])
      · exact n3 b e b hb rfl) h2⟩
  | x :: xs, ys, t, g, o, bs, h, hn, hg => by
    rw [List.cons_append] at h
    unfold Ty.RowOwn at h
    obtain ⟨A0, B0, ca0, cb0, b1, b2, rfl, ⟨c0, c1, c2, c3⟩, h1, h2⟩ := h
    rw [List.nodup_append] at hn
    obtain ⟨n1, n2, n3⟩ := hn
    obtain ⟨A, B, ca, cb, bt, q1, q2, q3, q4, q5⟩ := Ty.RowOwn.swap (xs := xs) (ys := ys) h2 n2 (fun hm => hg (by simp [hm]))
    have e : o + (x :: xs).length * 4 = o + 4 + xs.length * 4 := by rw [List.length_cons]; omega
    rw [e]
    refine ⟨A, B, ca, cb, bt, fun b hb => by simp [q1 b hb], q2, q3, q4, fun w' t' hk ho hc' ht' => ?_⟩
    rw [List.cons_append]
    unfold Ty.RowOwn
    refine ⟨A0, B0, ca0, cb0, b1, b2, rfl, ⟨(ho o (by omega)).trans c0, (ho (o + 1) (by omega)).trans c1, (ho (o + 2) (by omega)).trans c2, (ho (o + 3) (by omega)).trans c3⟩, Ty.Own.keep hk (fun b hb hm => ?_) h1, q5 w' t' hk (fun i hi => ho i hi) hc' ht'⟩
    rcases List.mem_cons.1 hm with e2 | e2
    · exact hg (by subst e2; simp [hb])
    · exact n3 b hb b (q1 b e2) rfl

theorem StrsOwn.lt {w : World} {ls : List ByteArray} {A : Option Addr} {bs : List Nat} (h : StrsOwn w ls A bs) : ∀ b ∈ bs, b < w.heap.size := by
  rcases h with ⟨_, rfl⟩ | ⟨g, _, rfl, h3, _⟩
  · simp
  · intro b hb
    rw [List.mem_singleton] at hb
    subst hb
    exact h3.lt
theorem Ty.RowsOwn.keep {w w' : World} {ks : List Ty} {B : Option Addr} {bs cs : List Nat} (h : Ty.RowsOwn w ks B bs) (hk : KeptBut cs w w') (hd : ∀ b ∈ bs, b ∉ cs) : Ty.RowsOwn w' ks B bs := by
  rcases h with h | ⟨g, b3, e1, rfl, e3, e4⟩
  · exact Or.inl h
  · exact Or.inr ⟨g, b3, e1, rfl, hk.blk (hd g (by simp)) e3, Ty.RowOwn.keep hk (hd g (by simp)) (fun b hb => hd b (by simp [hb])) e4⟩
/-- A store beside a cell. -/
theorem cell_beside {w : World} {g i j : Nat} {v : Value} (h : i ≠ j) : (w.setCell ⟨g, j, none⟩ v).cell? ⟨g, i, none⟩ = w.cell? ⟨g, i, none⟩ := by
  have hne : (⟨g, i, none⟩ : Addr) ≠ ⟨g, j, none⟩ := fun e => h (by injection e)
  rw [World.cell?_setCell_other w ⟨g, j, none⟩ ⟨g, i, none⟩ v (by first | exact hne | exact hne.symm)]
theorem Kb.cell {bs : List Nat} {w w' : World} (h : Kb bs w w') {a : Addr} (hn : a.block ∉ bs) {v : Value} (hc : w.cell? a = some v) : w'.cell? a = some v := h.but.cell hn hc

/-- The kid that a round marks. -/
theorem Ty.RowsOwn.round {w : World} {ks : List Ty} {k j : Nat} {u : Ty} {B : Option Addr} {bs : List Nat} (h : Ty.RowsOwn w (Ty.mkTo ks k j) B bs) (hn : bs.Nodup) (hu : ks[j]? = some u) :
    ∃ (g : Nat) (A1 B1 : Option Addr) (ca cb : Nat) (bl bk : List Nat), B = some ⟨g, 0, none⟩ ∧ g ∈ bs ∧ Blk w g ∧ (∀ b ∈ bl, b ∈ bs) ∧ (∀ b ∈ bk, b ∈ bs) ∧ g ∉ bl ∧ g ∉ bk ∧ bk.Nodup ∧ (∀ b ∈ bl, b ∉ bk) ∧
      (w.cell? ⟨g, j * 4, none⟩ = some (.int .i64 u.kind) ∧ w.cell? ⟨g, j * 4 + 1, none⟩ = some (.string u.name) ∧ w.cell? ⟨g, j * 4 + 2, none⟩ = some (.slice A1 u.labels.length ca) ∧ w.cell? ⟨g, j * 4 + 3, none⟩ = some (.slice B1 u.kids.length cb)) ∧ StrsOwn w u.labels A1 bl ∧ Ty.RowsOwn w u.kids B1 bk ∧
      ∀ (w' : World) (m : Nat), k + Ty.mcs (ks.take j) = m → KeptBut (g :: (bl ++ bk)) w w' → Blk w' g → (∀ i, i < j * 4 ∨ j * 4 + 2 ≤ i → w'.cell? ⟨g, i, none⟩ = w.cell? ⟨g, i, none⟩) → w'.cell? ⟨g, j * 4, none⟩ = some (.int .i64 m) → w'.cell? ⟨g, j * 4 + 1, none⟩ = some (.string (mt (m + 1))) →
        StrsOwn w' (mts (m + 1 + 1) u.labels.length) A1 bl → Ty.RowsOwn w' (Ty.mkds u.kids (m + 1 + 1 + u.labels.length)) B1 bk → Ty.RowsOwn w' (Ty.mkTo ks k (j + 1)) B bs := by
  have hj := (List.getElem?_eq_some_iff.1 hu).1
  have hl : (Ty.mkds (ks.take j) k).length = j := by rw [Ty.mkds_length, List.length_take]; omega
  rw [Ty.mkTo_at hu] at h
  rcases h with ⟨h, _⟩ | ⟨g, b3, rfl, rfl, h3, h4⟩
  · simp at h
  · rw [List.nodup_cons] at hn
    obtain ⟨A1, B1, ca, cb, bt, q1, q2, ⟨c0, c1, c2, c3⟩, q4, q5⟩ := h4.swap hn.2 hn.1
    rw [hl, Nat.zero_add] at c0 c1 c2 c3
    obtain ⟨bl, bk, rfl, s1, s2⟩ := Ty.own_eq.mp q4
    rw [List.nodup_append] at q2
    refine ⟨g, A1, B1, ca, cb, bl, bk, rfl, by simp, h3, fun b hb => by simp [q1 b (by simp [hb])], fun b hb => by simp [q1 b (by simp [hb])], fun hm => hn.1 (q1 g (by simp [hm])), fun hm => hn.1 (q1 g (by simp [hm])), q2.2.1, fun b hb hm => q2.2.2 b hb b hm rfl, ⟨c0, c1, c2, c3⟩, s1, s2, fun w' m hm hk hb ho d0 d1 e1 e2 => ?_⟩
    subst hm
    rw [Ty.mkTo_succ hu]
    refine Or.inr ⟨g, b3, rfl, rfl, hb, q5 w' _ hk (fun i hi => ho i (by omega)) ?_ ?_⟩
    · rw [hl, Nat.zero_add, Ty.mkd_eq]
      exact ⟨d0, d1, by
        rw [ho _ (Or.inr (by omega)), c2]
        simp [Ty.labels, mts_length], by
        rw [ho _ (Or.inr (by omega)), c3]
        simp [Ty.kids, Ty.mkds_length]⟩
    · rw [Ty.own_eq, Ty.mkd_eq]
      exact ⟨bl, bk, rfl, e1, e2⟩
end Go.Proofs.Ytlmmbheamicdaab
