/-
  Trees of types whose labels and kids lie in plain blocks of a set; the walk of marking one: only those blocks turn.
-/
import Derived.Test.YtlmmbheamicdaaaMarks
import Derived.Test.YtlmmbheamicdaaaListChoose
namespace Go.Proofs.Ytlmmbheamicdaaa
open Go.ChangeShapes Go.WideShapes Go.ChangeAt Go.RowKit Go.Deep

/-- Two values of one sort: two numbers, two strings, or one and the same. -/
def Alk (v v' : Value) : Prop := (∃ k a b, v = .int k a ∧ v' = .int k b) ∨ (∃ a b, v = .string a ∧ v' = .string b) ∨ v = v'
theorem Alk.trans {a b c : Value} (h : Alk a b) (k : Alk b c) : Alk a c := by
  rcases h with ⟨p, x, y, rfl, rfl⟩ | ⟨x, y, rfl, rfl⟩ | rfl
  · rcases k with ⟨q, u, v, e, rfl⟩ | ⟨u, v, e, _⟩ | rfl
    · cases e
      exact Or.inl ⟨_, _, _, rfl, rfl⟩
    · cases e
    · exact Or.inl ⟨_, _, _, rfl, rfl⟩
  · rcases k with ⟨q, u, v, e, _⟩ | ⟨u, v, e, rfl⟩ | rfl
    · cases e
    · cases e
      exact Or.inr (Or.inl ⟨_, _, rfl, rfl⟩)
    · exact Or.inr (Or.inl ⟨_, _, rfl, rfl⟩)
  · exact k
/-- Every cell holds a value of the sort that it held; plain blocks are plain. -/
structure Sim (w w' : World) : Prop where
  cell : ∀ (a : Addr) (v : Value), w.cell? a = some v → ∃ v', w'.cell? a = some v' ∧ Alk v v'
  blk : ∀ b, Blk w b → Blk w' b
theorem Sim.refl (w : World) : Sim w w := ⟨fun _ v h => ⟨v, h, Or.inr (Or.inr rfl)⟩, fun _ h => h⟩
theorem Sim.trans {a b c : World} (h : Sim a b) (k : Sim b c) : Sim a c := ⟨fun x v hx => by
  obtain ⟨v1, h1, h2⟩ := h.cell x v hx
  obtain ⟨v2, h3, h4⟩ := k.cell x v1 h1
  exact ⟨v2, h3, h2.trans h4⟩, fun x hx => k.blk x (h.blk x hx)⟩
theorem Sim.below {w w' : World} (h : Below w.heap.size w w') : Sim w w' := ⟨fun _ v hc => ⟨v, keepCell h hc, Or.inr (Or.inr rfl)⟩, fun _ hb => hb.below h⟩
theorem Sim.setCell {w : World} {p : Addr} {u v : Value} (hc : w.cell? p = some u) (ha : Alk u v) : Sim w (w.setCell p v) := ⟨fun a x hx => by
  by_cases e : a = p
  · subst e
    rw [hc] at hx
    cases hx
    exact ⟨v, World.cell?_setCell_same _ _ _ hc, ha⟩
  · exact ⟨x, by rw [World.cell?_setCell_other w p a v (by first | exact e | exact fun e2 => e e2.symm)]; exact hx, Or.inr (Or.inr rfl)⟩, fun _ hb => hb.set p v⟩
theorem Sim.int {w w' : World} (h : Sim w w') {a : Addr} {k : IntKind} {n : Int} (hc : w.cell? a = some (.int k n)) : ∃ m, w'.cell? a = some (.int k m) := by
  obtain ⟨v, h1, h2⟩ := h.cell a _ hc
  rcases h2 with ⟨p, x, y, e, rfl⟩ | ⟨x, y, e, _⟩ | rfl
  · cases e
    exact ⟨_, h1⟩
  · cases e
  · exact ⟨_, h1⟩
theorem Sim.str {w w' : World} (h : Sim w w') {a : Addr} {s : ByteArray} (hc : w.cell? a = some (.string s)) : ∃ t, w'.cell? a = some (.string t) := by
  obtain ⟨v, h1, h2⟩ := h.cell a _ hc
  rcases h2 with ⟨p, x, y, e, _⟩ | ⟨x, y, e, rfl⟩ | rfl
  · cases e
  · exact ⟨_, h1⟩
  · exact ⟨_, h1⟩
theorem Sim.sli {w w' : World} (h : Sim w w') {a : Addr} {A : Option Addr} {n c : Nat} (hc : w.cell? a = some (.slice A n c)) : w'.cell? a = some (.slice A n c) := by
  obtain ⟨v, h1, h2⟩ := h.cell a _ hc
  rcases h2 with ⟨p, x, y, e, _⟩ | ⟨x, y, e, _⟩ | rfl
  · cases e
  · cases e
  · exact h1

/-- Nothing has turned but blocks of the set and new memory. -/
structure Ks (S : Nat → Prop) (w w' : World) : Prop where
  os : w'.os = w.os
  tape : w'.tape = w.tape
  output : w'.output = w.output
  size : w.heap.size ≤ w'.heap.size
  block : ∀ b, b < w.heap.size → ¬ S b → w'.heap[b]? = w.heap[b]?
theorem Ks.refl (S : Nat → Prop) (w : World) : Ks S w w := ⟨rfl, rfl, rfl, Nat.le_refl _, fun _ _ _ => rfl⟩
theorem Ks.trans {S : Nat → Prop} {a b c : World} (h : Ks S a b) (k : Ks S b c) : Ks S a c := ⟨k.os.trans h.os, k.tape.trans h.tape, k.output.trans h.output, Nat.le_trans h.size k.size, fun x hx hs => (k.block x (Nat.lt_of_lt_of_le hx h.size) hs).trans (h.block x hx hs)⟩
theorem Ks.of_below {S : Nat → Prop} {w w' : World} (h : Below w.heap.size w w') : Ks S w w' := ⟨h.os, h.tape, h.output, h.size, fun b hb _ => h.block b hb⟩
theorem Ks.of_kb {S : Nat → Prop} {bs : List Nat} {w w' : World} (h : Kb bs w w') (hs : ∀ b ∈ bs, S b) : Ks S w w' := ⟨h.os, h.tape, h.output, h.but.1, fun b hb hn => h.but.2 b hb (fun hm => hn (hs b hm))⟩
theorem Ks.setCell {S : Nat → Prop} {w : World} {p : Addr} (hp : S p.block) (v : Value) : Ks S w (w.setCell p v) := ⟨rfl, rfl, rfl, by simp, fun b _ hn => by
  have e : p.block ≠ b := fun e => hn (e ▸ hp)
  simp [World.setCell, Array.getElem?_modify, e]⟩
theorem Ks.below {S : Nat → Prop} {B : Nat} {w w' : World} (h : Ks S w w') (hs : ∀ b, S b → B ≤ b) (hB : B ≤ w.heap.size) : Below B w w' := ⟨h.os, h.tape, h.output, h.size, fun k hk => h.block k (by omega) (fun hm => by have := hs k hm; omega)⟩
theorem Ks.cell {S : Nat → Prop} {w w' : World} (h : Ks S w w') {a : Addr} (hn : ¬ S a.block) {v : Value} (hc : w.cell? a = some v) : w'.cell? a = some v := by
  rw [← hc]
  exact World.cell?_of_block (h.block a.block (World.block_lt_of_cell? w a hc) hn)

/-- Strings in a plain block of the set. -/
def StrsS (w : World) (S : Nat → Prop) (n : Nat) (A : Option Addr) : Prop := 0 < n → ∃ b o : Nat, A = some ⟨b, o, none⟩ ∧ S b ∧ Blk w b ∧ ∀ i, i < n → ∃ s, w.cell? ⟨b, o + i, none⟩ = some (.string s)
theorem StrsS.sim {w w' : World} {S : Nat → Prop} {n : Nat} {A : Option Addr} (h : StrsS w S n A) (hs : Sim w w') : StrsS w' S n A := fun hn => by
  obtain ⟨b, o, h1, h2, h3, h4⟩ := h hn
  exact ⟨b, o, h1, h2, hs.blk b h3, fun i hi => by
    obtain ⟨s, hs'⟩ := h4 i hi
    exact hs.str hs'⟩
/-- The bare form of a tree: how many labels, and the kids' forms. -/
inductive Fm where
  | mk (labels : Nat) (kids : List Fm)
def Fm.labels : Fm → Nat | .mk n _ => n
def Fm.kids : Fm → List Fm | .mk _ k => k
mutual
def Fm.cnt : Fm → Nat | .mk n ks => n + Fm.cnts ks
def Fm.cnts : List Fm → Nat | [] => 0 | t :: ts => 2 + t.cnt + Fm.cnts ts
end
mutual
/-- A form lies in memory. -/
def Fm.At (w : World) (S : Nat → Prop) : Fm → Option Addr → Option Addr → Prop
  | .mk n ks, A, B => StrsS w S n A ∧ (0 < ks.length → ∃ b o : Nat, B = some ⟨b, o, none⟩ ∧ S b ∧ Blk w b ∧ Fm.Row w S ks b o)
def Fm.Row (w : World) (S : Nat → Prop) : List Fm → Nat → Nat → Prop
  | [], _, _ => True
  | t :: ts, b, o => (∃ (k : Int) (n : ByteArray) (A B : Option Addr) (ca cb : Nat), w.cell? ⟨b, o, none⟩ = some (.int .i64 k) ∧ w.cell? ⟨b, o + 1, none⟩ = some (.string n) ∧ w.cell? ⟨b, o + 2, none⟩ = some (.slice A t.labels ca) ∧ w.cell? ⟨b, o + 3, none⟩ = some (.slice B t.kids.length cb) ∧ Fm.At w S t A B) ∧ Fm.Row w S ts b (o + 4)
end
mutual
theorem Fm.At.sim {w w' : World} {S : Nat → Prop} (hs : Sim w w') : ∀ {t : Fm} {A B : Option Addr}, Fm.At w S t A B → Fm.At w' S t A B
  | .mk n ks, A, B, h => by
    unfold Fm.At at h ⊢
    refine ⟨h.1.sim hs, fun hk => ?_⟩
    obtain ⟨b, o, h1, h2, h3, h4⟩ := h.2 hk
    exact ⟨b, o, h1, h2, hs.blk b h3, Fm.Row.sim hs h4⟩
theorem Fm.Row.sim {w w' : World} {S : Nat → Prop} (hs : Sim w w') : ∀ {ks : List Fm} {b o : Nat}, Fm.Row w S ks b o → Fm.Row w' S ks b o
  | [], _, _, _ => by unfold Fm.Row; trivial
  | t :: ts, b, o, h => by
    unfold Fm.Row at h ⊢
    obtain ⟨⟨k, n, A, B, ca, cb, c0, c1, c2, c3, h1⟩, h2⟩ := h
    obtain ⟨k', c0'⟩ := hs.int c0
    obtain ⟨n', c1'⟩ := hs.str c1
    exact ⟨⟨k', n', A, B, ca, cb, c0', c1', hs.sli c2, hs.sli c3, Fm.At.sim hs h1⟩, Fm.Row.sim hs h2⟩
end
theorem Fm.Row.get {w : World} {S : Nat → Prop} : ∀ {ks : List Fm} {b o : Nat}, Fm.Row w S ks b o → ∀ {i : Nat} {t : Fm}, ks[i]? = some t → ∃ (k : Int) (n : ByteArray) (A B : Option Addr) (ca cb : Nat), w.cell? ⟨b, o + i * 4, none⟩ = some (.int .i64 k) ∧ w.cell? ⟨b, o + i * 4 + 1, none⟩ = some (.string n) ∧ w.cell? ⟨b, o + i * 4 + 2, none⟩ = some (.slice A t.labels ca) ∧ w.cell? ⟨b, o + i * 4 + 3, none⟩ = some (.slice B t.kids.length cb) ∧ Fm.At w S t A B
  | x :: xs, b, o, h, 0, t, ht => by
    unfold Fm.Row at h
    simp at ht
    subst ht
    rw [Nat.zero_mul, Nat.add_zero]
    exact h.1
  | x :: xs, b, o, h, i + 1, t, ht => by
    unfold Fm.Row at h
    have hc := Fm.Row.get h.2 (i := i) (t := t) (by simpa using ht)
    rw [show o + 4 + i * 4 = o + (i + 1) * 4 by omega] at hc
    exact hc
/-- Where a row of forms lies. -/
def Fm.RowAt (w : World) (S : Nat → Prop) (ks : List Fm) (B : Option Addr) : Prop := 0 < ks.length → ∃ b o : Nat, B = some ⟨b, o, none⟩ ∧ S b ∧ Blk w b ∧ Fm.Row w S ks b o
theorem Fm.RowAt.sim {w w' : World} {S : Nat → Prop} {ks : List Fm} {B : Option Addr} (h : Fm.RowAt w S ks B) (hs : Sim w w') : Fm.RowAt w' S ks B := fun hk => by
  obtain ⟨b, o, h1, h2, h3, h4⟩ := h hk
  exact ⟨b, o, h1, h2, hs.blk b h3, h4.sim hs⟩
theorem Fm.At.strs {w : World} {S : Nat → Prop} {t : Fm} {A B : Option Addr} (h : Fm.At w S t A B) : StrsS w S t.labels A := by
  cases t
  unfold Fm.At at h
  exact h.1
theorem Fm.At.row {w : World} {S : Nat → Prop} {t : Fm} {A B : Option Addr} (h : Fm.At w S t A B) : Fm.RowAt w S t.kids B := by
  cases t
  unfold Fm.At at h
  exact h.2
theorem Fm.cnts_get : ∀ {ks : List Fm} {i : Nat} {t : Fm}, ks[i]? = some t → 2 + t.cnt ≤ Fm.cnts ks
  | [], i, t, h => by simp at h
  | x :: xs, 0, t, h => by
    simp at h
    subst h
    simp only [Fm.cnts]
    omega
  | x :: xs, i + 1, t, h => by
    have := Fm.cnts_get (ks := xs) (i := i) (t := t) (by simpa using h)
    simp only [Fm.cnts]
    omega
theorem Fm.cnt_eq (t : Fm) : t.cnt = t.labels + Fm.cnts t.kids := by
  cases t
  rw [Fm.cnt]
  rfl
theorem Fm.cnts_append : ∀ xs ys : List Fm, Fm.cnts (xs ++ ys) = Fm.cnts xs + Fm.cnts ys
  | [], ys => by simp [Fm.cnts]
  | x :: xs, ys => by
    simp only [List.cons_append, Fm.cnts, Fm.cnts_append xs ys]
    omega
theorem Fm.cnts_take {ks : List Fm} {i : Nat} {t : Fm} (h : ks[i]? = some t) : Fm.cnts (ks.take (i + 1)) = Fm.cnts (ks.take i) + (2 + t.cnt) := by
  obtain ⟨hi, rfl⟩ := List.getElem?_eq_some_iff.1 h
  rw [List.take_succ_eq_append_getElem hi, Fm.cnts_append]
  simp [Fm.cnts]
theorem Fm.cnts_take_le (ks : List Fm) (i : Nat) : Fm.cnts (ks.take i) ≤ Fm.cnts ks := by
  have h := Fm.cnts_append (ks.take i) (ks.drop i)
  rw [List.take_append_drop] at h
  omega
theorem Fm.len_cnts : ∀ ks : List Fm, ks.length ≤ Fm.cnts ks
  | [] => by simp
  | x :: xs => by
    have := Fm.len_cnts xs
    simp only [Fm.cnts, List.length_cons]
    omega

set_option maxHeartbeats 1000000 in
theorem markStringS_form (S : Nat → Prop) (n : Nat) (A : Option Addr) (ca k : Nat) (h0 : 1 ≤ k) (h1 : k + n ≤ 1099511627776) (w : World) (h : StrsS w S n A) :
    Calls Try.prog 29 #[.slice A n ca, .int .i64 k] w fun e w' => e = .returned (.int .i64 ((k + n : Nat) : Int)) ∧ Sim w w' ∧ Ks S w w' := by
  have H := Lib.hid h
  clear h
  go_enter Try.func29, Try.ntmps29
  go_wp2_with fail
  go_loopw [1, 5] (fun x i wr => ∃ j : Nat, j ≤ n ∧ i = .int .i64 j ∧ x = .int .i64 ((k + j : Nat) : Int) ∧ Hid (Sim w wr) ∧ Hid (Ks S w wr)) (fun _ i _ => n - (intOf i).toNat)
  case atStart => exact ⟨0, Nat.zero_le _, rfl, rfl, Sim.refl _, Ks.refl _ _⟩
  case round =>
    obtain ⟨j, hj, rfl, rfl, hsim, hks⟩ := hrel
    by_cases hlt : j < n
    · obtain ⟨b, o, rfl, hS, hblk, hcs⟩ := (H.out.sim hsim.out) (by omega)
      obtain ⟨s0, hc⟩ := hcs j hlt
      obtain ⟨m, hm⟩ : ∃ m, k + j = m := ⟨_, rfl⟩
      have C := Lib.hid (fun W => markText_any m (by omega) (by omega) W)
      have hlj : (j : Int) < (n : Int) := by omega
      have HG := Lib.hid hblk
      have HS := Lib.hid hS
      have HM := Lib.hid hm
      have hm1 : (m : Int) ≤ 1099511627776 := by omega
      have hm0 : (0 : Int) ≤ (m : Int) := by omega
      rw [hm]
      clear hblk hS hm hcs
      go_wp2_with fail
      go_at_call 63
      refine (C.out _).mono ?_
      rintro e w2 ⟨rfl, hb2⟩
      have hc2 := keepCell hb2 hc
      have hf2 : w2.frozen? ⟨b, o + j, none⟩ = false := (HG.out.below hb2).free (o + j)
      have HB2 := Lib.hid hb2
      clear hb2 hc
      go_wp2_with fail
      go_roundw
      case rel =>
        have := HM.out
        refine ⟨j + 1, by omega, by go_num, ?_, hsim.out.trans ((Sim.below HB2.out).trans (Sim.setCell hc2 (Or.inr (Or.inl ⟨_, _, rfl, rfl⟩)))), hks.out.trans ((Ks.of_below HB2.out).trans (Ks.setCell HS.out _))⟩
        first | (rw [show ((k + (j + 1) : Nat) : Int) = (m : Int) + 1 by omega]) | (congr 1; omega)
      case measure => simp [intOf]; omega
    · have e9 : j = n := by omega
      subst e9
      go_wp2_with fail
      go_ret
      exact ⟨rfl, hsim.out, hks.out⟩

def MarkFm (t : Fm) : Prop := ∀ (S : Nat → Prop) (k : Nat), 1 ≤ k → k + Fm.cnts t.kids ≤ 1099511627776 → ∀ (B : Option Addr) (cb : Nat) (w : World), Fm.RowAt w S t.kids B →
  Calls Try.prog 45 #[.slice B t.kids.length cb, .int .i64 k] w fun e w' => e = .returned (.int .i64 ((k + Fm.cnts t.kids : Nat) : Int)) ∧ Sim w w' ∧ Ks S w w'

set_option maxHeartbeats 4000000 in
set_option maxRecDepth 100000 in
theorem markTypeS_form (n : Nat) : ∀ t : Fm, t.cnt ≤ n → MarkFm t := by
  induction n using Nat.strongRecOn with
  | _ n ih =>
    intro t hn S k h0 h1 B cb w h
    have H := Lib.hid h
    have IH : Hid (∀ u : Fm, u.cnt < t.cnt → MarkFm u) := Lib.hid (fun u hu => ih u.cnt (by omega) u (Nat.le_refl _))
    have hce := t.cnt_eq
    have hlk := Fm.len_cnts t.kids
    have HC := Lib.hid hce
    have HL : t.kids.length ≤ 1099511627776 := by omega
    have H1 := Lib.hid h1
    clear ih hn h hce h1 hlk
    go_enter Try.func45, Try.ntmps45
    go_wp2_with fail
    go_loopw [1, 5] (fun x i wr => ∃ j : Nat, j ≤ t.kids.length ∧ i = .int .i64 j ∧ x = .int .i64 ((k + Fm.cnts (t.kids.take j) : Nat) : Int) ∧ Hid (Sim w wr) ∧ Hid (Ks S w wr)) (fun _ i _ => t.kids.length - (intOf i).toNat)
    case atStart => exact ⟨0, Nat.zero_le _, rfl, by simp [Fm.cnts], Sim.refl _, Ks.refl _ _⟩
    case round =>
      obtain ⟨j, hj, rfl, rfl, hsim, hks⟩ := hrel
      by_cases hlt : j < t.kids.length
      · obtain ⟨b, o, rfl, hS, hblk, hrow⟩ := (H.out.sim hsim.out) (by omega)
        obtain ⟨u, hu⟩ : ∃ u, t.kids[j]? = some u := ⟨_, List.getElem?_eq_getElem hlt⟩
        obtain ⟨kd, nm, A1, B1, ca1, cb1, c0, c1, c2, c3, hat⟩ := hrow.get hu
        have g1 := Fm.cnts_get hu
        have g2 := Fm.cnts_take hu
        have g3 := Fm.cnts_take_le t.kids (j + 1)
        have g4 := HC.out
        have g5 := H1.out
        have g6 := u.cnt_eq
        obtain ⟨m, hm⟩ : ∃ m, k + Fm.cnts (t.kids.take j) = m := ⟨_, rfl⟩
        have C1 : Hid (∀ W : World, Calls Try.prog 63 #[.int .i64 ((m : Int) + 1)] W fun e w' => e = .returned (.string (mt (m + 1))) ∧ Below W.heap.size W w') := Lib.hid (fun W => by
          have := markText_any (m + 1) (by omega) (by omega) W
          rw [show ((m + 1 : Nat) : Int) = (m : Int) + 1 by omega] at this
          exact this)
        have C2 : Hid (∀ W : World, StrsS W S u.labels A1 → Calls Try.prog 29 #[.slice A1 u.labels ca1, .int .i64 ((m : Int) + 1 + 1)] W fun e w' => e = .returned (.int .i64 ((m + 1 + 1 + u.labels : Nat) : Int)) ∧ Sim W w' ∧ Ks S W w') := Lib.hid (fun W hW => by
          have := markStringS_form S u.labels A1 ca1 (m + 1 + 1) (by omega) (by omega) W hW
          rw [show ((m + 1 + 1 : Nat) : Int) = (m : Int) + 1 + 1 by omega] at this
          exact this)
        have C3 : Hid (∀ W : World, Fm.RowAt W S u.kids B1 → Calls Try.prog 45 #[.slice B1 u.kids.length cb1, .int .i64 ((m + 1 + 1 + u.labels : Nat) : Int)] W fun e w' => e = .returned (.int .i64 ((m + 1 + 1 + u.labels + Fm.cnts u.kids : Nat) : Int)) ∧ Sim W w' ∧ Ks S W w') := Lib.hid (fun W hW => IH.out u (by omega) S (m + 1 + 1 + u.labels) (by omega) (by omega) B1 cb1 W hW)
        have hlj : (j : Int) < (t.kids.length : Int) := by omega
        have HG := Lib.hid hblk
        have HS := Lib.hid hS
        have HM := Lib.hid hm
        have HT := Lib.hid g2
        have HU := Lib.hid g6
        have HST := Lib.hid hat.strs
        have HRW := Lib.hid hat.row
        have f0 : wr.frozen? ⟨b, o + j * 4, none⟩ = false := hblk.free _
        have hm1 : (m : Int) ≤ 1099511627776 := by omega
        have hm0 : (0 : Int) ≤ (m : Int) := by omega
        have HS0 := Lib.hid (Sim.setCell c0 (v := .int .i64 m) (Or.inl ⟨_, _, _, rfl, rfl⟩))
        rw [hm]
        clear hblk hS hm g1 g2 g3 g4 g5 g6 hrow hat hu
        go_wp2_with fail
        go_at_call 63
        refine (C1.out _).mono ?_
        rintro e w2 ⟨rfl, hb2⟩
        have s2 := HS0.out.trans (Sim.below hb2)
        have k2 : Ks S wr w2 := (Ks.setCell HS.out _).trans (Ks.of_below hb2)
        obtain ⟨nm2, d1⟩ := s2.str c1
        have d2 := s2.sli c2
        have f1 : w2.frozen? ⟨b, o + j * 4 + 1, none⟩ = false := (s2.blk b HG.out).free _
        have s3 := Lib.hid (s2.trans (Sim.setCell d1 (v := .string (mt (m + 1))) (Or.inr (Or.inl ⟨_, _, rfl, rfl⟩))))
        have k3 : Hid (Ks S wr (w2.setCell ⟨b, o + j * 4 + 1, none⟩ (.string (mt (m + 1))))) := Lib.hid (k2.trans (Ks.setCell HS.out _))
        clear hb2 s2 k2 c0 c1 c2 f0 C1
        go_wp2_with fail
        go_at_call 29
        refine (C2.out _ (HST.out.sim s3.out)).mono ?_
        rintro e w3 ⟨rfl, hs3, hk3⟩
        have s4 := Lib.hid (s3.out.trans hs3)
        have k4 := Lib.hid (k3.out.trans hk3)
        have d3 := s4.out.sli c3
        clear hs3 hk3 d1 d2 f1 c3 C2
        go_wp2_with fail
        go_at_call 45
        refine (C3.out _ (HRW.out.sim s4.out)).mono ?_
        rintro e w4 ⟨rfl, hs4, hk4⟩
        have s5 := Lib.hid (s4.out.trans hs4)
        have k5 := Lib.hid (k4.out.trans hk4)
        clear hs4 hk4 d3 C3
        go_wp2_with fail
        go_roundw
        case rel =>
          refine ⟨j + 1, by omega, by go_num, ?_, hsim.out.trans s5.out, hks.out.trans k5.out⟩
          have := HM.out
          have := HT.out
          have := HU.out
          congr 1
          omega
        case measure => simp [intOf]; omega
      · have e9 : j = t.kids.length := by omega
        have h9 := congrArg Fm.cnts (List.take_of_length_le (l := t.kids) (i := j) (by omega))
        rw [h9]
        clear h9
        go_wp2_with fail
        go_ret
        exact ⟨rfl, hsim.out, hks.out⟩

theorem markType_form (t : Fm) (S : Nat → Prop) (k : Nat) (h0 : 1 ≤ k) (h1 : k + t.cnt ≤ 1099511627776) (kd : Int) (nm : ByteArray) (A B : Option Addr) (ca cb : Nat) (w : World) (h : Fm.At w S t A B) :
    Calls Try.prog 28 #[.agg #[.int .i64 kd, .string nm, .slice A t.labels ca, .slice B t.kids.length cb], .int .i64 k] w fun e w' => e = .returned (.int .i64 ((k + t.cnt : Nat) : Int)) ∧ Sim w w' ∧ Ks S w w' := by
  have g6 := t.cnt_eq
  have C1 := Lib.hid (fun W x => markStringS_form S t.labels A ca k h0 (by omega) W x)
  have C2 := Lib.hid (fun W x => markTypeS_form t.cnt t (Nat.le_refl _) S (k + t.labels) (by omega) (by omega) B cb W x)
  have HST := Lib.hid h.strs
  have HRW := Lib.hid h.row
  have HC := Lib.hid g6
  clear h g6
  go_enter Try.func28, Try.ntmps28
  go_wp2_with fail
  go_at_call 29
  refine (C1.out _ (HST.out.sim (Sim.below (below1 _ _)))).mono ?_
  rintro e w2 ⟨rfl, hs2, hk2⟩
  have s2 := Lib.hid ((Sim.below (below1 w _)).trans hs2)
  have k2 := Lib.hid ((Ks.of_below (below1 w _)).trans hk2)
  have d3 := hs2.sli (a := ⟨w.heap.size, 3, none⟩) (A := B) (n := t.kids.length) (c := cb) (by go_simp)
  clear hs2 hk2 C1
  go_wp2_with fail
  go_at_call 45
  refine (C2.out _ (HRW.out.sim s2.out)).mono ?_
  rintro e w3 ⟨rfl, hs3, hk3⟩
  have s3 := Lib.hid (s2.out.trans hs3)
  have k3 := Lib.hid (k2.out.trans hk3)
  clear hs3 hk3 C2
  go_wp2_with fail
  go_ret
  exact ⟨ret_int (a := (k : Int) + (t.labels : Int) + (Fm.cnts t.kids : Int)) (by have := HC.out; omega), s3.out, k3.out⟩
end Go.Proofs.Ytlmmbheamicdaaa
