/-
  TyOwn, TyOwnW, TyOwnT, Texts: in one text.
-/
import Derived.Test.YtifchfecfkdjlaaGreatDoorMA
import Derived.Test.YtifchfecfkdjlaaGreatDoorME
import Derived.Test.YtifchfecfkdjlaaGreatDoorMB
import Derived.Test.YtifchfecfkdjlaaGreatDoorMD
namespace Go.Proofs.YtifchfecfkdjlaaGreatDoor
open Go.ChangeShapes Go.WideShapes Go.ChangeAt Go.RowKit Go.Deep

theorem Blk.rowIs {w : World} {g n : Nat} {t : TypeId} {f : Nat → Value} (h : w.rowIs g t n f) : Blk w g := by
  obtain ⟨c, hc, _⟩ := h
  exact ⟨c, t, hc⟩

/-- All blocks but these are as they were. -/
def KeptBut (bs : List Nat) (w w' : World) : Prop := w.heap.size ≤ w'.heap.size ∧ ∀ b, b < w.heap.size → b ∉ bs → w'.heap[b]? = w.heap[b]?
theorem KeptBut.refl (bs : List Nat) (w : World) : KeptBut bs w w := ⟨Nat.le_refl _, fun _ _ _ => rfl⟩
theorem KeptBut.trans {bs : List Nat} {a b c : World} (h : KeptBut bs a b) (k : KeptBut bs b c) : KeptBut bs a c := ⟨Nat.le_trans h.1 k.1, fun x hx hn => (k.2 x (Nat.lt_of_lt_of_le hx h.1) hn).trans (h.2 x hx hn)⟩
theorem KeptBut.of_below {bs : List Nat} {w w' : World} (h : Below w.heap.size w w') : KeptBut bs w w' := ⟨h.size, fun b hb _ => h.block b hb⟩
theorem KeptBut.setCell {bs : List Nat} {w : World} {p : Addr} (hp : p.block ∈ bs) (v : Value) : KeptBut bs w (w.setCell p v) := ⟨by simp, fun b _ hn => by
  have e : p.block ≠ b := fun e => hn (e ▸ hp)
  simp [World.setCell, Array.getElem?_modify, e]⟩
theorem KeptBut.mono {bs cs : List Nat} {w w' : World} (h : KeptBut bs w w') (hs : ∀ b ∈ bs, b ∈ cs) : KeptBut cs w w' := ⟨h.1, fun b hb hn => h.2 b hb fun hm => hn (hs b hm)⟩
theorem KeptBut.cell {bs : List Nat} {w w' : World} (h : KeptBut bs w w') {a : Addr} (hn : a.block ∉ bs) {v : Value} (hc : w.cell? a = some v) : w'.cell? a = some v := by
  have hlt := World.block_lt_of_cell? w a hc
  rw [← hc]
  exact World.cell?_of_block (h.2 a.block hlt hn)
theorem KeptBut.blk {bs : List Nat} {w w' : World} (h : KeptBut bs w w') {g : Nat} (hn : g ∉ bs) (hb : Blk w g) : Blk w' g := hb.same (h.2 g hb.lt hn)

/-- A list of strings in a block of its own. -/
def StrsOwn (w : World) (ls : List ByteArray) (A : Option Addr) (bs : List Nat) : Prop :=
  (ls = [] ∧ bs = []) ∨ ∃ g, A = some ⟨g, 0, none⟩ ∧ bs = [g] ∧ Blk w g ∧ ∀ (i : Nat) (s : ByteArray), ls[i]? = some s → w.cell? ⟨g, i, none⟩ = some (.string s)
theorem StrsOwn.keep {w w' : World} {ls : List ByteArray} {A : Option Addr} {bs cs : List Nat} (h : StrsOwn w ls A bs) (hk : KeptBut cs w w') (hd : ∀ b ∈ bs, b ∉ cs) : StrsOwn w' ls A bs := by
  rcases h with h | ⟨g, h1, h2, h3, h4⟩
  · exact Or.inl h
  · have hg := hd g (by simp [h2])
    exact Or.inr ⟨g, h1, h2, hk.blk hg h3, fun i s hs => hk.cell (a := ⟨g, i, none⟩) hg (h4 i s hs)⟩
theorem StrsOwn.strs {w : World} {ls : List ByteArray} {A : Option Addr} {bs : List Nat} (h : StrsOwn w ls A bs) {lo : Nat} (hlo : ∀ b ∈ bs, lo ≤ b) : Strs w lo ls A := fun hp => by
  rcases h with ⟨h, _⟩ | ⟨g, h1, h2, h3, h4⟩
  · rw [h] at hp
    simp at hp
  · exact ⟨g, 0, h1, hlo g (by simp [h2]), fun i s hs => by rw [Nat.zero_add]; exact h4 i s hs⟩

mutual
/-- A tree whose labels and kids lie in blocks of their own. -/
def Ty.Own (w : World) : Ty → Option Addr → Option Addr → List Nat → Prop
  | .mk _ _ ls ks, A, B, bs => ∃ b1 b2, bs = b1 ++ b2 ∧ StrsOwn w ls A b1 ∧ ((ks = [] ∧ b2 = []) ∨ ∃ g b3, B = some ⟨g, 0, none⟩ ∧ b2 = g :: b3 ∧ Blk w g ∧ Ty.RowOwn w ks g 0 b3)
def Ty.RowOwn (w : World) : List Ty → Nat → Nat → List Nat → Prop
  | [], _, _, bs => bs = []
  | t :: ts, g, o, bs => ∃ (A B : Option Addr) (ca cb : Nat) (b1 b2 : List Nat), bs = b1 ++ b2 ∧ (w.cell? ⟨g, o, none⟩ = some (.int .i64 t.kind) ∧ w.cell? ⟨g, o + 1, none⟩ = some (.string t.name) ∧ w.cell? ⟨g, o + 2, none⟩ = some (.slice A t.labels.length ca) ∧ w.cell? ⟨g, o + 3, none⟩ = some (.slice B t.kids.length cb)) ∧ Ty.Own w t A B b1 ∧ Ty.RowOwn w ts g (o + 4) b2
end
/-- A row of trees in a block of its own. -/
def Ty.RowsOwn (w : World) (ks : List Ty) (B : Option Addr) (bs : List Nat) : Prop := (ks = [] ∧ bs = []) ∨ ∃ g b3, B = some ⟨g, 0, none⟩ ∧ bs = g :: b3 ∧ Blk w g ∧ Ty.RowOwn w ks g 0 b3
theorem Ty.own_eq {w : World} {T : Ty} {A B : Option Addr} {bs : List Nat} : Ty.Own w T A B bs ↔ ∃ b1 b2, bs = b1 ++ b2 ∧ StrsOwn w T.labels A b1 ∧ Ty.RowsOwn w T.kids B b2 := by
  cases T
  unfold Ty.Own
  exact Iff.rfl

mutual
theorem Ty.Own.keep {w w' : World} {cs : List Nat} (hk : KeptBut cs w w') : ∀ {T : Ty} {A B : Option Addr} {bs : List Nat}, (∀ b ∈ bs, b ∉ cs) → Ty.Own w T A B bs → Ty.Own w' T A B bs
  | .mk k n ls ks, A, B, bs, hd, h => by
    unfold Ty.Own at h ⊢
    obtain ⟨b1, b2, rfl, h1, h2⟩ := h
    refine ⟨b1, b2, rfl, h1.keep hk (fun b hb => hd b (by simp [hb])), ?_⟩
    rcases h2 with h2 | ⟨g, b3, e1, rfl, e3, e4⟩
    · exact Or.inl h2
    · have hg := hd g (by simp)
      exact Or.inr ⟨g, b3, e1, rfl, hk.blk hg e3, Ty.RowOwn.keep hk hg (fun b hb => hd b (by simp [hb])) e4⟩
theorem Ty.RowOwn.keep {w w' : World} {cs : List Nat} (hk : KeptBut cs w w') : ∀ {ks : List Ty} {g o : Nat} {bs : List Nat}, g ∉ cs → (∀ b ∈ bs, b ∉ cs) → Ty.RowOwn w ks g o bs → Ty.RowOwn w' ks g o bs
  | [], g, o, bs, _, _, h => by
    unfold Ty.RowOwn at h ⊢
    exact h
  | t :: ts, g, o, bs, hg, hd, h => by
    unfold Ty.RowOwn at h ⊢
    obtain ⟨A, B, ca, cb, b1, b2, rfl, ⟨c0, c1, c2, c3⟩, h1, h2⟩ := h
    exact ⟨A, B, ca, cb, b1, b2, rfl, ⟨hk.cell (a := ⟨g, o, none⟩) hg c0, hk.cell (a := ⟨g, o + 1, none⟩) hg c1, hk.cell (a := ⟨g, o + 2, none⟩) hg c2, hk.cell (a := ⟨g, o + 3, none⟩) hg c3⟩, Ty.Own.keep hk (fun b hb => hd b (by simp [hb])) h1, Ty.RowOwn.keep hk hg (fun b hb => hd b (by simp [hb])) h2⟩
end
theorem Ty.RowOwn.get {w : World} : ∀ {ks : List Ty} {g o : Nat} {bs : List Nat}, Ty.RowOwn w ks g o bs → ∀ {i : Nat} {t : Ty}, ks[i]? = some t → ∃ (A B : Option Addr) (ca cb : Nat) (b1 : List Nat), (∀ b ∈ b1, b ∈ bs) ∧ (w.cell? ⟨g, o + i * 4, none⟩ = some (.int .i64 t.kind) ∧ w.cell? ⟨g, o + i * 4 + 1, none⟩ = some (.string t.name) ∧ w.cell? ⟨g, o + i * 4 + 2, none⟩ = some (.slice A t.labels.length ca) ∧ w.cell? ⟨g, o + i * 4 + 3, none⟩ = some (.slice B t.kids.length cb)) ∧ Ty.Own w t A B b1
  | x :: xs, g, o, bs, h, 0, t, ht => by
    unfold Ty.RowOwn at h
    obtain ⟨A, B, ca, cb, b1, b2, rfl, hc, h1, _⟩ := h
    simp at ht
    subst ht
    rw [Nat.zero_mul, Nat.add_zero]
    exact ⟨A, B, ca, cb, b1, fun b hb => by simp [hb], hc, h1⟩
  | x :: xs, g, o, bs, h, i + 1, t, ht => by
    unfold Ty.RowOwn at h
    obtain ⟨A, B, ca, cb, b1, b2, rfl, _, _, h2⟩ := h
    obtain ⟨A', B', ca', cb', b3, hs, hc, h3⟩ := Ty.RowOwn.get h2 (i := i) (t := t) (by simpa using ht)
    rw [show o + 4 + i * 4 = o + (i + 1) * 4 by omega] at hc
    exact ⟨A', B', ca', cb', b3, fun b hb => by simp [hs b hb], hc, h3⟩
theorem Ty.RowOwn.snoc {w : World} : ∀ {ks : List Ty} {g o : Nat} {bs : List Nat}, Ty.RowOwn w ks g o bs → ∀ {t : Ty} {A B : Option Addr} {ca cb : Nat} {b1 : List Nat}, (w.cell? ⟨g, o + ks.length * 4, none⟩ = some (.int .i64 t.kind) ∧ w.cell? ⟨g, o + ks.length * 4 + 1, none⟩ = some (.string t.name) ∧ w.cell? ⟨g, o + ks.length * 4 + 2, none⟩ = some (.slice A t.labels.length ca) ∧ w.cell? ⟨g, o + ks.length * 4 + 3, none⟩ = some (.slice B t.kids.length cb)) → Ty.Own w t A B b1 → Ty.RowOwn w (ks ++ [t]) g o (bs ++ b1)
  | [], g, o, bs, h, t, A, B, ca, cb, b1, hc, ht => by
    unfold Ty.RowOwn at h
    subst h
    rw [List.length_nil, Nat.zero_mul, Nat.add_zero] at hc
    rw [List.nil_append, List.nil_append]
    unfold Ty.RowOwn
    exact ⟨A, B, ca, cb, b1, [], by simp, hc, ht, by unfold Ty.RowOwn; rfl⟩
  | x :: xs, g, o, bs, h, t, A, B, ca, cb, b1, hc, ht => by
    unfold Ty.RowOwn at h
    obtain ⟨A', B', ca', cb', b3, b4, rfl, hx, h1, h2⟩ := h
    rw [List.length_cons, show o + (xs.length + 1) * 4 = o + 4 + xs.length * 4 by omega] at hc
    rw [List.cons_append]
    unfold Ty.RowOwn
    exact ⟨A', B', ca', cb', b3, b4 ++ b1, by simp, hx, h1, Ty.RowOwn.snoc h2 hc ht⟩
/-- It lies in memory. -/
theorem Ty.Own.at_ {w : World} {lo : Nat} : ∀ {T : Ty} {A B : Option Addr} {bs : List Nat}, (∀ b ∈ bs, lo ≤ b) → Ty.Own w T A B bs → Ty.At w lo T A B := by
  intro T
  induction T using Ty.kidInd with
  | h T ih =>
    intro A B bs hlo h
    obtain ⟨b1, b2, rfl, h1, h2⟩ := Ty.own_eq.mp h
    refine Ty.At.mk' (h1.strs fun b hb => hlo b (by simp [hb])) fun hp => ?_
    rcases h2 with ⟨h2, _⟩ | ⟨g, b3, e1, rfl, e3, e4⟩
    · rw [h2] at hp
      simp at hp
    · refine ⟨g, 0, e1, hlo g (by simp), fun i t ht => ?_⟩
      obtain ⟨A', B', ca, cb, b4, hs, ⟨c0, c1, c2, c3⟩, h5⟩ := e4.get ht
      rw [Nat.mul_comm i 4] at c0 c1 c2 c3
      exact ⟨A', B', ca, cb, c0, c1, c2, c3, ih i t ht (fun b hb => hlo b (by simp [hs b hb])) h5⟩
end Go.Proofs.YtifchfecfkdjlaaGreatDoor

namespace Go.Proofs.YtifchfecfkdjlaaGreatDoor
open Go.ChangeShapes Go.WideShapes Go.ChangeAt Go.RowKit Go.Deep

/-- A store into a row's block beside its cells. -/
theorem Ty.RowOwn.set {w : World} {i : Nat} (v : Value) : ∀ {ks : List Ty} {g o : Nat} {bs : List Nat}, (i < o ∨ o + ks.length * 4 ≤ i) → g ∉ bs → Ty.RowOwn w ks g o bs → Ty.RowOwn (w.setCell ⟨g, i, none⟩ v) ks g o bs
  | [], g, o, bs, _, _, h => by
    unfold Ty.RowOwn at h ⊢
    exact h
  | t :: ts, g, o, bs, hi, hg, h => by
    unfold Ty.RowOwn at h ⊢
    rw [List.length_cons] at hi
    obtain ⟨A, B, ca, cb, b1, b2, rfl, ⟨c0, c1, c2, c3⟩, h1, h2⟩ := h
    have hne : ∀ j, j < 4 → (⟨g, o + j, none⟩ : Addr) ≠ ⟨g, i, none⟩ := fun j hj e => by
      injection e with e1 e2
      omega
    have hc : ∀ j, j < 4 → ∀ u, w.cell? ⟨g, o + j, none⟩ = some u → (w.setCell ⟨g, i, none⟩ v).cell? ⟨g, o + j, none⟩ = some u := fun j hj u hu => by
      rw [World.cell?_setCell_other w ⟨g, i, none⟩ ⟨g, o + j, none⟩ v (by first | exact hne j hj | exact (hne j hj).symm)]
      exact hu
    have hk : KeptBut [g] w (w.setCell ⟨g, i, none⟩ v) := KeptBut.setCell (by simp) v
    exact ⟨A, B, ca, cb, b1, b2, rfl, ⟨hc 0 (by omega) _ c0, hc 1 (by omega) _ c1, hc 2 (by omega) _ c2, hc 3 (by omega) _ c3⟩, Ty.Own.keep hk (fun b hb => by simp; exact fun e => hg (by subst e; simp [hb])) h1, Ty.RowOwn.set v (by omega) (fun hm => hg (by simp [hm])) h2⟩

/-- So many kids are copied. -/
def RowOD (g n k : Nat) (ks : List Ty) (wr : World) : Prop := (∃ f, wr.rowIs g 30 (n * 4) f) ∧ ∃ bs, Ty.RowOwn wr (ks.take k) g 0 bs ∧ bs.Nodup ∧ ∀ b ∈ bs, g < b ∧ b < wr.heap.size
theorem RowOD.lt {g n k : Nat} {ks : List Ty} {wr : World} (h : RowOD g n k ks wr) : g < wr.heap.size := by
  obtain ⟨⟨f, hr⟩, _⟩ := h
  exact hr.lt
theorem RowOD.cells {g n k : Nat} {ks : List Ty} {wr : World} (h : RowOD g n k ks wr) (hk : k < n) (j : Nat) (hj : j < 4) : ∃ v, wr.cell? ⟨g, k * 4 + j, none⟩ = some v := by
  obtain ⟨⟨f, hr⟩, _⟩ := h
  exact ⟨_, hr.cell (by omega)⟩
theorem RowOD.free {g n k : Nat} {ks : List Ty} {wr : World} (h : RowOD g n k ks wr) (i : Nat) : wr.frozen? ⟨g, i, none⟩ = false := by
  obtain ⟨⟨f, hr⟩, _⟩ := h
  exact hr.frozen i
theorem RowOD.start {w0 : World} {n : Nat} {ks : List Ty} {c : Array Value} (hc : c.size = n * 4) : RowOD w0.heap.size n 0 ks (w0.alloc (.cells c 30)) := by
  refine ⟨⟨fun i => (c[i]?).getD undef, ?_⟩, [], by rw [List.take_zero]; unfold Ty.RowOwn; rfl, List.nodup_nil, by simp⟩
  rw [← hc]
  exact World.rowIs_alloc _ _ _ _ fun i hi => by simp [hi]
/-- Behind a call that leaves all that was: the blocks lie below what there was. -/
def RowOD2 (zs g n k : Nat) (ks : List Ty) (w2 : World) : Prop := (∃ f, w2.rowIs g 30 (n * 4) f) ∧ g < zs ∧ ∃ bs, Ty.RowOwn w2 (ks.take k) g 0 bs ∧ bs.Nodup ∧ ∀ b ∈ bs, g < b ∧ b < zs
theorem RowOD.below2 {g n k : Nat} {ks : List Ty} {wr w2 : World} (h : RowOD g n k ks wr) (hb : Below wr.heap.size wr w2) : RowOD2 wr.heap.size g n k ks w2 := by
  obtain ⟨⟨f, hr⟩, bs, h1, h2, h3⟩ := h
  exact ⟨⟨f, hr.of_block (hb.block _ hr.lt)⟩, hr.lt, bs, Ty.RowOwn.keep (cs := []) (KeptBut.of_below hb) (by simp) (by simp) h1, h2, h3⟩
theorem RowOD.below {g n k : Nat} {ks : List Ty} {wr w2 : World} (h : RowOD g n k ks wr) (hb : Below wr.heap.size wr w2) : RowOD g n k ks w2 := by
  obtain ⟨h1, _, bs, h2, h3, h4⟩ := h.below2 hb
  exact ⟨h1, bs, h2, h3, fun b hb' => ⟨(h4 b hb').1, Nat.lt_of_lt_of_le (h4 b hb').2 hb.size⟩⟩
theorem RowOD2.step {zs g n k : Nat} {ks : List Ty} {w2 : World} (h : RowOD2 zs g n k ks w2) {t : Ty} (ht : ks[k]? = some t) (hkn : k < n) {A B : Option Addr} {ca cb : Nat} {b1 : List Nat} (hat : Ty.Own w2 t A B b1) (hnd : b1.Nodup) (hbs : ∀ b ∈ b1, zs ≤ b ∧ b < w2.heap.size) (hzs : zs ≤ w2.heap.size) :
    RowOD g n (k + 1) ks ((((w2.setCell ⟨g, k * 4, none⟩ (.int .i64 t.kind)).setCell ⟨g, k * 4 + 1, none⟩ (.string t.name)).setCell ⟨g, k * 4 + 2, none⟩ (.slice A t.labels.length ca)).setCell ⟨g, k * 4 + 3, none⟩ (.slice B t.kids.length cb)) := by
  obtain ⟨⟨f, hr⟩, hgz, bs, h1, h2, h3⟩ := h
  have hkl := (List.getElem?_eq_some_iff.1 ht).1
  have hlen : (ks.take k).length = k := by rw [List.length_take]; omega
  have hg : g ∉ bs := fun hm => by have := (h3 g hm).1; omega
  have hg1 : g ∉ b1 := fun hm => by have := (hbs g hm).1; omega
  have hs := World.cell?_setCells_in g [.int .i64 t.kind, .string t.name, .slice A t.labels.length ca, .slice B t.kids.length cb] (k * 4) w2 (fun j hj => by
    have hj' : j < 4 := by simpa using hj
    rw [hr.cell (by omega)]
    rfl)
  have e0 := hs 0 (by simp)
  have e1 := hs 1 (by simp)
  have e2 := hs 2 (by simp)
  have e3 := hs 3 (by simp)
  rw [Nat.add_zero] at e0
  have hk : KeptBut [g] w2 ((((w2.setCell ⟨g, k * 4, none⟩ (.int .i64 t.kind)).setCell ⟨g, k * 4 + 1, none⟩ (.string t.name)).setCell ⟨g, k * 4 + 2, none⟩ (.slice A t.labels.length ca)).setCell ⟨g, k * 4 + 3, none⟩ (.slice B t.kids.length cb)) :=
    (((KeptBut.setCell (by simp) _).trans (KeptBut.setCell (by simp) _)).trans (KeptBut.setCell (by simp) _)).trans (KeptBut.setCell (by simp) _)
  refine ⟨⟨_, (((hr.set (k * 4) (.int .i64 t.kind)).set (k * 4 + 1) (.string t.name)).set (k * 4 + 2) (.slice A t.labels.length ca)).set (k * 4 + 3) (.slice B t.kids.length cb)⟩, bs ++ b1, ?_, ?_, ?_⟩
  · rw [Ty.take_succ ht]
    refine Ty.RowOwn.snoc ?_ (A := A) (B := B) (ca := ca) (cb := cb) ?_ (Ty.Own.keep hk (fun b hb => by simp; exact fun e => hg1 (e ▸ hb)) hat)
    · exact Ty.RowOwn.set _ (by rw [hlen]; omega) hg (Ty.RowOwn.set _ (by rw [hlen]; omega) hg (Ty.RowOwn.set _ (by rw [hlen]; omega) hg (Ty.RowOwn.set _ (by rw [hlen]; omega) hg h1)))
    · rw [hlen, Nat.zero_add]
      exact ⟨e0, e1, e2, e3⟩
  · rw [List.nodup_append]
    exact ⟨h2, hnd, fun a ha b hb e => by have := (h3 a ha).2; have := (hbs b hb).1; omega⟩
  · intro b hb
    have hz : ((((w2.setCell ⟨g, k * 4, none⟩ (.int .i64 t.kind)).setCell ⟨g, k * 4 + 1, none⟩ (.string t.name)).setCell ⟨g, k * 4 + 2, none⟩ (.slice A t.labels.length ca)).setCell ⟨g, k * 4 + 3, none⟩ (.slice B t.kids.length cb)).heap.size = w2.heap.size := by simp
    rw [hz]
    rcases List.mem_append.1 hb with hb | hb
    · have := h3 b hb
      omega
    · have := hbs b hb
      omega
theorem RowOD.done {g : Nat} {ks : List Ty} {wr : World} (h : RowOD g ks.length ks.length ks wr) : ∃ bs, Ty.RowsOwn wr ks (some ⟨g, 0, none⟩) bs ∧ bs.Nodup ∧ ∀ b ∈ bs, g ≤ b ∧ b < wr.heap.size := by
  obtain ⟨⟨f, hr⟩, bs, h1, h2, h3⟩ := h
  rw [List.take_length] at h1
  refine ⟨g :: bs, Or.inr ⟨g, bs, rfl, rfl, Blk.rowIs hr, h1⟩, ?_, ?_⟩
  · rw [List.nodup_cons]
    exact ⟨fun hm => by have := (h3 g hm).1; omega, h2⟩
  · intro b hb
    rcases List.mem_cons.1 hb with rfl | hb
    · exact ⟨Nat.le_refl _, hr.lt⟩
    · have := h3 b hb
      omega

/-- What copying a tree leaves: the same tree in memory of its own. -/
def ToOwnPost (T : Ty) (w : World) (e : Ending) (w' : World) : Prop := ∃ (A B : Option Addr) (bs : List Nat), e = .returned (.agg #[.int .i64 T.kind, .string T.name, .slice A T.labels.length T.labels.length, .slice B T.kids.length T.kids.length]) ∧ Ty.Own w' T A B bs ∧ bs.Nodup ∧ (∀ b ∈ bs, w.heap.size ≤ b ∧ b < w'.heap.size) ∧ Below w.heap.size w w'
def ToOwn (T : Ty) : Prop := ∀ (A B : Option Addr) (ca cb lo : Nat) (w : World), Ty.At w lo T A B →
  Calls Tryz.prog 9 #[.agg #[.int .i64 T.kind, .string T.name, .slice A T.labels.length ca, .slice B T.kids.length cb]] w (ToOwnPost T w)

theorem toStringS_own (ls : List ByteArray) (A : Option Addr) (cap : Nat) (hl : ls.length ≤ 1048576) (lo : Nat) (w : World) (h : Strs w lo ls A) :
    Calls Tryz.prog 26 #[.slice A ls.length cap] w fun e w' => e = .returned (.slice (some ⟨w.heap.size, 0, none⟩) ls.length ls.length) ∧ StrsOwn w' ls (some ⟨w.heap.size, 0, none⟩) [w.heap.size] ∧ Below w.heap.size w w' := by
  have H := Lib.hid h
  clear h
  obtain ⟨F, hF⟩ : ∃ F : Nat → Nat → Value, F = fun k j => if j < k then .string (ls.getD j ByteArray.empty) else .string ⟨#[]⟩ := ⟨_, rfl⟩
  have HF := Lib.hid hF
  clear hF
  have hmk := run_make_row' (P := Tryz.prog) 22 9 (.string ⟨#[]⟩) 16 Tryz.underlying22 infoString rfl .i64 .i64 ls.length (by omega) (by omega)
  go_enter Tryz.func26, Tryz.ntmps26
  go_wp2
  go_loopw [4] (fun i wr => ∃ k : Nat, k ≤ ls.length ∧ i = .int .i64 k ∧ wr.rowIs w.heap.size 9 ls.length (F k) ∧ Below w.heap.size w wr) (fun i _ => ls.length - (intOf i).toNat)
  case atStart => exact ⟨0, Nat.zero_le _, rfl, (World.rowIs_made _ _ _ _).congr (fun i _ => by rw [HF.out]; simp), below1 _ _⟩
  case round =>
    obtain ⟨k, hk, rfl, hrow, hbel⟩ := hrel
    by_cases hlt : k < ls.length
    · obtain ⟨b, o, s, rfl, _, hsk, hc0⟩ := H.out.at_ hlt
      have hc := keepCell hbel hc0
      have hg := hrow.cell hlt
      have hfz := hrow.frozen k
      have HR := Lib.hid hrow
      have hs : ls.getD k ByteArray.empty = s := by simp [List.getD, hsk]
      have HS := Lib.hid hs
      have hli : (k : Int) < (ls.length : Int) := by omega
      have HB := Lib.hid hbel
      clear hs hsk hc0 hrow hbel hmk
      go_wp2_with fail
      go_roundw
      case rel => exact ⟨k + 1, by omega, by go_num, ((HR.out.set k (.string s)).congr (fun j hj => by
          rw [HF.out]
          by_cases e : j = k
          · subst e
            simp [← HS.out]
          · by_cases hjk : j < k
            · simp [e, hjk, show j < k + 1 by omega]
            · simp [e, hjk, show ¬ j < k + 1 by omega])), HB.out.setCell (Nat.le_refl _) _⟩
      case measure => simp [intOf]; omega
    · have hk' : k = ls.length := by omega
      have HR := Lib.hid hrow
      have HB := Lib.hid hbel
      clear hrow hbel hmk
      go_wp2
      go_ret
      refine ⟨rfl, Or.inr ⟨_, rfl, rfl, Blk.rowIs HR.out, fun i s hs => ?_⟩, HB.out⟩
      obtain ⟨hi, hs'⟩ := List.getElem?_eq_some_iff.1 hs
      rw [HR.out.cell hi, HF.out]
      simp [hk', hi, hs']

set_option maxRecDepth 100000 in
theorem toTypeS_own_of (ks : List Ty) (hl : ks.length ≤ 1048576) (ih : ∀ (i : Nat) (t : Ty), ks[i]? = some t → ToOwn t) (B : Option Addr) (cb lo : Nat) (w : World) (h : Ty.RowAt w lo ks B) :
    Calls Tryz.prog 27 #[.slice B ks.length cb] w fun e w' => e = .returned (.slice (some ⟨w.heap.size, 0, none⟩) ks.length ks.length) ∧ (∃ bs, Ty.RowsOwn w' ks (some ⟨w.heap.size, 0, none⟩) bs ∧ bs.Nodup ∧ ∀ b ∈ bs, w.heap.size ≤ b ∧ b < w'.heap.size) ∧ Below w.heap.size w w' := by
  have H := Lib.hid h
  have IH := Lib.hid ih
  clear h ih
  obtain ⟨i0, hi0, hzz⟩ := Option.map_eq_some_iff.1 infoType
  simp only [Prod.mk.injEq] at hzz
  obtain ⟨hz0, hz1, hz2⟩ := hzz
  have hmk : ∀ W : World, (Instr.makeSlice 28 (.int .i64 (ks.length : Int)) (.int .i64 (ks.length : Int))).run Tryz.prog W = .ok (.slice (some ⟨W.heap.size, 0, none⟩) ks.length ks.length) (W.alloc (.cells (madeCells #[.int .i64 0, .string ⟨#[]⟩, .slice none 0 0, .slice none 0 0] (ks.length * 4)) 30)) := by
    intro W
    rw [run_make W 28 30 i0 _ Tryz.underlying28 hi0 hz0 .i64 .i64 (ks.length : Int) (ks.length : Int) (by omega) (by omega) (by rw [hz2]; omega) (by omega), hz1]
    simp [Value.cells]
  clear hz0 hz1 hz2 hi0
  go_enter Tryz.func27, Tryz.ntmps27
  go_wp2
  go_loopw [4] (fun i wr => ∃ k : Nat, k ≤ ks.length ∧ i = .int .i64 k ∧ RowOD w.heap.size ks.length k ks wr ∧ Below w.heap.size w wr) (fun i _ => ks.length - (intOf i).toNat)
  case atStart => exact ⟨0, Nat.zero_le _, rfl, RowOD.start (size_madeCells _ _), below1 _ _⟩
  case round =>
    obtain ⟨k, hk, rfl, hrow, hbel⟩ := hrel
    clear hmk
    by_cases hlt : k < ks.length
    · obtain ⟨b, o, t, A', B', ca', cb', rfl, _, htk, hc⟩ := (H.out.below hbel).at_ hlt
      have C := Lib.hid (IH.out k t htk A' B' ca' cb' lo wr hc.tree)
      obtain ⟨c0, c1, c2, c3, _⟩ := hc
      have HB := Lib.hid hbel
      have HR := Lib.hid hrow
      have HT := Lib.hid htk
      have hlc := hbel.size
      have hgl := hrow.lt
      clear htk hbel hrow
      go_wp2_with (go_at_call 9; (with_reducible refine C.out.mono ?_); rintro e w2 ⟨A2, B2, b2, rfl, hat, hnd, hbs, hb2⟩; have HR2 := Lib.hid (HR.out.below2 hb2); have HR3 := Lib.hid (HR.out.below hb2); have HRB := Lib.hid hb2.size; have HA2 := Lib.hid hat; have HND := Lib.hid hnd; have HBS := Lib.hid hbs; obtain ⟨x0, y0⟩ := HR3.out.cells hlt 0 (by omega); obtain ⟨x1, y1⟩ := HR3.out.cells hlt 1 (by omega); obtain ⟨x2, y2⟩ := HR3.out.cells hlt 2 (by omega); obtain ⟨x3, y3⟩ := HR3.out.cells hlt 3 (by omega); have z0 := HR3.out.free (k * 4); have z1 := HR3.out.free (k * 4 + 1); have z2 := HR3.out.free (k * 4 + 2); have z3 := HR3.out.free (k * 4 + 3); rw [Nat.add_zero] at y0; have hlt2 : w.heap.size < w2.heap.size := Nat.lt_of_lt_of_le hgl hb2.size; have HB2 := Lib.hid (bchain HB.out hb2 hlc); clear hat hb2 hnd hbs)
      go_roundw
      case rel =>
        exact ⟨k + 1, by omega, by go_num, HR2.out.step HT.out hlt HA2.out HND.out HBS.out HRB.out, (((HB2.out.setCell (Nat.le_refl _) _).setCell (Nat.le_refl _) _).setCell (Nat.le_refl _) _).setCell (Nat.le_refl _) _⟩
      case measure => simp [intOf]; omega
    · have hk' : k = ks.length := by omega
      have HR := Lib.hid hrow
      have HB := Lib.hid hbel
      clear hrow hbel
      go_wp2
      go_ret
      refine ⟨rfl, RowOD.done ?_, HB.out⟩
      have := HR.out
      rw [hk'] at this
      exact this
end Go.Proofs.YtifchfecfkdjlaaGreatDoor

namespace Go.Proofs.YtifchfecfkdjlaaGreatDoor
open Go.ChangeShapes Go.WideShapes Go.ChangeAt Go.RowKit Go.Deep

set_option maxRecDepth 100000 in
theorem toType_own (T : Ty) (hT : T.wt ≤ 1048576) : ToOwn T := by
  induction T using Ty.kidInd with
  | h T ih =>
    intro A B ca cb lo w h
    obtain ⟨q1, q2, q3, _, _⟩ := Ty.len_le hT
    have CS : Hid (∀ W : World, Strs W lo T.labels A → Calls Tryz.prog 26 #[.slice A T.labels.length ca] W fun e w' => e = .returned (.slice (some ⟨W.heap.size, 0, none⟩) T.labels.length T.labels.length) ∧ StrsOwn w' T.labels (some ⟨W.heap.size, 0, none⟩) [W.heap.size] ∧ Below W.heap.size W w') := Lib.hid (fun W hW => toStringS_own T.labels A ca q1 lo W hW)
    have CK : Hid (∀ W : World, Ty.RowAt W lo T.kids B → Calls Tryz.prog 27 #[.slice B T.kids.length cb] W fun e w' => e = .returned (.slice (some ⟨W.heap.size, 0, none⟩) T.kids.length T.kids.length) ∧ (∃ bs, Ty.RowsOwn w' T.kids (some ⟨W.heap.size, 0, none⟩) bs ∧ bs.Nodup ∧ ∀ b ∈ bs, W.heap.size ≤ b ∧ b < w'.heap.size) ∧ Below W.heap.size W w') := Lib.hid (fun W hW => toTypeS_own_of T.kids q2 (fun i t ht => ih i t ht (q3 i t ht)) B cb lo W hW)
    have HS := Lib.hid h.strs
    have HR := Lib.hid h.rowAt
    clear ih h q3 hT
    go_enter Tryz.func9, Tryz.ntmps9
    go_wp2_with (first
      | (go_at_call 26; (with_reducible refine (CS.out _ (HS.out.below (below3 _ _ _ _))).mono ?_); rintro e w2 ⟨rfl, hs2, hb2⟩; obtain ⟨hc2, hf2⟩ := bcell hb2; have d0 := keepCell (a := ⟨w.heap.size + 1 + 1, 0, none⟩) (v := .int .i64 T.kind) hb2 (by go_simp); have d1 := keepCell (a := ⟨w.heap.size + 1 + 1, 1, none⟩) (v := .string T.name) hb2 (by go_simp); have d2 := keepCell (a := ⟨w.heap.size + 1 + 1, 2, none⟩) (v := .slice none 0 0) hb2 (by go_simp); have d3 := keepCell (a := ⟨w.heap.size + 1 + 1, 3, none⟩) (v := .slice none 0 0) hb2 (by go_simp); have r0 := keepCell (a := ⟨w.heap.size + 1, 0, none⟩) (v := .int .i64 0) hb2 (by go_simp); have r1 := keepCell (a := ⟨w.heap.size + 1, 1, none⟩) (v := .string ⟨#[]⟩) hb2 (by go_simp); have r2 := keepCell (a := ⟨w.heap.size + 1, 2, none⟩) (v := .slice none 0 0) hb2 (by go_simp); have r3 := keepCell (a := ⟨w.heap.size + 1, 3, none⟩) (v := .slice none 0 0) hb2 (by go_simp); have a3 := keepCell (a := ⟨w.heap.size, 3, none⟩) (v := .slice B T.kids.length cb) hb2 (by go_simp); have hB2 := Lib.hid (bnext (below3 _ _ _ _) hb2); have HS2 : Hid (StrsOwn w2 T.labels (some ⟨w.heap.size + 1 + 1 + 1, 0, none⟩) [w.heap.size + 1 + 1 + 1]) := Lib.hid (by simpa using hs2); have hz2 : w.heap.size + 1 + 1 < w2.heap.size := (by have h9 := hb2.size; simp at h9; omega); have g2 : ∀ o, w2.frozen? ⟨w.heap.size + 1, o, none⟩ = false := (fun o => (hf2 _ _ (by first | (simp; done) | (simp; omega))).trans (by go_simp)); have h2 : ∀ o, w2.frozen? ⟨w.heap.size + 1 + 1, o, none⟩ = false := (fun o => (hf2 _ _ (by first | (simp; done) | (simp; omega))).trans (by go_simp)); clear hs2 hb2 hc2)
      | (go_at_call 27; (with_reducible refine (CK.out _ (HR.out.below (hB2.out.setCell (by simp; omega) _))).mono ?_); rintro e w3 ⟨rfl, hr3, hb3⟩; obtain ⟨hc3, hf3⟩ := bcell hb3; have e0 := keepCell (a := ⟨w.heap.size + 1 + 1, 0, none⟩) (v := .int .i64 T.kind) hb3 (by go_simp); have e1 := keepCell (a := ⟨w.heap.size + 1 + 1, 1, none⟩) (v := .string T.name) hb3 (by go_simp); have e2 := keepCell (a := ⟨w.heap.size + 1 + 1, 2, none⟩) (v := .slice (some ⟨w.heap.size + 1 + 1 + 1, 0, none⟩) T.labels.length T.labels.length) hb3 (by go_simp); have e3 := keepCell (a := ⟨w.heap.size + 1 + 1, 3, none⟩) (v := .slice none 0 0) hb3 (by go_simp); have s0 := keepCell (a := ⟨w.heap.size + 1, 0, none⟩) (v := .int .i64 0) hb3 (by go_simp); have s1 := keepCell (a := ⟨w.heap.size + 1, 1, none⟩) (v := .string ⟨#[]⟩) hb3 (by go_simp); have s2 := keepCell (a := ⟨w.heap.size + 1, 2, none⟩) (v := .slice none 0 0) hb3 (by go_simp); have s3 := keepCell (a := ⟨w.heap.size + 1, 3, none⟩) (v := .slice none 0 0) hb3 (by go_simp); have HR3 : Hid (∃ bs, Ty.RowsOwn w3 T.kids (some ⟨w2.heap.size, 0, none⟩) bs ∧ bs.Nodup ∧ ∀ b ∈ bs, w2.heap.size ≤ b ∧ b < w3.heap.size) := Lib.hid (by obtain ⟨bs9, x1, x2, x3⟩ := hr3; exact ⟨bs9, by simpa using x1, x2, fun b hb => by simpa using x3 b hb⟩); have HB3 := Lib.hid hb3; have hz3 : w.heap.size + 1 + 1 < w3.heap.size := (by have h9 := hb3.size; simp at h9; omega); have g3 : ∀ o, w3.frozen? ⟨w.heap.size + 1, o, none⟩ = false := (fun o => (hf3 _ _ (by first | (simp; done) | (simp; omega))).trans (by go_simp)); have h3 : ∀ o, w3.frozen? ⟨w.heap.size + 1 + 1, o, none⟩ = false := (fun o => (hf3 _ _ (by first | (simp; done) | (simp; omega))).trans (by go_simp)); clear hr3 hb3 hc3 hf3 hf2 d0 d1 d2 d3 r0 r1 r2 r3))
    obtain ⟨k0, k1, k2, k3⟩ := four_set (w3.setCell ⟨w.heap.size + 1 + 1, 3, none⟩ (.slice (some ⟨w2.heap.size, 0, none⟩) T.kids.length T.kids.length)) (w.heap.size + 1) (.int .i64 T.kind) (.string T.name) (.slice (some ⟨w.heap.size + 1 + 1 + 1, 0, none⟩) T.labels.length T.labels.length) (.slice (some ⟨w2.heap.size, 0, none⟩) T.kids.length T.kids.length) (fun j hj => by
      have h4 : j = 0 ∨ j = 1 ∨ j = 2 ∨ j = 3 := by omega
      rcases h4 with rfl | rfl | rfl | rfl <;> simp [World.cell?_setCell_other, s0, s1, s2, s3])
    refine bodyPost_ret (v := .agg #[.int .i64 T.kind, .string T.name, .slice (some ⟨w.heap.size + 1 + 1 + 1, 0, none⟩) T.labels.length T.labels.length, .slice (some ⟨w2.heap.size, 0, none⟩) T.kids.length T.kids.length]) (by simp [results, Tryz.results9, go_sem, k0, k1, k2, k3]) rfl ?_
    obtain ⟨bs, hro, hnd, hbs⟩ := HR3.out
    have hzz : w.heap.size + 1 + 1 + 1 < w2.heap.size := by
      rcases HS2.out with ⟨_, h9⟩ | ⟨g9, h8, h9, h10, _⟩
      · cases h9
      · injection h9 with h9
        subst h9
        exact h10.lt
    have hz3' : w2.heap.size ≤ w3.heap.size := by
      have := HB3.out.size
      simpa using this
    have hKF : KeptBut [w.heap.size + 1, w.heap.size + 1 + 1] w3 (((((w3.setCell ⟨w.heap.size + 1 + 1, 3, none⟩ (.slice (some ⟨w2.heap.size, 0, none⟩) T.kids.length T.kids.length)).setCell ⟨w.heap.size + 1, 0, none⟩ (.int .i64 T.kind)).setCell ⟨w.heap.size + 1, 1, none⟩ (.string T.name)).setCell ⟨w.heap.size + 1, 2, none⟩ (.slice (some ⟨w.heap.size + 1 + 1 + 1, 0, none⟩) T.labels.length T.labels.length)).setCell ⟨w.heap.size + 1, 3, none⟩ (.slice (some ⟨w2.heap.size, 0, none⟩) T.kids.length T.kids.length)) :=
      ((((KeptBut.setCell (by simp) _).trans (KeptBut.setCell (by simp) _)).trans (KeptBut.setCell (by simp) _)).trans (KeptBut.setCell (by simp) _)).trans (KeptBut.setCell (by simp) _)
    have hKS : KeptBut [w.heap.size + 1, w.heap.size + 1 + 1] w2 w3 := (KeptBut.setCell (p := ⟨w.heap.size + 1 + 1, 2, none⟩) (by simp) _).trans (KeptBut.of_below HB3.out)
    refine ⟨_, _, [w.heap.size + 1 + 1 + 1] ++ bs, rfl, Ty.own_eq.mpr ⟨_, _, rfl, HS2.out.keep (hKS.trans hKF) (fun b hb hm => by simp at hb hm; omega), ?_⟩, ?_, ?_, ?_⟩
    · rcases hro with ⟨h1, h2⟩ | ⟨g, b3, h1, rfl, h3, h4⟩
      · exact Or.inl ⟨h1, h2⟩
      · have hg := hbs g (by simp)
        have hno : ∀ b ∈ g :: b3, b ∉ [w.heap.size + 1, w.heap.size + 1 + 1] := fun b hb hm => by
          have h5 := (hbs b hb).1
          simp at hm
          omega
        exact Or.inr ⟨g, b3, h1, rfl, hKF.blk (hno g (by simp)) h3, Ty.RowOwn.keep hKF (hno g (by simp)) (fun b hb => hno b (by simp [hb])) h4⟩
    · rw [List.singleton_append, List.nodup_cons]
      exact ⟨fun hm => by have := (hbs _ hm).1; omega, hnd⟩
    · intro b hb
      have hz : (((((w3.setCell ⟨w.heap.size + 1 + 1, 3, none⟩ (.slice (some ⟨w2.heap.size, 0, none⟩) T.kids.length T.kids.length)).setCell ⟨w.heap.size + 1, 0, none⟩ (.int .i64 T.kind)).setCell ⟨w.heap.size + 1, 1, none⟩ (.string T.name)).setCell ⟨w.heap.size + 1, 2, none⟩ (.slice (some ⟨w.heap.size + 1 + 1 + 1, 0, none⟩) T.labels.length T.labels.length)).setCell ⟨w.heap.size + 1, 3, none⟩ (.slice (some ⟨w2.heap.size, 0, none⟩) T.kids.length T.kids.length)).heap.size = w3.heap.size := by simp
      rw [hz]
      rcases List.mem_append.1 hb with hb | hb
      · simp at hb
        omega
      · have := hbs b hb
        omega
    · exact (((((bnext (hB2.out.setCell (by first | (simp; done) | (simp; omega)) _) HB3.out).setCell (by first | (simp; done) | (simp; omega)) _).setCell (by first | (simp; done) | (simp; omega)) _).setCell (by first | (simp; done) | (simp; omega)) _).setCell (by first | (simp; done) | (simp; omega)) _).setCell (by first | (simp; done) | (simp; omega)) _
end Go.Proofs.YtifchfecfkdjlaaGreatDoor

namespace Go.Proofs.YtifchfecfkdjlaaGreatDoor
open Go.ChangeShapes Go.WideShapes Go.ChangeAt Go.RowKit Go.Deep

def SameUpto (xs ys : List ByteArray) (k : Nat) : Prop := ∀ (i : Nat), i < k → xs[i]? = ys[i]?
theorem SameUpto.step {xs ys : List ByteArray} {k : Nat} {s t : ByteArray} (h : SameUpto xs ys k) (hs : xs[k]? = some s) (ht : ys[k]? = some t) (e : s = t) : SameUpto xs ys (k + 1) := fun i hi => by
  by_cases e2 : i = k
  · subst e2
    rw [hs, ht, e]
  · exact h i (by omega)
theorem SameUpto.eq {xs ys : List ByteArray} (hl : xs.length = ys.length) (h : SameUpto xs ys xs.length) : xs = ys := by
  apply List.ext_getElem?
  intro i
  by_cases hi : i < xs.length
  · exact h i hi
  · rw [List.getElem?_eq_none (by omega), List.getElem?_eq_none (by omega)]

/-- An answer; the world has drawn. -/
def SaysD (p : Prop) (w : World) (e : Ending) (w' : World) : Prop := ∃ v : Bool, e = .returned (.bool v) ∧ (v = true ↔ p) ∧ ∃ n, w' = w.drewN n

theorem l03Texts_any (xs ys : List ByteArray) (hx : xs.length ≤ 1048576) (_ : ys.length ≤ 1048576) (A B : Option Addr) (ca cb lo lo' : Nat) (w : World) (h : Strs w lo xs A) (h' : Strs w lo' ys B) :
    Calls Tryz.prog 86 #[.slice A xs.length ca, .slice B ys.length cb] w (SaysD (xs = ys) w) := by
  have H := Lib.hid h
  have H' := Lib.hid h'
  clear h h'
  by_cases hl : xs.length = ys.length
  · rw [← hl]
    have HL := Lib.hid hl
    clear hl
    go_enter Tryz.func86, Tryz.ntmps86
    go_wp2_with fail
    go_loopw [5] (fun i wr => ∃ k : Nat, k ≤ xs.length ∧ i = .int .i64 k ∧ Hid (SameUpto xs ys k) ∧ ∃ n, wr = w.drewN n) (fun i _ => xs.length - (intOf i).toNat)
    case atStart => exact ⟨0, Nat.zero_le _, rfl, (fun i hi => by omega), 0, rfl⟩
    case round =>
      obtain ⟨k, hk, rfl, hno, n, rfl⟩ := hrel
      by_cases hlt : k < xs.length
      · obtain ⟨b, o, s, rfl, _, hsk, hc⟩ := H.out.at_ hlt
        obtain ⟨b', o', t, rfl, _, htk, hc'⟩ := H'.out.at_ (k := k) (by have := HL.out; omega)
        have HS := Lib.hid hsk
        have HT := Lib.hid htk
        have hli : (k : Int) < (xs.length : Int) := by omega
        clear hsk htk
        by_cases he : s = t
        · have HE := Lib.hid he
          have e1 : (s.toList == t.toList) = true := by rw [he, beq_iff_eq]
          clear he
          go_wp2_with fail
          go_quiet (fail)
          go_wp2_with fail
          go_roundw
          case rel => exact ⟨k + 1, by omega, by go_num, hno.out.step HS.out HT.out HE.out, _, rfl⟩
          case measure => simp [intOf]; omega
        · have HE := Lib.hid he
          have e1 := text_ne he
          clear he
          go_wp2_with fail
          go_quiet (fail)
          go_wp2_with fail
          go_ret
          exact ⟨false, rfl, iffF (fun h => by have h1 := HS.out; rw [h, HT.out] at h1; exact HE.out (Option.some.inj h1).symm), _, World.drewN_drewN _ _ _⟩
      · have hk' : k = xs.length := by omega
        go_wp2
        go_ret
        exact ⟨true, rfl, iffT (SameUpto.eq HL.out (by rw [← hk']; exact hno.out)), _, rfl⟩
  · have hl2 : ((xs.length : Int) == (ys.length : Int)) = false := by rw [beq_eq_false_iff_ne]; omega
    have HL := Lib.hid hl
    clear hl
    go_enter Tryz.func86, Tryz.ntmps86
    go_wp2_with fail
    go_ret
    exact ⟨false, rfl, iffF (fun h => HL.out (by rw [h])), 0, rfl⟩

theorem sliEqual_any (xs ys : List ByteArray) (hx : xs.length ≤ 1048576) (_ : ys.length ≤ 1048576) (A B : Option Addr) (ca cb lo lo' : Nat) (w : World) (h : Strs w lo xs A) (h' : Strs w lo' ys B) :
    Calls Tryz.prog 100 #[.slice A xs.length ca, .slice B ys.length cb] w (SaysD (xs = ys) w) := by
  have H := Lib.hid h
  have H' := Lib.hid h'
  clear h h'
  by_cases hl : xs.length = ys.length
  · rw [← hl]
    have HL := Lib.hid hl
    clear hl
    go_enter Tryz.func100, Tryz.ntmps100
    go_wp2_with fail
    go_loopw [13] (fun i wr => ∃ k : Nat, k ≤ xs.length ∧ i = .int .i64 k ∧ Hid (SameUpto xs ys k) ∧ ∃ n, wr = w.drewN n) (fun i _ => xs.length - (intOf i).toNat)
    case atStart => exact ⟨0, Nat.zero_le _, rfl, (fun i hi => by omega), 0, rfl⟩
    case round =>
      obtain ⟨k, hk, rfl, hno, n, rfl⟩ := hrel
      by_cases hlt : k < xs.length
      · obtain ⟨b, o, s, rfl, _, hsk, hc⟩ := H.out.at_ hlt
        obtain ⟨b', o', t, rfl, _, htk, hc'⟩ := H'.out.at_ (k := k) (by have := HL.out; omega)
        have HS := Lib.hid hsk
        have HT := Lib.hid htk
        have hli : (k : Int) < (xs.length : Int) := by omega
        clear hsk htk
        by_cases he : s = t
        · have HE := Lib.hid he
          have e1 : (s.toList == t.toList) = true := by rw [he, beq_iff_eq]
          clear he
          go_wp2_with fail
          go_quiet (fail)
          go_wp2_with fail
          go_roundw
          case rel => exact ⟨k + 1, by omega, by go_num, hno.out.step HS.out HT.out HE.out, _, rfl⟩
          case measure => simp [intOf]; omega
        · have HE := Lib.hid he
          have e1 := text_ne he
          clear he
          go_wp2_with fail
          go_quiet (fail)
          go_wp2_with fail
          go_ret
          exact ⟨false, rfl, iffF (fun h => by have h1 := HS.out; rw [h, HT.out] at h1; exact HE.out (Option.some.inj h1).symm), _, World.drewN_drewN _ _ _⟩
      · have hk' : k = xs.length := by omega
        go_wp2
        go_ret
        exact ⟨true, rfl, iffT (SameUpto.eq HL.out (by rw [← hk']; exact hno.out)), _, rfl⟩
  · have hl2 : ((xs.length : Int) == (ys.length : Int)) = false := by rw [beq_eq_false_iff_ne]; omega
    have HL := Lib.hid hl
    clear hl
    go_enter Tryz.func100, Tryz.ntmps100
    go_wp2_with fail
    go_ret
    exact ⟨false, rfl, iffF (fun h => HL.out (by rw [h])), 0, rfl⟩
end Go.Proofs.YtifchfecfkdjlaaGreatDoor

