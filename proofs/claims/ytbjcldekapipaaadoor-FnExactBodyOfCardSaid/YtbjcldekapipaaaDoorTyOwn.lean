/-
  Trees of types that own their memory: which blocks they lie in, each a plain block of its own. No condition.
-/
import Derived.Test.YtbjcldekapipaaaDoorTyPure
import Derived.Test.YtbjcldekapipaaaDoorRowGen
namespace Go.Proofs.YtbjcldekapipaaaDoor
open Go.ChangeShapes Go.WideShapes Go.ChangeAt Go.RowKit Go.Deep

theorem Blk.rowIs {w : World} {g n : Nat} {t : TypeId} {f : Nat → Value} (h : w.rowIs g t n f) : Blk w g := by
  obtain ⟨c, hc, _⟩ := h
  exact ⟨c, t, hc⟩

/-- All blocks but these are as they were. -/
def KeptBut (bs : List Nat) (w w' : World) : Prop := w.heap.size ≤ w'.heap.size ∧ ∀ b, b < w.heap.size → b ∉ bs → w'.heap[b]? = w.heap[b]?
theorem KeptBut.refl (bs : List Nat) (w : World) : KeptBut bs w w := ⟨Nat.le_refl _, fun _ _ _ => rfl⟩
theorem KeptBut.trans {bs : List Nat} {a b c : World} (h : KeptBut bs a b) (k : KeptBut bs b c) : KeptBut bs a c := ⟨Nat.le_trans h.1 k.1, fun x hx hn => (k.2 x (Nat.lt_of_lt_of_le hx h.1) hn).trans (h.2 x hx hn)⟩
theorem KeptBut.of_below {bs : List Nat} {w w' : World} (h : Below w.heap.size w w') : KeptBut bs w w' := ⟨h.size, fun b hb _ => h.block b hb⟩
theorem KeptBut.setCell {bs : List Nat} {w : World} {p : Addr} (hp : p.block ∈ bs) (v : Value) : KeptBut bs w (w.setCell p v) := ⟨by simp, fun b _ hn => by
  have e : p.block ≠ b := fun e => hn (e ▸ hp)
  simp [World.setCell, Array.getElem?_modify, e]⟩
theorem KeptBut.mono {bs cs : List Nat} {w w' : World} (h : KeptBut bs w w') (hs : ∀ b ∈ bs, b ∈ cs) : KeptBut cs w w' := ⟨h.1, fun b hb hn => h.2 b hb fun hm => hn (hs b hm)⟩
theorem KeptBut.cell {bs : List Nat} {w w' : World} (h : KeptBut bs w w') {a : Addr} (hn : a.block ∉ bs) {v : Value} (hc : w.cell? a = some v) : w'.cell? a = some v := by
  have hlt := World.block_lt_of_cell? w a hc
  rw [← hc]
  exact World.cell?_of_block (h.2 a.block hlt hn)
theorem KeptBut.blk {bs : List Nat} {w w' : World} (h : KeptBut bs w w') {g : Nat} (hn : g ∉ bs) (hb : Blk w g) : Blk w' g := hb.same (h.2 g hb.lt hn)

/-- A list of strings in a block of its own. -/
def StrsOwn (w : World) (ls : List ByteArray) (A : Option Addr) (bs : List Nat) : Prop :=
  (ls = [] ∧ bs = []) ∨ ∃ g, A = some ⟨g, 0, none⟩ ∧ bs = [g] ∧ Blk w g ∧ ∀ (i : Nat) (s : ByteArray), ls[i]? = some s → w.cell? ⟨g, i, none⟩ = some (.string s)
theorem StrsOwn.keep {w w' : World} {ls : List ByteArray} {A : Option Addr} {bs cs : List Nat} (h : StrsOwn w ls A bs) (hk : KeptBut cs w w') (hd : ∀ b ∈ bs, b ∉ cs) : StrsOwn w' ls A bs := by
  rcases h with h | ⟨g, h1, h2, h3, h4⟩
  · exact Or.inl h
  · have hg := hd g (by simp [h2])
    exact Or.inr ⟨g, h1, h2, hk.blk hg h3, fun i s hs => hk.cell (a := ⟨g, i, none⟩) hg (h4 i s hs)⟩
theorem StrsOwn.strs {w : World} {ls : List ByteArray} {A : Option Addr} {bs : List Nat} (h : StrsOwn w ls A bs) {lo : Nat} (hlo : ∀ b ∈ bs, lo ≤ b) : Strs w lo ls A := fun hp => by
  rcases h with ⟨h, _⟩ | ⟨g, h1, h2, h3, h4⟩
  · rw [h] at hp
    simp at hp
  · exact ⟨g, 0, h1, hlo g (by simp [h2]), fun i s hs => by rw [Nat.zero_add]; exact h4 i s hs⟩

mutual
/-- A tree whose labels and kids lie in blocks of their own. -/
def Ty.Own (w : World) : Ty → Option Addr → Option Addr → List Nat → Prop
  | .mk _ _ ls ks, A, B, bs => ∃ b1 b2, bs = b1 ++ b2 ∧ StrsOwn w ls A b1 ∧ ((ks = [] ∧ b2 = []) ∨ ∃ g b3, B = some ⟨g, 0, none⟩ ∧ b2 = g :: b3 ∧ Blk w g ∧ Ty.RowOwn w ks g 0 b3)
def Ty.RowOwn (w : World) : List Ty → Nat → Nat → List Nat → Prop
  | [], _, _, bs => bs = []
  | t :: ts, g, o, bs => ∃ (A B : Option Addr) (ca cb : Nat) (b1 b2 : List Nat), bs = b1 ++ b2 ∧ (w.cell? ⟨g, o, none⟩ = some (.int .i64 t.kind) ∧ w.cell? ⟨g, o + 1, none⟩ = some (.string t.name) ∧ w.cell? ⟨g, o + 2, none⟩ = some (.slice A t.labels.length ca) ∧ w.cell? ⟨g, o + 3, none⟩ = some (.slice B t.kids.length cb)) ∧ Ty.Own w t A B b1 ∧ Ty.RowOwn w ts g (o + 4) b2
end
/-- A row of trees in a block of its own. -/
def Ty.RowsOwn (w : World) (ks : List Ty) (B : Option Addr) (bs : List Nat) : Prop := (ks = [] ∧ bs = []) ∨ ∃ g b3, B = some ⟨g, 0, none⟩ ∧ bs = g :: b3 ∧ Blk w g ∧ Ty.RowOwn w ks g 0 b3
theorem Ty.own_eq {w : World} {T : Ty} {A B : Option Addr} {bs : List Nat} : Ty.Own w T A B bs ↔ ∃ b1 b2, bs = b1 ++ b2 ∧ StrsOwn w T.labels A b1 ∧ Ty.RowsOwn w T.kids B b2 := by
  cases T
  unfold Ty.Own
  exact Iff.rfl

mutual
theorem Ty.Own.keep {w w' : World} {cs : List Nat} (hk : KeptBut cs w w') : ∀ {T : Ty} {A B : Option Addr} {bs : List Nat}, (∀ b ∈ bs, b ∉ cs) → Ty.Own w T A B bs → Ty.Own w' T A B bs
  | .mk k n ls ks, A, B, bs, hd, h => by
    unfold Ty.Own at h ⊢
    obtain ⟨b1, b2, rfl, h1, h2⟩ := h
    refine ⟨b1, b2, rfl, h1.keep hk (fun b hb => hd b (by simp [hb])), ?_⟩
    rcases h2 with h2 | ⟨g, b3, e1, rfl, e3, e4⟩
    · exact Or.inl h2
    · have hg := hd g (by simp)
      exact Or.inr ⟨g, b3, e1, rfl, hk.blk hg e3, Ty.RowOwn.keep hk hg (fun b hb => hd b (by simp [hb])) e4⟩
theorem Ty.RowOwn.keep {w w' : World} {cs : List Nat} (hk : KeptBut cs w w') : ∀ {ks : List Ty} {g o : Nat} {bs : List Nat}, g ∉ cs → (∀ b ∈ bs, b ∉ cs) → Ty.RowOwn w ks g o bs → Ty.RowOwn w' ks g o bs
  | [], g, o, bs, _, _, h => by
    unfold Ty.RowOwn at h ⊢
    exact h
  | t :: ts, g, o, bs, hg, hd, h => by
    unfold Ty.RowOwn at h ⊢
    obtain ⟨A, B, ca, cb, b1, b2, rfl, ⟨c0, c1, c2, c3⟩, h1, h2⟩ := h
    exact ⟨A, B, ca, cb, b1, b2, rfl, ⟨hk.cell (a := ⟨g, o, none⟩) hg c0, hk.cell (a := ⟨g, o + 1, none⟩) hg c1, hk.cell (a := ⟨g, o + 2, none⟩) hg c2, hk.cell (a := ⟨g, o + 3, none⟩) hg c3⟩, Ty.Own.keep hk (fun b hb => hd b (by simp [hb])) h1, Ty.RowOwn.keep hk hg (fun b hb => hd b (by simp [hb])) h2⟩
end
theorem Ty.RowOwn.get {w : World} : ∀ {ks : List Ty} {g o : Nat} {bs : List Nat}, Ty.RowOwn w ks g o bs → ∀ {i : Nat} {t : Ty}, ks[i]? = some t → ∃ (A B : Option Addr) (ca cb : Nat) (b1 : List Nat), (∀ b ∈ b1, b ∈ bs) ∧ (w.cell? ⟨g, o + i * 4, none⟩ = some (.int .i64 t.kind) ∧ w.cell? ⟨g, o + i * 4 + 1, none⟩ = some (.string t.name) ∧ w.cell? ⟨g, o + i * 4 + 2, none⟩ = some (.slice A t.labels.length ca) ∧ w.cell? ⟨g, o + i * 4 + 3, none⟩ = some (.slice B t.kids.length cb)) ∧ Ty.Own w t A B b1
  | x :: xs, g, o, bs, h, 0, t, ht => by
    unfold Ty.RowOwn at h
    obtain ⟨A, B, ca, cb, b1, b2, rfl, hc, h1, _⟩ := h
    simp at ht
    subst ht
    rw [Nat.zero_mul, Nat.add_zero]
    exact ⟨A, B, ca, cb, b1, fun b hb => by simp [hb], hc, h1⟩
  | x :: xs, g, o, bs, h, i + 1, t, ht => by
    unfold Ty.RowOwn at h
    obtain ⟨A, B, ca, cb, b1, b2, rfl, _, _, h2⟩ := h
    obtain ⟨A', B', ca', cb', b3, hs, hc, h3⟩ := Ty.RowOwn.get h2 (i := i) (t := t) (by simpa using ht)
    rw [show o + 4 + i * 4 = o + (i + 1) * 4 by omega] at hc
    exact ⟨A', B', ca', cb', b3, fun b hb => by simp [hs b hb], hc, h3⟩
theorem Ty.RowOwn.snoc {w : World} : ∀ {ks : List Ty} {g o : Nat} {bs : List Nat}, Ty.RowOwn w ks g o bs → ∀ {t : Ty} {A B : Option Addr} {ca cb : Nat} {b1 : List Nat}, (w.cell? ⟨g, o + ks.length * 4, none⟩ = some (.int .i64 t.kind) ∧ w.cell? ⟨g, o + ks.length * 4 + 1, none⟩ = some (.string t.name) ∧ w.cell? ⟨g, o + ks.length * 4 + 2, none⟩ = some (.slice A t.labels.length ca) ∧ w.cell? ⟨g, o + ks.length * 4 + 3, none⟩ = some (.slice B t.kids.length cb)) → Ty.Own w t A B b1 → Ty.RowOwn w (ks ++ [t]) g o (bs ++ b1)
  | [], g, o, bs, h, t, A, B, ca, cb, b1, hc, ht => by
    unfold Ty.RowOwn at h
    subst h
    rw [List.length_nil, Nat.zero_mul, Nat.add_zero] at hc
    rw [List.nil_append, List.nil_append]
    unfold Ty.RowOwn
    exact ⟨A, B, ca, cb, b1, [], by simp, hc, ht, by unfold Ty.RowOwn; rfl⟩
  | x :: xs, g, o, bs, h, t, A, B, ca, cb, b1, hc, ht => by
    unfold Ty.RowOwn at h
    obtain ⟨A', B', ca', cb', b3, b4, rfl, hx, h1, h2⟩ := h
    rw [List.length_cons, show o + (xs.length + 1) * 4 = o + 4 + xs.length * 4 by omega] at hc
    rw [List.cons_append]
    unfold Ty.RowOwn
    exact ⟨A', B', ca', cb', b3, b4 ++ b1, by simp, hx, h1, Ty.RowOwn.snoc h2 hc ht⟩
/-- It lies in memory. -/
theorem Ty.Own.at_ {w : World} {lo : Nat} : ∀ {T : Ty} {A B : Option Addr} {bs : List Nat}, (∀ b ∈ bs, lo ≤ b) → Ty.Own w T A B bs → Ty.At w lo T A B := by
  intro T
  induction T using Ty.kidInd with
  | h T ih =>
    intro A B bs hlo h
    obtain ⟨b1, b2, rfl, h1, h2⟩ := Ty.own_eq.mp h
    refine Ty.At.mk' (h1.strs fun b hb => hlo b (by simp [hb])) fun hp => ?_
    rcases h2 with ⟨h2, _⟩ | ⟨g, b3, e1, rfl, e3, e4⟩
    · rw [h2] at hp
      simp at hp
    · refine ⟨g, 0, e1, hlo g (by simp), fun i t ht => ?_⟩
      obtain ⟨A', B', ca, cb, b4, hs, ⟨c0, c1, c2, c3⟩, h5⟩ := e4.get ht
      rw [Nat.mul_comm i 4] at c0 c1 c2 c3
      exact ⟨A', B', ca, cb, c0, c1, c2, c3, ih i t ht (fun b hb => hlo b (by simp [hs b hb])) h5⟩
end Go.Proofs.YtbjcldekapipaaaDoor
