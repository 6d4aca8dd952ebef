/-
  Trees of types that lie in plain blocks; what is read there is one tree; that they stay there. No condition.
-/
import Derived.Test.YtifchfecfkdjlaaGreatDoorMF
namespace Go.Proofs.YtifchfecfkdjlaaGreatDoor
open Go.ChangeShapes Go.WideShapes Go.ChangeAt Go.RowKit Go.Deep

/-- What lay in cells lies there still, and a plain block is one still. -/
def Kp (w w' : World) : Prop := KeptFrom 0 w w' ∧ ∀ b, Blk w b → Blk w' b
theorem Kp.cell {w w' : World} (h : Kp w w') {a : Addr} {v : Value} (hc : w.cell? a = some v) : w'.cell? a = some v := h.1 a v (Nat.zero_le _) hc
theorem Kp.of {w w' : World} (h : ∀ (a : Addr) (v : Value), 0 ≤ a.block → w.cell? a = some v → w'.cell? a = some v) (k : ∀ b, Blk w b → Blk w' b) : Kp w w' := ⟨⟨h, k⟩, k⟩
theorem Kp.refl (w : World) : Kp w w := ⟨⟨fun _ _ _ h => h, fun _ h => h⟩, fun _ h => h⟩
theorem Kp.trans {a b c : World} (h : Kp a b) (k : Kp b c) : Kp a c := ⟨h.1.trans k.1, fun x hx => k.2 x (h.2 x hx)⟩
theorem Kp.below {w w' : World} (h : Below w.heap.size w w') : Kp w w' := ⟨KeptFrom.below h 0, fun _ hb => hb.below h⟩

theorem Ty.ext' {T U : Ty} (h1 : T.kind = U.kind) (h2 : T.name = U.name) (h3 : T.labels = U.labels) (h4 : T.kids = U.kids) : T = U := by
  cases T
  cases U
  simp only [Ty.kind, Ty.name, Ty.labels, Ty.kids] at h1 h2 h3 h4
  subst h1 h2 h3 h4
  rfl

mutual
/-- A tree lies in memory: A, B are the addresses of its labels and its kids. -/
def Ty.Pl (w : World) (lo : Nat) : Ty → Option Addr → Option Addr → Prop
  | .mk _ _ ls ks, A, B => Strs w lo ls A ∧ (0 < ks.length → ∃ b o : Nat, B = some ⟨b, o, none⟩ ∧ (lo ≤ b ∧ Blk w b) ∧ Ty.RowPl w lo ks b o)
/-- The kids lie one behind the other, four cells each. -/
def Ty.RowPl (w : World) (lo : Nat) : List Ty → Nat → Nat → Prop
  | [], _, _ => True
  | t :: ts, b, o => (∃ (A B : Option Addr) (ca cb : Nat), w.cell? ⟨b, o, none⟩ = some (.int .i64 t.kind) ∧ w.cell? ⟨b, o + 1, none⟩ = some (.string t.name) ∧ w.cell? ⟨b, o + 2, none⟩ = some (.slice A t.labels.length ca) ∧
      w.cell? ⟨b, o + 3, none⟩ = some (.slice B t.kids.length cb) ∧ Ty.Pl w lo t A B) ∧ Ty.RowPl w lo ts b (o + 4)
end

/-- One kid's cells. -/
structure Ty.CellsPl (w : World) (lo : Nat) (t : Ty) (b o : Nat) (A B : Option Addr) (ca cb : Nat) : Prop where
  kind : w.cell? ⟨b, o, none⟩ = some (.int .i64 t.kind)
  name : w.cell? ⟨b, o + 1, none⟩ = some (.string t.name)
  labels : w.cell? ⟨b, o + 2, none⟩ = some (.slice A t.labels.length ca)
  kids : w.cell? ⟨b, o + 3, none⟩ = some (.slice B t.kids.length cb)
  tree : Ty.Pl w lo t A B

theorem Ty.RowPl.get {w : World} {lo : Nat} : ∀ {ks : List Ty} {b o : Nat}, Ty.RowPl w lo ks b o → ∀ {i : Nat} {t : Ty}, ks[i]? = some t → ∃ A B ca cb, Ty.CellsPl w lo t b (o + 4 * i) A B ca cb
  | x :: xs, b, o, h, 0, t, ht => by
    unfold Ty.RowPl at h
    obtain ⟨⟨A, B, ca, cb, h1, h2, h3, h4, h5⟩, _⟩ := h
    simp at ht
    subst ht
    exact ⟨A, B, ca, cb, h1, h2, h3, h4, h5⟩
  | x :: xs, b, o, h, i + 1, t, ht => by
    unfold Ty.RowPl at h
    obtain ⟨A, B, ca, cb, hc⟩ := Ty.RowPl.get h.2 (i := i) (t := t) (by simpa using ht)
    rw [show o + 4 + 4 * i = o + 4 * (i + 1) by omega] at hc
    exact ⟨A, B, ca, cb, hc⟩
theorem Ty.RowPl.mk {w : World} {lo : Nat} : ∀ {ks : List Ty} {b o : Nat}, (∀ (i : Nat) (t : Ty), ks[i]? = some t → ∃ A B ca cb, Ty.CellsPl w lo t b (o + 4 * i) A B ca cb) → Ty.RowPl w lo ks b o
  | [], b, o, _ => by unfold Ty.RowPl; trivial
  | x :: xs, b, o, h => by
    unfold Ty.RowPl
    refine ⟨?_, Ty.RowPl.mk fun i t ht => ?_⟩
    · obtain ⟨A, B, ca, cb, hc⟩ := h 0 x rfl
      exact ⟨A, B, ca, cb, hc.kind, hc.name, hc.labels, hc.kids, hc.tree⟩
    · obtain ⟨A, B, ca, cb, hc⟩ := h (i + 1) t (by simpa using ht)
      rw [show o + 4 + 4 * i = o + 4 * (i + 1) by omega]
      exact ⟨A, B, ca, cb, hc⟩

theorem Ty.Pl.strs {w : World} {lo : Nat} {T : Ty} {A B : Option Addr} (h : Ty.Pl w lo T A B) : Strs w lo T.labels A := by
  cases T
  unfold Ty.Pl at h
  exact h.1
/-- Where the kids lie. -/
theorem Ty.Pl.row {w : World} {lo : Nat} {T : Ty} {A B : Option Addr} (h : Ty.Pl w lo T A B) (hp : 0 < T.kids.length) :
    ∃ b o, B = some ⟨b, o, none⟩ ∧ (lo ≤ b ∧ Blk w b) ∧ ∀ (i : Nat) (t : Ty), T.kids[i]? = some t → ∃ A' B' ca cb, Ty.CellsPl w lo t b (o + 4 * i) A' B' ca cb := by
  cases T with
  | mk k n l ks =>
    unfold Ty.Pl at h
    obtain ⟨b, o, hb, hlo, hr⟩ := h.2 hp
    exact ⟨b, o, hb, hlo, fun i t ht => hr.get ht⟩
theorem Ty.Pl.mk' {w : World} {lo : Nat} {T : Ty} {A B : Option Addr} (h1 : Strs w lo T.labels A) (h2 : 0 < T.kids.length → ∃ b o : Nat, B = some ⟨b, o, none⟩ ∧ (lo ≤ b ∧ Blk w b) ∧ ∀ (i : Nat) (t : Ty), T.kids[i]? = some t → ∃ A' B' ca cb, Ty.CellsPl w lo t b (o + 4 * i) A' B' ca cb) : Ty.Pl w lo T A B := by
  cases T with
  | mk k n l ks =>
    unfold Ty.Pl
    refine ⟨h1, fun hk => ?_⟩
    obtain ⟨b, o, hb, hlo, h⟩ := h2 hk
    exact ⟨b, o, hb, hlo, Ty.RowPl.mk h⟩

theorem Ty.Pl.keep {w w' : World} {lo : Nat} (hk : KeptFrom lo w w') : ∀ {T : Ty} {A B : Option Addr}, Ty.Pl w lo T A B → Ty.Pl w' lo T A B := by
  intro T
  induction T using Ty.kidInd with
  | h T ih =>
    intro A B h
    refine Ty.Pl.mk' (h.strs.keep hk) fun hp => ?_
    obtain ⟨b, o, hb, hlo, hr⟩ := h.row hp
    refine ⟨b, o, hb, ⟨hlo.1, hk.blk b hlo.2⟩, fun i t ht => ?_⟩
    obtain ⟨A', B', ca, cb, hc⟩ := hr i t ht
    exact ⟨A', B', ca, cb, hk _ _ hlo.1 hc.kind, hk _ _ hlo.1 hc.name, hk _ _ hlo.1 hc.labels, hk _ _ hlo.1 hc.kids, ih i t ht hc.tree⟩
theorem Ty.Pl.low {w : World} {lo lo' : Nat} (hl : lo' ≤ lo) : ∀ {T : Ty} {A B : Option Addr}, Ty.Pl w lo T A B → Ty.Pl w lo' T A B := by
  intro T
  induction T using Ty.kidInd with
  | h T ih =>
    intro A B h
    refine Ty.Pl.mk' (h.strs.low hl) fun hp => ?_
    obtain ⟨b, o, hb, hlo, hr⟩ := h.row hp
    refine ⟨b, o, hb, ⟨by omega, hlo.2⟩, fun i t ht => ?_⟩
    obtain ⟨A', B', ca, cb, hc⟩ := hr i t ht
    exact ⟨A', B', ca, cb, hc.kind, hc.name, hc.labels, hc.kids, ih i t ht hc.tree⟩
theorem Ty.CellsPl.keep {w w' : World} {lo : Nat} {t : Ty} {b o : Nat} {A B : Option Addr} {ca cb : Nat} (h : Ty.CellsPl w lo t b o A B ca cb) (hk : KeptFrom lo w w') (hlo : lo ≤ b) : Ty.CellsPl w' lo t b o A B ca cb :=
  ⟨hk _ _ hlo h.kind, hk _ _ hlo h.name, hk _ _ hlo h.labels, hk _ _ hlo h.kids, h.tree.keep hk⟩

theorem Ty.Own.pl {w : World} {lo : Nat} : ∀ {T : Ty} {A B : Option Addr} {bs : List Nat}, (∀ b ∈ bs, lo ≤ b) → Ty.Own w T A B bs → Ty.Pl w lo T A B := by
  intro T
  induction T using Ty.kidInd with
  | h T ih =>
    intro A B bs hlo h
    obtain ⟨b1, b2, rfl, h1, h2⟩ := Ty.own_eq.mp h
    refine Ty.Pl.mk' (h1.strs fun b hb => hlo b (by simp [hb])) fun hp => ?_
    rcases h2 with ⟨h2, _⟩ | ⟨g, b3, e1, rfl, e3, e4⟩
    · rw [h2] at hp
      simp at hp
    · refine ⟨g, 0, e1, ⟨hlo g (by simp), e3⟩, fun i t ht => ?_⟩
      obtain ⟨A', B', ca, cb, b4, hs, ⟨c0, c1, c2, c3⟩, h5⟩ := e4.get ht
      rw [Nat.mul_comm i 4] at c0 c1 c2 c3
      exact ⟨A', B', ca, cb, c0, c1, c2, c3, ih i t ht (fun b hb => hlo b (by simp [hs b hb])) h5⟩
theorem Ty.Pl.at_ {w : World} {lo : Nat} : ∀ {T : Ty} {A B : Option Addr}, Ty.Pl w lo T A B → Ty.At w lo T A B := by
  intro T
  induction T using Ty.kidInd with
  | h T ih =>
    intro A B h
    refine Ty.At.mk' h.strs fun hp => ?_
    obtain ⟨b, o, e1, hlo, hr⟩ := h.row hp
    refine ⟨b, o, e1, hlo.1, fun i t ht => ?_⟩
    obtain ⟨A', B', ca, cb, c0, c1, c2, c3, h5⟩ := hr i t ht
    exact ⟨A', B', ca, cb, c0, c1, c2, c3, ih i t ht h5⟩

/-- A row of trees in a plain block. -/
def Ty.RowP (w : World) (ks : List Ty) (B : Option Addr) : Prop := 0 < ks.length → ∃ b o : Nat, B = some ⟨b, o, none⟩ ∧ Blk w b ∧ ∀ (i : Nat) (t : Ty), ks[i]? = some t → ∃ A' B' ca cb, Ty.CellsPl w 0 t b (o + i * 4) A' B' ca cb
theorem Ty.Pl.rowP {w : World} {T : Ty} {A B : Option Addr} (h : Ty.Pl w 0 T A B) : Ty.RowP w T.kids B := fun hp => by
  obtain ⟨b, o, e, ⟨_, hb⟩, hr⟩ := h.row hp
  refine ⟨b, o, e, hb, fun i t ht => ?_⟩
  obtain ⟨A', B', ca, cb, hc⟩ := hr i t ht
  rw [Nat.mul_comm 4 i] at hc
  exact ⟨A', B', ca, cb, hc⟩
theorem Ty.RowP.keep {w w' : World} {ks : List Ty} {B : Option Addr} (h : Ty.RowP w ks B) (hk : Kp w w') : Ty.RowP w' ks B := fun hp => by
  obtain ⟨b, o, e, hb, hr⟩ := h hp
  refine ⟨b, o, e, hk.2 b hb, fun i t ht => ?_⟩
  obtain ⟨A', B', ca, cb, hc⟩ := hr i t ht
  exact ⟨A', B', ca, cb, hk.cell hc.kind, hk.cell hc.name, hk.cell hc.labels, hk.cell hc.kids, hc.tree.keep hk.1⟩
theorem Ty.RowP.at_ {w : World} {ks : List Ty} {B : Option Addr} (h : Ty.RowP w ks B) {k : Nat} (hk : k < ks.length) :
    ∃ (b o : Nat) (t : Ty) (A' B' : Option Addr) (ca cb : Nat), B = some ⟨b, o, none⟩ ∧ Blk w b ∧ ks[k]? = some t ∧ Ty.CellsPl w 0 t b (o + k * 4) A' B' ca cb := by
  obtain ⟨b, o, e, hb, hr⟩ := h (by omega)
  obtain ⟨A', B', ca, cb, hc⟩ := hr k _ (List.getElem?_eq_getElem hk)
  exact ⟨b, o, _, A', B', ca, cb, e, hb, List.getElem?_eq_getElem hk, hc⟩

theorem Strs.uniq {w : World} {ls ms : List ByteArray} {A : Option Addr} (h : Strs w 0 ls A) (h' : Strs w 0 ms A) (hl : ls.length = ms.length) : ls = ms := by
  apply List.ext_getElem?
  intro i
  by_cases hi : i < ls.length
  · obtain ⟨b, o, s, e1, _, hs, hc⟩ := h.at_ hi
    obtain ⟨b', o', s', e2, _, hs', hc'⟩ := h'.at_ (k := i) (by omega)
    rw [e1] at e2
    cases e2
    rw [hc] at hc'
    cases hc'
    rw [hs, hs']
  · rw [List.getElem?_eq_none (by omega), List.getElem?_eq_none (by omega)]
theorem int_inj {k : IntKind} {a b : Int} (h : some (Value.int k a) = some (Value.int k b)) : a = b := by
  injection h with h
  injection h
theorem slice_inj {A B : Option Addr} {a b c d : Nat} (h : some (Value.slice A a c) = some (Value.slice B b d)) : A = B ∧ a = b := by
  injection h with h
  injection h with h1 h2
  exact ⟨h1, h2⟩
theorem Ty.Pl.uniq {w : World} : ∀ {T U : Ty} {A B : Option Addr}, Ty.Pl w 0 T A B → Ty.Pl w 0 U A B → T.kind = U.kind → T.name = U.name → T.labels.length = U.labels.length → T.kids.length = U.kids.length → T = U := by
  intro T
  induction T using Ty.kidInd with
  | h T ih =>
    intro U A B h h' e1 e2 e3 e4
    refine Ty.ext' e1 e2 (h.strs.uniq h'.strs e3) (List.ext_getElem? fun i => ?_)
    by_cases hi : i < T.kids.length
    · obtain ⟨b, o, t, A1, B1, ca, cb, x1, _, ht, hc⟩ := h.rowP.at_ hi
      obtain ⟨b', o', u, A2, B2, ca', cb', y1, _, hu, hd⟩ := h'.rowP.at_ (k := i) (by omega)
      rw [x1] at y1
      cases y1
      obtain ⟨p1, p2⟩ := slice_inj (hc.labels.symm.trans hd.labels)
      obtain ⟨p3, p4⟩ := slice_inj (hc.kids.symm.trans hd.kids)
      subst p1 p3
      have p5 := int_inj (hc.kind.symm.trans hd.kind)
      have p6 : t.name = u.name := by
        have p7 := hc.name.symm.trans hd.name
        injection p7 with p7
        injection p7
      rw [ht, hu, ih i t ht hc.tree hd.tree p5 p6 p2 p4]
    · rw [List.getElem?_eq_none (by omega), List.getElem?_eq_none (by omega)]
theorem Ty.RowP.uniq {w : World} {ks us : List Ty} {B : Option Addr} (h : Ty.RowP w ks B) (h' : Ty.RowP w us B) (hl : ks.length = us.length) : ks = us := by
  apply List.ext_getElem?
  intro i
  by_cases hi : i < ks.length
  · obtain ⟨b, o, t, A1, B1, ca, cb, x1, _, ht, hc⟩ := h.at_ hi
    obtain ⟨b', o', u, A2, B2, ca', cb', y1, _, hu, hd⟩ := h'.at_ (k := i) (by omega)
    rw [x1] at y1
    cases y1
    obtain ⟨p1, p2⟩ := slice_inj (hc.labels.symm.trans hd.labels)
    obtain ⟨p3, p4⟩ := slice_inj (hc.kids.symm.trans hd.kids)
    subst p1 p3
    have p5 := int_inj (hc.kind.symm.trans hd.kind)
    have p6 : t.name = u.name := by
      have p7 := hc.name.symm.trans hd.name
      injection p7 with p7
      injection p7
    rw [ht, hu, hc.tree.uniq hd.tree p5 p6 p2 p4]
  · rw [List.getElem?_eq_none (by omega), List.getElem?_eq_none (by omega)]
end Go.Proofs.YtifchfecfkdjlaaGreatDoor
