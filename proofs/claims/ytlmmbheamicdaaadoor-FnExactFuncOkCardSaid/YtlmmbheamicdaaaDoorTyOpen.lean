/-
  An argument that is a type's tree, opened. No condition.
-/
import Derived.Test.YtlmmbheamicdaaaDoorTy
import Derived.Test.YtlmmbheamicdaaaDoorListChoose
namespace Go.Proofs.YtlmmbheamicdaaaDoor
open Go.ChangeShapes Go.WideShapes Go.ChangeAt Go.RowKit Go.Deep

section
variable {H : Type} {enc : TypeId × Value → H} {w : World} {base : Nat} {spare : Nat → Bool} {held : Bool}
theorem open_labels {fuel : Nat} {cs : List Value} {x : DataW H × List MemPlace} (h : DataW.trod enc Tryd.prog w base spare held fuel 23 cs = some x) :
    ∃ (ls : List ByteArray) (A : Option Addr) (cap : Nat), cs = [.slice A ls.length cap] ∧ Strs w 0 ls A ∧ ls.length ≤ maxLen ∧ ∀ s ∈ ls, s.size ≤ maxLen := by
  rcases open_strs Tryd.underlying23 Tryd.underlying9 (by kernel_rfl) h with ⟨rfl, _⟩ | ⟨a, len, cap, m, Sx, rfl, hb, hl, hm, hmm, _, hx⟩
  · exact ⟨[], none, 0, rfl, fun h => absurd h (by simp), by simp, by simp⟩
  have hlm : len ≤ m := by rw [hmm]; split <;> omega
  obtain ⟨ls, hls, hp⟩ := list_choose (P := fun i s => w.cell? (a.add i) = some (.string s) ∧ s.size ≤ maxLen) len (fun i hi => ⟨Sx i, hx i (by omega)⟩)
  refine ⟨ls, some a, cap, by rw [hls], fun hpos => ?_, by omega, fun s hs => ?_⟩
  · have h0 := (hp 0 _ (List.getElem?_eq_getElem hpos)).1
    have ha : a.add 0 = a := by unfold Addr.add; simp
    rw [ha] at h0
    have hpl := plain_cell h0
    refine ⟨a.block, a.off, by rw [← hpl], Nat.zero_le _, fun i s hs => ?_⟩
    have h1 := (hp i s hs).1
    rw [hpl, add_plain0] at h1
    exact h1
  · obtain ⟨i, hi⟩ := List.getElem?_of_mem hs
    exact (hp i s hi).2

theorem list4 {α : Type} {l : List α} (h : l.length = 4) : ∃ a b c d, l = [a, b, c, d] := by
  match l, h with
  | [a, b, c, d], _ => exact ⟨a, b, c, d, rfl⟩
theorem open_ty : ∀ (fuel : Nat) {cs : List Value} {x : DataW H × List MemPlace}, DataW.trod enc Tryd.prog w base spare held fuel 26 cs = some x →
    ∃ (T : Ty) (A B : Option Addr) (ca cb : Nat), cs = [.int .i64 T.kind, .string T.name, .slice A T.labels.length ca, .slice B T.kids.length cb] ∧ Ty.At w 0 T A B ∧ T.Fin := by
  intro fuel
  induction fuel using Nat.strongRecOn with
  | ind fuel ih =>
    intro cs x h
    have hC : Tryd.prog.cellsOf 26 = 4 := by kernel_rfl
    have k0 : Tryd.prog.cellsOf 2 = 1 := by kernel_rfl
    have k1 : Tryd.prog.cellsOf 9 = 1 := by kernel_rfl
    have k2 : Tryd.prog.cellsOf 23 = 1 := by kernel_rfl
    have k3 : Tryd.prog.cellsOf 24 = 1 := by kernel_rfl
    obtain ⟨xs, n, rfl, _, hl, hlen, hf⟩ := DataW.trod_struct Tryd.underlying26 h
    rw [hC] at hl
    have hlen' : xs.length = 4 := hlen
    obtain ⟨c0, c1, c2, c3, rfl⟩ := list4 hl
    obtain ⟨y0, y1, y2, y3, rfl⟩ := list4 hlen'
    clear hl hlen hlen'
    have f0 := hf 0 _ rfl
    have f1 := hf 1 _ rfl
    have f2 := hf 2 _ rfl
    have f3 := hf 3 _ rfl
    simp [k0, k1, k2, k3] at f0 f1 f2 f3
    obtain ⟨v0, e0, _, wf0⟩ := DataW.trod_int Tryd.underlying2 f0
    obtain ⟨v1, e1, _, w1⟩ := DataW.trod_string Tryd.underlying9 f1
    obtain ⟨ls, A, ca, e2, hA, hA1, hA2⟩ := open_labels f2
    simp at e0 e1 e2
    subst e0 e1 e2
    have hwf := wf_i64_bounds wf0
    have kids : ∃ (ks : List Ty) (B : Option Addr) (cb : Nat), c3 = .slice B ks.length cb ∧ ks.length ≤ maxLen ∧ (0 < ks.length → ∃ b o : Nat, B = some ⟨b, o, none⟩ ∧ ∀ (i : Nat) (t : Ty), ks[i]? = some t → ∃ A' B' ca cb, Ty.Cells w 0 t b (o + 4 * i) A' B' ca cb) ∧ ∀ (i : Nat) (t : Ty), ks[i]? = some t → t.Fin := by
      rcases DataW.trod_slice Tryd.underlying24 f3 with ⟨e, _⟩ | ⟨a, len, cap, elems, rest, m, hnm, e, _, _, hle, hcap, hel, hi, _, _⟩
      · simp at e
        exact ⟨[], none, 0, by rw [e]; rfl, by simp, fun h => absurd h (by simp), by simp⟩
      simp at e
      have each : ∀ i, i < len → ∃ t : Ty, (∃ A' B' ca cb, w.cell? (a.add (4 * i)) = some (.int .i64 t.kind) ∧ w.cell? (a.add (4 * i + 1)) = some (.string t.name) ∧ w.cell? (a.add (4 * i + 2)) = some (.slice A' t.labels.length ca) ∧ w.cell? (a.add (4 * i + 3)) = some (.slice B' t.kids.length cb) ∧ Ty.At w 0 t A' B') ∧ t.Fin := by
        intro i hil
        have h1 := hi i hil
        rw [List.getElem?_eq_getElem (by omega), hC] at h1
        obtain ⟨cs', hc, ht⟩ := Option.bind_eq_some_iff.1 h1
        obtain ⟨T, A', B', ca', cb', rfl, hat, hfin⟩ := ih m (by omega) ht
        obtain ⟨_, _, hcell⟩ := World.cells?_some hc
        have a0 := hcell 0 (by omega)
        have a1 := hcell 1 (by omega)
        have a2 := hcell 2 (by omega)
        have a3 := hcell 3 (by omega)
        simp only [Go.Deep.add_add, Nat.mul_comm i 4] at a0 a1 a2 a3
        exact ⟨T, ⟨A', B', ca', cb', a0, a1, a2, a3, hat⟩, hfin⟩
      obtain ⟨ks, hks, hp⟩ := list_choose len each
      refine ⟨ks, some a, cap, by rw [e, hks], by omega, fun hpos => ?_, fun i t ht => (hp i t ht).2⟩
      obtain ⟨⟨_, _, _, _, h0, _⟩, _⟩ := hp 0 _ (List.getElem?_eq_getElem hpos)
      have ha : a.add (4 * 0) = a := by unfold Addr.add; simp
      rw [ha] at h0
      have hpl := plain_cell h0
      refine ⟨a.block, a.off, by rw [← hpl], fun i t ht => ?_⟩
      obtain ⟨⟨A', B', ca', cb', h1, h2, h3, h4, h5⟩, _⟩ := hp i t ht
      rw [hpl, add_plain0] at h1 h2 h3 h4
      exact ⟨A', B', ca', cb', h1, h2, h3, h4, h5⟩
    obtain ⟨ks, B, cb, rfl, hk1, hk2, hk3⟩ := kids
    refine ⟨.mk v0 v1 ls ks, A, B, ca, cb, rfl, ?_, ?_⟩
    · exact Ty.At.mk' hA fun hp => by
        obtain ⟨b, o, hb, h⟩ := hk2 hp
        exact ⟨b, o, hb, Nat.zero_le _, h⟩
    · exact Ty.Fin.mk' ⟨w1, hA1, hk1, hA2, hwf.2, hwf.1⟩ hk3
end
end Go.Proofs.YtlmmbheamicdaaaDoor
