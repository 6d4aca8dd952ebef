/-
  An argument that is a world, opened. No condition.
-/
import Derived.Test.YtciomjggfeonmaaFaOpen
import Derived.Test.YtciomjggfeonmaaStWo
namespace Go.Proofs.Ytciomjggfeonmaa
open Go.ChangeShapes Go.WideShapes Go.ChangeAt Go.RowKit Go.Deep

section
variable {H : Type} {enc : TypeId × Value → H} {w : World} {base : Nat} {spare : Nat → Bool} {held : Bool}
theorem cellsFas : Try.prog.cellsOf 40 = 1 := by kernel_rfl
theorem cellsWo : Try.prog.cellsOf 42 = 5 := by kernel_rfl
theorem open_fas {fuel : Nat} {cs : List Value} {x : DataW H × List MemPlace} (h : DataW.trod enc Try.prog w base spare held fuel 40 cs = some x) :
    ∃ (ps : List Fa) (R : Option Addr) (cap : Nat), cs = [.slice R ps.length cap] ∧ Fas w 0 ps R ∧ ps.length ≤ maxLen ∧ ∀ p ∈ ps, p.Fin := by
  rcases DataW.trod_slice Try.underlying40 h with ⟨e, _⟩ | ⟨a, len, cap, elems, rest, m, hnm, e, _, _, hle, hcap, hel, hi, _, _⟩
  · exact ⟨[], none, 0, by rw [e]; rfl, fun h => absurd h (by simp), by simp, by simp⟩
  have each : ∀ i, i < len → ∃ p : Fa, (∃ A R ca c, w.cell? (a.add (i * 5)) = some (.string p.pack) ∧ w.cell? (a.add (i * 5 + 1)) = some (.string p.name) ∧ w.cell? (a.add (i * 5 + 2)) = some (.string p.version) ∧ w.cell? (a.add (i * 5 + 3)) = some (.slice A p.ress.length ca) ∧ w.cell? (a.add (i * 5 + 4)) = some (.slice R p.funcs.length c) ∧ Fa.At w 0 p A R) ∧ p.Fin := by
    intro i hil
    have h1 := hi i hil
    rw [List.getElem?_eq_getElem (by omega), cellsFa] at h1
    obtain ⟨cs', hc, ht⟩ := Option.bind_eq_some_iff.1 h1
    obtain ⟨p, A, R, ca, c, rfl, hat, hfin⟩ := open_fa ht
    obtain ⟨_, _, hcell⟩ := World.cells?_some hc
    have a0 := hcell 0 (by omega)
    have a1 := hcell 1 (by omega)
    have a2 := hcell 2 (by omega)
    have a3 := hcell 3 (by omega)
    have a4 := hcell 4 (by omega)
    simp only [Go.Deep.add_add] at a0 a1 a2 a3 a4
    exact ⟨p, ⟨A, R, ca, c, a0, a1, a2, a3, a4, hat⟩, hfin⟩
  obtain ⟨ps, hps, hp⟩ := list_choose len each
  refine ⟨ps, some a, cap, by rw [e, hps], fun hpos => ?_, by omega, fun p hpm => ?_⟩
  · obtain ⟨⟨_, _, _, _, h0, _⟩, _⟩ := hp 0 _ (List.getElem?_eq_getElem hpos)
    rw [Nat.zero_mul] at h0
    have ha : a.add 0 = a := by unfold Addr.add; simp
    rw [ha] at h0
    have hpl := plain_cell h0
    refine ⟨a.block, a.off, by rw [← hpl], Nat.zero_le _, fun i p hpi => ?_⟩
    obtain ⟨⟨A, R, ca, c, h1, h2, h3, h4, h5, h8⟩, _⟩ := hp i p hpi
    rw [hpl, add_plain0] at h1 h2 h3 h4 h5
    exact ⟨A, ca, R, c, h1, h2, h3, h4, h5, h8⟩
  · obtain ⟨i, hi'⟩ := List.getElem?_of_mem hpm
    exact (hp i p hi').2
theorem open_wo {fuel : Nat} {cs : List Value} {x : DataW H × List MemPlace} (h : DataW.trod enc Try.prog w base spare held fuel 42 cs = some x) :
    ∃ (f : Wo) (A R : Option Addr) (ca c : Nat), cs = [.string f.pack, .string f.name, .string f.version, .slice A f.imps.length ca, .slice R f.exps.length c] ∧ Wo.At w 0 f A R ∧ f.Fin := by
  obtain ⟨xs, n, rfl, _, hl, hlen, hf⟩ := DataW.trod_struct Try.underlying42 h
  rw [cellsWo] at hl
  have hlen' : xs.length = 5 := hlen
  obtain ⟨c0, c1, c2, c3, c4, rfl⟩ := list5 hl
  obtain ⟨y0, y1, y2, y3, y4, rfl⟩ := list5 hlen'
  clear hl hlen hlen'
  have f0 := hf 0 _ rfl
  have f1 := hf 1 _ rfl
  have f2 := hf 2 _ rfl
  have f3 := hf 3 _ rfl
  have f4 := hf 4 _ rfl
  simp [cellsStr, cellsFas] at f0 f1 f2 f3 f4
  obtain ⟨v0, e0, _, w0⟩ := DataW.trod_string Try.underlying9 f0
  obtain ⟨v1, e1, _, w1⟩ := DataW.trod_string Try.underlying9 f1
  obtain ⟨v2, e2, _, w2⟩ := DataW.trod_string Try.underlying9 f2
  obtain ⟨ps, R, c, e3, hR, hR1, hR2⟩ := open_fas f3
  obtain ⟨ps', R', c', e4, hR', hR1', hR2'⟩ := open_fas f4
  simp at e0 e1 e2 e3 e4
  subst e0 e1 e2 e3 e4
  exact ⟨⟨v0, v1, v2, ps, ps'⟩, R, R', c, c', rfl, ⟨hR, hR'⟩, w0, w1, w2, ⟨hR1, hR2⟩, hR1', hR2'⟩
end
end Go.Proofs.Ytciomjggfeonmaa
