/-
  An argument that is an interface, opened. No condition.
-/
import Derived.Test.YtfadodmkppeodaaFnOpen
import Derived.Test.YtfadodmkppeodaaStFa
namespace Go.Proofs.Ytfadodmkppeodaa
open Go.ChangeShapes Go.WideShapes Go.ChangeAt Go.RowKit Go.Deep

section
variable {H : Type} {enc : TypeId × Value → H} {w : World} {base : Nat} {spare : Nat → Bool} {held : Bool}
theorem list7 {α : Type} {l : List α} (h : l.length = 7) : ∃ a b c d e f g, l = [a, b, c, d, e, f, g] := by
  match l, h with
  | [a, b, c, d, e, f, g], _ => exact ⟨a, b, c, d, e, f, g, rfl⟩
theorem cellsFc : Try.prog.cellsOf 123 = 7 := by kernel_rfl
theorem cellsFcs : Try.prog.cellsOf 46 = 1 := by kernel_rfl
theorem cellsFa : Try.prog.cellsOf 48 = 5 := by kernel_rfl
theorem cellsStrs : Try.prog.cellsOf 22 = 1 := by kernel_rfl
theorem open_fc {fuel : Nat} {cs : List Value} {x : DataW H × List MemPlace} (h : DataW.trod enc Try.prog w base spare held fuel 123 cs = some x) :
    ∃ (p : Fc) (R A B : Option Addr) (c ca cb : Nat), cs = [.string p.name, .slice R p.type.params.length c, .int .i64 p.type.res.kind, .string p.type.res.name, .slice A p.type.res.labels.length ca, .slice B p.type.res.kids.length cb, .bool p.type.async] ∧ Fc.At w 0 p R A B ∧ p.Fin := by
  obtain ⟨xs, n, rfl, _, hl, hlen, hf⟩ := DataW.trod_struct Try.underlying123 h
  rw [cellsFc] at hl
  have hlen' : xs.length = 2 := hlen
  obtain ⟨c0, c1, c2, c3, c4, c5, c6, rfl⟩ := list7 hl
  obtain ⟨y0, y1, rfl⟩ := list2 hlen'
  clear hl hlen hlen'
  have f0 := hf 0 _ rfl
  have f1 := hf 1 _ rfl
  simp [cellsFn, cellsStr] at f0 f1
  obtain ⟨v0, e0, _, w0⟩ := DataW.trod_string Try.underlying9 f0
  obtain ⟨f, R, A, B, c, ca, cb, e1, hat, hfin⟩ := open_fn f1
  simp at e0 e1
  obtain ⟨rfl, rfl, rfl, rfl, rfl, rfl⟩ := e1
  subst e0
  exact ⟨⟨v0, f⟩, R, A, B, c, ca, cb, rfl, hat, w0, hfin⟩
theorem open_fcs {fuel : Nat} {cs : List Value} {x : DataW H × List MemPlace} (h : DataW.trod enc Try.prog w base spare held fuel 46 cs = some x) :
    ∃ (ps : List Fc) (R : Option Addr) (cap : Nat), cs = [.slice R ps.length cap] ∧ Fcs w 0 ps R ∧ ps.length ≤ maxLen ∧ ∀ p ∈ ps, p.Fin := by
  rcases DataW.trod_slice Try.underlying46 h with ⟨e, _⟩ | ⟨a, len, cap, elems, rest, m, hnm, e, _, _, hle, hcap, hel, hi, _, _⟩
  · exact ⟨[], none, 0, by rw [e]; rfl, fun h => absurd h (by simp), by simp, by simp⟩
  have each : ∀ i, i < len → ∃ p : Fc, (∃ R A B c ca cb, w.cell? (a.add (i * 7)) = some (.string p.name) ∧ w.cell? (a.add (i * 7 + 1)) = some (.slice R p.type.params.length c) ∧ w.cell? (a.add (i * 7 + 2)) = some (.int .i64 p.type.res.kind) ∧ w.cell? (a.add (i * 7 + 3)) = some (.string p.type.res.name) ∧ w.cell? (a.add (i * 7 + 4)) = some (.slice A p.type.res.labels.length ca) ∧ w.cell? (a.add (i * 7 + 5)) = some (.slice B p.type.res.kids.length cb) ∧ w.cell? (a.add (i * 7 + 6)) = some (.bool p.type.async) ∧ Fc.At w 0 p R A B) ∧ p.Fin := by
    intro i hil
    have h1 := hi i hil
    rw [List.getElem?_eq_getElem (by omega), cellsFc] at h1
    obtain ⟨cs', hc, ht⟩ := Option.bind_eq_some_iff.1 h1
    obtain ⟨p, R, A, B, c, ca, cb, rfl, hat, hfin⟩ := open_fc ht
    obtain ⟨_, _, hcell⟩ := World.cells?_some hc
    have a0 := hcell 0 (by omega)
    have a1 := hcell 1 (by omega)
    have a2 := hcell 2 (by omega)
    have a3 := hcell 3 (by omega)
    have a4 := hcell 4 (by omega)
    have a5 := hcell 5 (by omega)
    have a6 := hcell 6 (by omega)
    simp only [Go.Deep.add_add] at a0 a1 a2 a3 a4 a5 a6
    exact ⟨p, ⟨R, A, B, c, ca, cb, a0, a1, a2, a3, a4, a5, a6, hat⟩, hfin⟩
  obtain ⟨ps, hps, hp⟩ := list_choose len each
  refine ⟨ps, some a, cap, by rw [e, hps], fun hpos => ?_, by omega, fun p hpm => ?_⟩
  · obtain ⟨⟨_, _, _, _, _, _, h0, _⟩, _⟩ := hp 0 _ (List.getElem?_eq_getElem hpos)
    rw [Nat.zero_mul] at h0
    have ha : a.add 0 = a := by unfold Addr.add; simp
    rw [ha] at h0
    have hpl := plain_cell h0
    refine ⟨a.block, a.off, by rw [← hpl], Nat.zero_le _, fun i p hpi => ?_⟩
    obtain ⟨⟨R, A, B, c, ca, cb, h1, h2, h3, h4, h5, h6, h7, h8⟩, _⟩ := hp i p hpi
    rw [hpl, add_plain0] at h1 h2 h3 h4 h5 h6 h7
    exact ⟨R, c, A, B, ca, cb, h1, h2, h3, h4, h5, h6, h7, h8⟩
  · obtain ⟨i, hi'⟩ := List.getElem?_of_mem hpm
    exact (hp i p hi').2
theorem open_fa {fuel : Nat} {cs : List Value} {x : DataW H × List MemPlace} (h : DataW.trod enc Try.prog w base spare held fuel 48 cs = some x) :
    ∃ (f : Fa) (A R : Option Addr) (ca c : Nat), cs = [.string f.pack, .string f.name, .string f.version, .slice A f.ress.length ca, .slice R f.funcs.length c] ∧ Fa.At w 0 f A R ∧ f.Fin := by
  obtain ⟨xs, n, rfl, _, hl, hlen, hf⟩ := DataW.trod_struct Try.underlying48 h
  rw [cellsFa] at hl
  have hlen' : xs.length = 5 := hlen
  obtain ⟨c0, c1, c2, c3, c4, rfl⟩ := list5 hl
  obtain ⟨y0, y1, y2, y3, y4, rfl⟩ := list5 hlen'
  clear hl hlen hlen'
  have f0 := hf 0 _ rfl
  have f1 := hf 1 _ rfl
  have f2 := hf 2 _ rfl
  have f3 := hf 3 _ rfl
  have f4 := hf 4 _ rfl
  simp [cellsStr, cellsStrs, cellsFcs] at f0 f1 f2 f3 f4
  obtain ⟨v0, e0, _, w0⟩ := DataW.trod_string Try.underlying9 f0
  obtain ⟨v1, e1, _, w1⟩ := DataW.trod_string Try.underlying9 f1
  obtain ⟨v2, e2, _, w2⟩ := DataW.trod_string Try.underlying9 f2
  obtain ⟨ls, A, ca, e3, hA, hA1, hA2⟩ := open_labels f3
  obtain ⟨ps, R, c, e4, hR, hR1, hR2⟩ := open_fcs f4
  simp at e0 e1 e2 e3 e4
  subst e0 e1 e2 e3 e4
  exact ⟨⟨v0, v1, v2, ls, ps⟩, A, R, ca, c, rfl, ⟨hA, hR⟩, w0, w1, w2, ⟨hA1, hA2⟩, hR1, hR2⟩
end
end Go.Proofs.Ytfadodmkppeodaa
