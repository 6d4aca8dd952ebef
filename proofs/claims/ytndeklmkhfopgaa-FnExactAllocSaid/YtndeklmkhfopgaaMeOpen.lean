/-
  An argument that is a memory, opened. No condition.
-/
import Derived.Test.YtndeklmkhfopgaaStMe
import Derived.Test.YtndeklmkhfopgaaListChoose
import Derived.Deep.DeepHandedRow
import Derived.OpenShut
namespace Go.Proofs.Ytndeklmkhfopgaa
open Go.ChangeShapes Go.WideShapes Go.ChangeAt Go.RowKit Go.Deep

section
variable {H : Type} {enc : TypeId × Value → H} {w : World} {base : Nat} {spare : Nat → Bool} {held : Bool}
theorem two {α : Type} {l : List α} (h : l.length = 2) : ∃ a b, l = [a, b] := by
  match l, h with
  | [a, b], _ => exact ⟨a, b, rfl⟩
theorem cellsI64 : Try.prog.cellsOf 2 = 1 := by kernel_rfl
theorem cellsText : Try.prog.cellsOf 9 = 1 := by kernel_rfl
theorem cellsBk : Try.prog.cellsOf 129 = 2 := by kernel_rfl
theorem cellsBks : Try.prog.cellsOf 44 = 1 := by kernel_rfl
theorem cellsMe : Try.prog.cellsOf 46 = 2 := by kernel_rfl
theorem open_bk {fuel : Nat} {cs : List Value} {x : DataW H × List MemPlace} (h : DataW.trod enc Try.prog w base spare held fuel 129 cs = some x) :
    ∃ b : Bk, cs = [.int .i64 b.pos, .int .i64 b.size] ∧ b.Fin := by
  obtain ⟨xs, n, rfl, _, hl, hlen, hf⟩ := DataW.trod_struct Try.underlying129 h
  rw [cellsBk] at hl
  have hlen' : xs.length = 2 := hlen
  obtain ⟨c0, c1, rfl⟩ := two hl
  obtain ⟨y0, y1, rfl⟩ := two hlen'
  clear hl hlen hlen'
  have f0 := hf 0 _ rfl
  have f1 := hf 1 _ rfl
  simp [cellsI64] at f0 f1
  obtain ⟨v0, e0, _, w0⟩ := DataW.trod_int Try.underlying2 f0
  obtain ⟨v1, e1, _, w1⟩ := DataW.trod_int Try.underlying2 f1
  simp at e0 e1
  subst e0 e1
  exact ⟨⟨v0, v1⟩, rfl, wf_i64_bounds w0, wf_i64_bounds w1⟩
theorem open_bks {fuel : Nat} {cs : List Value} {x : DataW H × List MemPlace} (h : DataW.trod enc Try.prog w base spare held fuel 44 cs = some x) :
    ∃ (ps : List Bk) (R : Option Addr) (cap : Nat), cs = [.slice R ps.length cap] ∧ Bks w 0 ps R ∧ ps.length ≤ maxLen ∧ ∀ p ∈ ps, p.Fin := by
  rcases DataW.trod_slice Try.underlying44 h with ⟨e, _⟩ | ⟨a, len, cap, elems, rest, m, hnm, e, _, _, hle, hcap, hel, hi, _, _⟩
  · exact ⟨[], none, 0, by rw [e]; rfl, fun h => absurd h (by simp), by simp, by simp⟩
  have each : ∀ i, i < len → ∃ p : Bk, (w.cell? (a.add (i * 2)) = some (.int .i64 p.pos) ∧ w.cell? (a.add (i * 2 + 1)) = some (.int .i64 p.size)) ∧ p.Fin := by
    intro i hil
    have h1 := hi i hil
    rw [List.getElem?_eq_getElem (by omega), cellsBk] at h1
    obtain ⟨cs', hc, ht⟩ := Option.bind_eq_some_iff.1 h1
    obtain ⟨p, rfl, hfin⟩ := open_bk ht
    obtain ⟨_, _, hcell⟩ := World.cells?_some hc
    have a0 := hcell 0 (by omega)
    have a1 := hcell 1 (by omega)
    simp only [Go.Deep.add_add] at a0 a1
    exact ⟨p, ⟨a0, a1⟩, hfin⟩
  obtain ⟨ps, hps, hp⟩ := list_choose len each
  refine ⟨ps, some a, cap, by rw [e, hps], fun hpos => ?_, by omega, fun p hpm => ?_⟩
  · obtain ⟨⟨h0, _⟩, _⟩ := hp 0 _ (List.getElem?_eq_getElem hpos)
    rw [Nat.zero_mul] at h0
    have ha : a.add 0 = a := by unfold Addr.add; simp
    rw [ha] at h0
    have hpl := plain_cell h0
    refine ⟨a.block, a.off, by rw [← hpl], Nat.zero_le _, fun i p hpi => ?_⟩
    obtain ⟨⟨h1, h2⟩, _⟩ := hp i p hpi
    rw [hpl, add_plain0] at h1 h2
    exact ⟨h1, h2, Nat.le_refl _⟩
  · obtain ⟨i, hi'⟩ := List.getElem?_of_mem hpm
    exact (hp i p hi').2
theorem open_me {fuel : Nat} {cs : List Value} {x : DataW H × List MemPlace} (h : DataW.trod enc Try.prog w base spare held fuel 46 cs = some x) :
    ∃ (m : Me) (R : Option Addr) (c : Nat), cs = [.string m.bytes, .slice R m.free.length c] ∧ Me.At w 0 m R ∧ m.Fin := by
  obtain ⟨xs, n, rfl, _, hl, hlen, hf⟩ := DataW.trod_struct Try.underlying46 h
  rw [cellsMe] at hl
  have hlen' : xs.length = 2 := hlen
  obtain ⟨c0, c1, rfl⟩ := two hl
  obtain ⟨y0, y1, rfl⟩ := two hlen'
  clear hl hlen hlen'
  have f0 := hf 0 _ rfl
  have f1 := hf 1 _ rfl
  simp [cellsText, cellsBks] at f0 f1
  obtain ⟨v0, e0, _, w0⟩ := DataW.trod_string Try.underlying9 f0
  obtain ⟨ps, R, c, e1, hR, hR1, hR2⟩ := open_bks f1
  simp at e0 e1
  subst e0 e1
  exact ⟨⟨v0, ps⟩, R, c, rfl, hR, w0, hR1, hR2⟩
end
end Go.Proofs.Ytndeklmkhfopgaa
