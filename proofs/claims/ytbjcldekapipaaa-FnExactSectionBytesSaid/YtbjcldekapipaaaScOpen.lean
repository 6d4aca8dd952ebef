/-
  An argument of the struct Section, opened. No condition.
-/
import Derived.Test.YtbjcldekapipaaaStSc
import Derived.Test.YtbjcldekapipaaaListChoose
import Derived.Deep.DeepHandedRow
import Derived.OpenShut
namespace Go.Proofs.Ytbjcldekapipaaa
open Go.ChangeShapes Go.WideShapes Go.ChangeAt Go.RowKit Go.Deep

section
variable {H : Type} {enc : TypeId × Value → H} {w : World} {base : Nat} {spare : Nat → Bool} {held : Bool}
theorem tup3Sc {α : Type} {l : List α} (h : l.length = 3) : ∃ a0 a1 a2, l = [a0, a1, a2] := by
  match l, h with
  | [a0, a1, a2], _ => exact ⟨a0, a1, a2, rfl⟩
theorem cellsI64Sc : Try.prog.cellsOf 2 = 1 := by kernel_rfl
theorem cellsTextSc : Try.prog.cellsOf 9 = 1 := by kernel_rfl
theorem cellsBoolSc : Try.prog.cellsOf 4 = 1 := by kernel_rfl
theorem cellsScSc : Try.prog.cellsOf 65 = 3 := by kernel_rfl
theorem open_sc {fuel : Nat} {cs : List Value} {x : DataW H × List MemPlace} (h : DataW.trod enc Try.prog w base spare held fuel 65 cs = some x) :
    ∃ (b : Sc), cs = [.int .i64 b.id, .string b.name, .string b.bytes] ∧ b.Fin := by
  obtain ⟨xs, n, rfl, _, hl, hlen, hf⟩ := DataW.trod_struct Try.underlying65 h
  rw [cellsScSc] at hl
  have hlen' : xs.length = 3 := hlen
  obtain ⟨q0, q1, q2, rfl⟩ := tup3Sc hl
  obtain ⟨y0, y1, y2, rfl⟩ := tup3Sc hlen'
  clear hl hlen hlen'
  have f0 := hf 0 _ rfl
  have f1 := hf 1 _ rfl
  have f2 := hf 2 _ rfl
  simp [cellsI64Sc, cellsTextSc] at f0 f1 f2
  obtain ⟨v0, e0, _, w0⟩ := DataW.trod_int Try.underlying2 f0
  obtain ⟨v1, e1, _, w1⟩ := DataW.trod_string Try.underlying9 f1
  obtain ⟨v2, e2, _, w2⟩ := DataW.trod_string Try.underlying9 f2
  simp at e0 e1 e2
  subst e0 e1 e2
  exact ⟨⟨v0, v1, v2⟩, rfl, wf_i64_bounds w0, w1, w2⟩
theorem cellsScsSc : Try.prog.cellsOf 33 = 1 := by kernel_rfl
theorem open_scs {fuel : Nat} {cs : List Value} {x : DataW H × List MemPlace} (h : DataW.trod enc Try.prog w base spare held fuel 33 cs = some x) :
    ∃ (ps : List Sc) (R : Option Addr) (cap : Nat), cs = [.slice R ps.length cap] ∧ Scs w 0 ps R ∧ ps.length ≤ maxLen ∧ ∀ p ∈ ps, p.Fin := by
  rcases DataW.trod_slice Try.underlying33 h with ⟨e, _⟩ | ⟨a, len, cap, elems, rest, m, hnm, e, _, _, hle, hcap, hel, hi, _, _⟩
  · exact ⟨[], none, 0, by rw [e]; rfl, fun h => absurd h (by simp), by simp, by simp⟩
  have each : ∀ i, i < len → ∃ p : Sc, (w.cell? (a.add (i * 3)) = some (.int .i64 p.id) ∧ w.cell? (a.add (i * 3 + 1)) = some (.string p.name) ∧ w.cell? (a.add (i * 3 + 2)) = some (.string p.bytes)) ∧ p.Fin := by
    intro i hil
    have h1 := hi i hil
    rw [List.getElem?_eq_getElem (by omega), cellsScSc] at h1
    obtain ⟨cs', hc, ht⟩ := Option.bind_eq_some_iff.1 h1
    obtain ⟨p, rfl, hfin⟩ := open_sc ht
    obtain ⟨_, _, hcell⟩ := World.cells?_some hc
    have a0 := hcell 0 (by omega)
    have a1 := hcell 1 (by omega)
    have a2 := hcell 2 (by omega)
    simp only [Go.Deep.add_add] at a0 a1 a2
    exact ⟨p, ⟨a0, a1, a2⟩, hfin⟩
  obtain ⟨ps, hps, hp⟩ := list_choose len each
  refine ⟨ps, some a, cap, by rw [e, hps], fun hpos => ?_, by omega, fun p hpm => ?_⟩
  · obtain ⟨⟨h0, _⟩, _⟩ := hp 0 _ (List.getElem?_eq_getElem hpos)
    rw [Nat.zero_mul] at h0
    have ha : a.add 0 = a := by unfold Addr.add; simp
    rw [ha] at h0
    have hpl := plain_cell h0
    refine ⟨a.block, a.off, by rw [← hpl], Nat.zero_le _, fun i p hpi => ?_⟩
    obtain ⟨⟨h1, h2, h3⟩, _⟩ := hp i p hpi
    rw [hpl, add_plain0] at h1 h2 h3
    exact ⟨h1, h2, h3, Nat.le_refl _⟩
  · obtain ⟨i, hi'⟩ := List.getElem?_of_mem hpm
    exact (hp i p hi').2
end
end Go.Proofs.Ytbjcldekapipaaa
