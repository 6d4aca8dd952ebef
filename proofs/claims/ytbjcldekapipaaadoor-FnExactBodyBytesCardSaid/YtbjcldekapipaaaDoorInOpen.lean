/-
  An argument of the struct Ins, opened. No condition.
-/
import Derived.Test.YtbjcldekapipaaaDoorStIn
import Derived.Test.YtbjcldekapipaaaDoorListChoose
import Derived.Deep.DeepHandedRow
import Derived.OpenShut
namespace Go.Proofs.YtbjcldekapipaaaDoor
open Go.ChangeShapes Go.WideShapes Go.ChangeAt Go.RowKit Go.Deep

section
variable {H : Type} {enc : TypeId × Value → H} {w : World} {base : Nat} {spare : Nat → Bool} {held : Bool}
theorem tup2In {α : Type} {l : List α} (h : l.length = 2) : ∃ a0 a1, l = [a0, a1] := by
  match l, h with
  | [a0, a1], _ => exact ⟨a0, a1, rfl⟩
theorem cellsI64In : Tryd.prog.cellsOf 2 = 1 := by kernel_rfl
theorem cellsTextIn : Tryd.prog.cellsOf 9 = 1 := by kernel_rfl
theorem cellsBoolIn : Tryd.prog.cellsOf 4 = 1 := by kernel_rfl
theorem cellsInIn : Tryd.prog.cellsOf 25 = 2 := by kernel_rfl
theorem open_in {fuel : Nat} {cs : List Value} {x : DataW H × List MemPlace} (h : DataW.trod enc Tryd.prog w base spare held fuel 25 cs = some x) :
    ∃ (b : In), cs = [.int .i64 b.op, .int .i64 b.a] ∧ b.Fin := by
  obtain ⟨xs, n, rfl, _, hl, hlen, hf⟩ := DataW.trod_struct Tryd.underlying25 h
  rw [cellsInIn] at hl
  have hlen' : xs.length = 2 := hlen
  obtain ⟨q0, q1, rfl⟩ := tup2In hl
  obtain ⟨y0, y1, rfl⟩ := tup2In hlen'
  clear hl hlen hlen'
  have f0 := hf 0 _ rfl
  have f1 := hf 1 _ rfl
  simp [cellsI64In] at f0 f1
  obtain ⟨v0, e0, _, w0⟩ := DataW.trod_int Tryd.underlying2 f0
  obtain ⟨v1, e1, _, w1⟩ := DataW.trod_int Tryd.underlying2 f1
  simp at e0 e1
  subst e0 e1
  exact ⟨⟨v0, v1⟩, rfl, wf_i64_bounds w0, wf_i64_bounds w1⟩
theorem cellsInsIn : Tryd.prog.cellsOf 34 = 1 := by kernel_rfl
theorem open_ins {fuel : Nat} {cs : List Value} {x : DataW H × List MemPlace} (h : DataW.trod enc Tryd.prog w base spare held fuel 34 cs = some x) :
    ∃ (ps : List In) (R : Option Addr) (cap : Nat), cs = [.slice R ps.length cap] ∧ Ins w 0 ps R ∧ ps.length ≤ maxLen ∧ ∀ p ∈ ps, p.Fin := by
  rcases DataW.trod_slice Tryd.underlying34 h with ⟨e, _⟩ | ⟨a, len, cap, elems, rest, m, hnm, e, _, _, hle, hcap, hel, hi, _, _⟩
  · exact ⟨[], none, 0, by rw [e]; rfl, fun h => absurd h (by simp), by simp, by simp⟩
  have each : ∀ i, i < len → ∃ p : In, (w.cell? (a.add (i * 2)) = some (.int .i64 p.op) ∧ w.cell? (a.add (i * 2 + 1)) = some (.int .i64 p.a)) ∧ p.Fin := by
    intro i hil
    have h1 := hi i hil
    rw [List.getElem?_eq_getElem (by omega), cellsInIn] at h1
    obtain ⟨cs', hc, ht⟩ := Option.bind_eq_some_iff.1 h1
    obtain ⟨p, rfl, hfin⟩ := open_in ht
    obtain ⟨_, _, hcell⟩ := World.cells?_some hc
    have a0 := hcell 0 (by omega)
    have a1 := hcell 1 (by omega)
    simp only [Go.Deep.add_add] at a0 a1
    exact ⟨p, ⟨a0, a1⟩, hfin⟩
  obtain ⟨ps, hps, hp⟩ := list_choose len each
  refine ⟨ps, some a, cap, by rw [e, hps], fun hpos => ?_, by omega, fun p hpm => ?_⟩
  · obtain ⟨⟨h0, _⟩, _⟩ := hp 0 _ (List.getElem?_eq_getElem hpos)
    rw [Nat.zero_mul] at h0
    have ha : a.add 0 = a := by unfold Addr.add; simp
    rw [ha] at h0
    have hpl := plain_cell h0
    refine ⟨a.block, a.off, by rw [← hpl], Nat.zero_le _, fun i p hpi => ?_⟩
    obtain ⟨⟨h1, h2⟩, _⟩ := hp i p hpi
    rw [hpl, add_plain0] at h1 h2
    exact ⟨h1, h2, Nat.le_refl _⟩
  · obtain ⟨i, hi'⟩ := List.getElem?_of_mem hpm
    exact (hp i p hi').2
end
end Go.Proofs.YtbjcldekapipaaaDoor
