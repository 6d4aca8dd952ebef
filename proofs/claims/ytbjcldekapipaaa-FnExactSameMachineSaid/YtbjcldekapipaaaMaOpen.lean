/-
  An argument of the struct Machine, opened. No condition.
-/
import Derived.Test.YtbjcldekapipaaaStMa
import Derived.Test.YtbjcldekapipaaaListChoose
import Derived.Deep.DeepHandedRow
import Derived.OpenShut
namespace Go.Proofs.Ytbjcldekapipaaa
open Go.ChangeShapes Go.WideShapes Go.ChangeAt Go.RowKit Go.Deep

section
variable {H : Type} {enc : TypeId × Value → H} {w : World} {base : Nat} {spare : Nat → Bool} {held : Bool}
theorem tup4Ma {α : Type} {l : List α} (h : l.length = 4) : ∃ a0 a1 a2 a3, l = [a0, a1, a2, a3] := by
  match l, h with
  | [a0, a1, a2, a3], _ => exact ⟨a0, a1, a2, a3, rfl⟩
theorem tup7Ma {α : Type} {l : List α} (h : l.length = 7) : ∃ a0 a1 a2 a3 a4 a5 a6, l = [a0, a1, a2, a3, a4, a5, a6] := by
  match l, h with
  | [a0, a1, a2, a3, a4, a5, a6], _ => exact ⟨a0, a1, a2, a3, a4, a5, a6, rfl⟩
theorem cellsI64Ma : Try.prog.cellsOf 2 = 1 := by kernel_rfl
theorem cellsTextMa : Try.prog.cellsOf 9 = 1 := by kernel_rfl
theorem cellsBoolMa : Try.prog.cellsOf 4 = 1 := by kernel_rfl
theorem cellsIvsMa : Try.prog.cellsOf 23 = 1 := by kernel_rfl
theorem open_ivs {fuel : Nat} {cs : List Value} {x : DataW H × List MemPlace} (h : DataW.trod enc Try.prog w base spare held fuel 23 cs = some x) :
    ∃ (ps : List Iv) (R : Option Addr) (cap : Nat), cs = [.slice R ps.length cap] ∧ Ivs w 0 ps R ∧ ps.length ≤ maxLen ∧ ∀ p ∈ ps, p.Fin := by
  rcases DataW.trod_slice Try.underlying23 h with ⟨e, _⟩ | ⟨a, len, cap, elems, rest, m, hnm, e, _, _, hle, hcap, hel, hi, _, _⟩
  · exact ⟨[], none, 0, by rw [e]; rfl, fun h => absurd h (by simp), by simp, by simp⟩
  have each : ∀ i, i < len → ∃ p : Iv, (w.cell? (a.add (i)) = some (.int .i64 p.n)) ∧ p.Fin := by
    intro i hil
    have h1 := hi i hil
    rw [List.getElem?_eq_getElem (by omega), cellsI64Ma, Nat.mul_one] at h1
    obtain ⟨cs', hc, ht⟩ := Option.bind_eq_some_iff.1 h1
    obtain ⟨n0, rfl, _, w0⟩ := DataW.trod_int Try.underlying2 ht
    obtain ⟨_, _, hcell⟩ := World.cells?_some hc
    have a0 := hcell 0 (by simp)
    simp only [Go.Deep.add_add, Nat.add_zero] at a0
    exact ⟨⟨n0⟩, a0, wf_i64_bounds w0⟩
  obtain ⟨ps, hps, hp⟩ := list_choose len each
  refine ⟨ps, some a, cap, by rw [e, hps], fun hpos => ?_, by omega, fun p hpm => ?_⟩
  · obtain ⟨h0, _⟩ := hp 0 _ (List.getElem?_eq_getElem hpos)
    have ha : a.add 0 = a := by unfold Addr.add; simp
    rw [ha] at h0
    have hpl := plain_cell h0
    refine ⟨a.block, a.off, by rw [← hpl], Nat.zero_le _, fun i p hpi => ?_⟩
    obtain ⟨h1, _⟩ := hp i p hpi
    rw [hpl, add_plain0] at h1
    exact ⟨h1, Nat.le_refl _⟩
  · obtain ⟨i, hi'⟩ := List.getElem?_of_mem hpm
    exact (hp i p hi').2
theorem cellsFrMa : Try.prog.cellsOf 94 = 4 := by kernel_rfl
theorem open_fr {fuel : Nat} {cs : List Value} {x : DataW H × List MemPlace} (h : DataW.trod enc Try.prog w base spare held fuel 94 cs = some x) :
    ∃ (b : Fr) (Rlocals : Option Addr) (clocals : Nat), cs = [.int .i64 b.core, .int .i64 b.pc, .int .i64 b.base, .slice Rlocals b.locals.length clocals] ∧ Fr.At w 0 b Rlocals ∧ b.Fin := by
  obtain ⟨xs, n, rfl, _, hl, hlen, hf⟩ := DataW.trod_struct Try.underlying94 h
  rw [cellsFrMa] at hl
  have hlen' : xs.length = 4 := hlen
  obtain ⟨q0, q1, q2, q3, rfl⟩ := tup4Ma hl
  obtain ⟨y0, y1, y2, y3, rfl⟩ := tup4Ma hlen'
  clear hl hlen hlen'
  have f0 := hf 0 _ rfl
  have f1 := hf 1 _ rfl
  have f2 := hf 2 _ rfl
  have f3 := hf 3 _ rfl
  simp [cellsI64Ma, cellsIvsMa] at f0 f1 f2 f3
  obtain ⟨v0, e0, _, w0⟩ := DataW.trod_int Try.underlying2 f0
  obtain ⟨v1, e1, _, w1⟩ := DataW.trod_int Try.underlying2 f1
  obtain ⟨v2, e2, _, w2⟩ := DataW.trod_int Try.underlying2 f2
  obtain ⟨v3, Rlocals, clocals, e3, hR3, hL3, hF3⟩ := open_ivs f3
  simp at e0 e1 e2 e3
  subst e0 e1 e2 e3
  exact ⟨⟨v0, v1, v2, v3⟩, Rlocals, clocals, rfl, hR3, wf_i64_bounds w0, wf_i64_bounds w1, wf_i64_bounds w2, ⟨hL3, hF3⟩⟩
theorem cellsFrsMa : Try.prog.cellsOf 22 = 1 := by kernel_rfl
theorem open_frs {fuel : Nat} {cs : List Value} {x : DataW H × List MemPlace} (h : DataW.trod enc Try.prog w base spare held fuel 22 cs = some x) :
    ∃ (ps : List Fr) (R : Option Addr) (cap : Nat), cs = [.slice R ps.length cap] ∧ Frs w 0 ps R ∧ ps.length ≤ maxLen ∧ ∀ p ∈ ps, p.Fin := by
  rcases DataW.trod_slice Try.underlying22 h with ⟨e, _⟩ | ⟨a, len, cap, elems, rest, m, hnm, e, _, _, hle, hcap, hel, hi, _, _⟩
  · exact ⟨[], none, 0, by rw [e]; rfl, fun h => absurd h (by simp), by simp, by simp⟩
  have each : ∀ i, i < len → ∃ p : Fr, (∃ Rlocals clocals, w.cell? (a.add (i * 4)) = some (.int .i64 p.core) ∧ w.cell? (a.add (i * 4 + 1)) = some (.int .i64 p.pc) ∧ w.cell? (a.add (i * 4 + 2)) = some (.int .i64 p.base) ∧ w.cell? (a.add (i * 4 + 3)) = some (.slice Rlocals p.locals.length clocals) ∧ Fr.At w 0 p Rlocals) ∧ p.Fin := by
    intro i hil
    have h1 := hi i hil
    rw [List.getElem?_eq_getElem (by omega), cellsFrMa] at h1
    obtain ⟨cs', hc, ht⟩ := Option.bind_eq_some_iff.1 h1
    obtain ⟨p, Rlocals, clocals, rfl, hat, hfin⟩ := open_fr ht
    obtain ⟨_, _, hcell⟩ := World.cells?_some hc
    have a0 := hcell 0 (by omega)
    have a1 := hcell 1 (by omega)
    have a2 := hcell 2 (by omega)
    have a3 := hcell 3 (by omega)
    simp only [Go.Deep.add_add] at a0 a1 a2 a3
    exact ⟨p, ⟨Rlocals, clocals, a0, a1, a2, a3, hat⟩, hfin⟩
  obtain ⟨ps, hps, hp⟩ := list_choose len each
  refine ⟨ps, some a, cap, by rw [e, hps], fun hpos => ?_, by omega, fun p hpm => ?_⟩
  · obtain ⟨⟨_, _, h0, _⟩, _⟩ := hp 0 _ (List.getElem?_eq_getElem hpos)
    rw [Nat.zero_mul] at h0
    have ha : a.add 0 = a := by unfold Addr.add; simp
    rw [ha] at h0
    have hpl := plain_cell h0
    refine ⟨a.block, a.off, by rw [← hpl], Nat.zero_le _, fun i p hpi => ?_⟩
    obtain ⟨⟨Rlocals, clocals, h1, h2, h3, h4, h5⟩, _⟩ := hp i p hpi
    rw [hpl, add_plain0] at h1 h2 h3 h4
    exact ⟨Rlocals, clocals, h1, h2, h3, h4, h5⟩
  · obtain ⟨i, hi'⟩ := List.getElem?_of_mem hpm
    exact (hp i p hi').2
theorem cellsMaMa : Try.prog.cellsOf 25 = 7 := by kernel_rfl
theorem open_ma {fuel : Nat} {cs : List Value} {x : DataW H × List MemPlace} (h : DataW.trod enc Try.prog w base spare held fuel 25 cs = some x) :
    ∃ (b : Ma) (Rframes : Option Addr) (cframes : Nat) (Rstack : Option Addr) (cstack : Nat) (Rargs : Option Addr) (cargs : Nat), cs = [.int .i64 b.status, .slice Rframes b.frames.length cframes, .slice Rstack b.stack.length cstack, .int .i64 b.imp, .slice Rargs b.args.length cargs, .int .i64 b.result, .int .i64 b.trap] ∧ Ma.At w 0 b Rframes Rstack Rargs ∧ b.Fin := by
  obtain ⟨xs, n, rfl, _, hl, hlen, hf⟩ := DataW.trod_struct Try.underlying25 h
  rw [cellsMaMa] at hl
  have hlen' : xs.length = 7 := hlen
  obtain ⟨q0, q1, q2, q3, q4, q5, q6, rfl⟩ := tup7Ma hl
  obtain ⟨y0, y1, y2, y3, y4, y5, y6, rfl⟩ := tup7Ma hlen'
  clear hl hlen hlen'
  have f0 := hf 0 _ rfl
  have f1 := hf 1 _ rfl
  have f2 := hf 2 _ rfl
  have f3 := hf 3 _ rfl
  have f4 := hf 4 _ rfl
  have f5 := hf 5 _ rfl
  have f6 := hf 6 _ rfl
  simp [cellsI64Ma, cellsFrsMa, cellsIvsMa] at f0 f1 f2 f3 f4 f5 f6
  obtain ⟨v0, e0, _, w0⟩ := DataW.trod_int Try.underlying2 f0
  obtain ⟨v1, Rframes, cframes, e1, hR1, hL1, hF1⟩ := open_frs f1
  obtain ⟨v2, Rstack, cstack, e2, hR2, hL2, hF2⟩ := open_ivs f2
  obtain ⟨v3, e3, _, w3⟩ := DataW.trod_int Try.underlying2 f3
  obtain ⟨v4, Rargs, cargs, e4, hR4, hL4, hF4⟩ := open_ivs f4
  obtain ⟨v5, e5, _, w5⟩ := DataW.trod_int Try.underlying2 f5
  obtain ⟨v6, e6, _, w6⟩ := DataW.trod_int Try.underlying2 f6
  simp at e0 e1 e2 e3 e4 e5 e6
  subst e0 e1 e2 e3 e4 e5 e6
  exact ⟨⟨v0, v1, v2, v3, v4, v5, v6⟩, Rframes, cframes, Rstack, cstack, Rargs, cargs, rfl, ⟨hR1, hR2, hR4⟩, wf_i64_bounds w0, ⟨hL1, hF1⟩, ⟨hL2, hF2⟩, wf_i64_bounds w3, ⟨hL4, hF4⟩, wf_i64_bounds w5, wf_i64_bounds w6⟩
end
end Go.Proofs.Ytbjcldekapipaaa
